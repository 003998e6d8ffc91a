import Derived.Test.YtpdcgjkfilohcaaSkyD
namespace Go.Proofs.Ytpdcgjkfilohcaa
open Go.RowKit

theorem small_like {us ts : List Tb} (h : Like us ts) (hS : Small ts) : Small us := by
  obtain ⟨hl, hk⟩ := h
  refine ⟨by rw [hl]; exact hS.1, fun k hkl => ?_⟩
  have h1 := hk k (by omega)
  have h2 := hS.2 k (by omega)
  have e1 : (us.getD k Tb.nil).s = (ts.getD k Tb.nil).s := h1.1
  have e2 : (us.getD k Tb.nil).bs = (ts.getD k Tb.nil).bs := h1.2
  rw [e1, e2]
  exact h2
theorem like_two {us vs ts : List Tb} (h : Like us ts) (h' : Like vs ts) : Like us vs := by
  refine ⟨h.1.trans h'.1.symm, fun k hk => ?_⟩
  have hk' : k < ts.length := by rw [← h'.1]; exact hk
  exact ⟨(h.2 k hk').1.trans (h'.2 k hk').1.symm, (h.2 k hk').2.trans (h'.2 k hk').2.symm⟩

set_option maxHeartbeats 2000000 in
theorem lawSkyOk_any (a : Option Addr) (cap : Nat) (ts : List Tb) (w : World) (ha : Tubes w a ts) (hF : Fits ts) :
    Calls Try.prog 8 #[.slice a ts.length cap] w fun e w' => e = .returned (.bool true) ∧ Gr w w' := by
  go_enter Try.func8, Try.ntmps8
  go_wp2_with fail
  refine (szTubeS_any _ _ ts _ ha hF).mono ?_
  rintro e w1 ⟨⟨v, rfl, hv⟩, G⟩
  by_cases hz : v < 0
  · clear hv
    go_wp2
    go_ret
    exact ⟨rfl, G⟩
  have hS := hv hz
  have HS : Hid (Small ts) := hS
  clear hv hS
  go_wp2_with fail
  refine (toTubeS_any _ _ ts _ (tubes_gr ha G) HS.out).mono ?_
  rintro e w2 ⟨⟨g2, us, rfl, hL2, hT2, -⟩, q2⟩
  go_wp2_with fail
  refine (specSkyOk_any _ _ us _ hT2 (small_like hL2 HS.out)).mono ?_
  rintro e w3 ⟨rfl, q3⟩
  rw [sky_like hL2]
  replace G := G.trans (q2.trans q3)
  clear q2 q3 hT2
  go_wp2_with fail
  refine (toTubeS_any _ _ ts _ (tubes_gr ha G) HS.out).mono ?_
  rintro e w4 ⟨⟨g4, vs, rfl, hL4, hT4, -⟩, q4⟩
  go_wp2_with fail
  refine (implSkyOk_any _ _ vs _ hT4 (small_like hL4 HS.out)).mono ?_
  rintro e w5 ⟨rfl, q5⟩
  rw [sky_like hL4]
  replace G := G.trans (q4.trans q5)
  replace hT4 := tubes_gr hT4 q5
  clear q4 q5
  go_wp2_with fail
  refine (toTubeS_any _ _ ts _ (tubes_gr ha G) HS.out).mono ?_
  rintro e w6 ⟨⟨g6, xs, rfl, hL6, hT6, -⟩, q6⟩
  go_wp2_with fail
  refine (eqTubeS_same _ _ _ _ vs xs _ (tubes_gr hT4 q6) hT6 (like_two hL4 hL6) (small_like hL4 HS.out)).mono ?_
  rintro e w7 ⟨rfl, q7⟩
  go_wp2
  go_ret
  exact ⟨rfl, G.trans (q6.trans q7)⟩

end Go.Proofs.Ytpdcgjkfilohcaa
