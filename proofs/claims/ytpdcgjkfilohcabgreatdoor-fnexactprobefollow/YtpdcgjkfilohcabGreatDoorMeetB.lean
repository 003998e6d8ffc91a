import Derived.Test.YtpdcgjkfilohcabGreatDoorMeetA
namespace Go.Proofs.YtpdcgjkfilohcabGreatDoor
open Go.RowKit
attribute [local go_sem ↓] Go.wp_at_zero Go.wp_at_succ

/-- ProbeMeet of two tubes: tick, I, J. -/
def meetO (s : ByteArray) (cs : List Bx) (t : ByteArray) (bs : List Bx) : Option (Int × Nat × Nat) := if tubeB s cs = true ∧ tubeB t bs = true then meetAll cs bs cs.length else none

theorem tube_boxes {s : ByteArray} {bs : List Bx} (h : tubeB s bs = true) : bs.length ≤ 40 ∧ ∀ k, k < bs.length → (bs.getD k Bx.nil).ok = true := by
  rw [tubeB_eq] at h
  have hc : countB bs = true := by revert h; cases countB bs <;> simp
  have hb : boxesB bs = true := by revert h; cases boxesB bs <;> simp
  refine ⟨by simpa [countB] using hc, fun k hk => ?_⟩
  rw [List.getD_eq_getElem?_getD, List.getElem?_eq_getElem hk]
  exact (List.all_eq_true.mp hb) _ (List.getElem_mem hk)

set_option maxRecDepth 100000 in
set_option maxHeartbeats 4000000 in
theorem specMeet_any (s t : ByteArray) (a a' : Option Addr) (cap cap' : Nat) (cs bs : List Bx) (w : World) (hs : s.size ≤ maxLen) (ht : t.size ≤ maxLen) (ha : Boxes w a cs) (hb : Boxes w a' bs) (hn : cs.length ≤ 1048576) (hm : bs.length ≤ 1048576) :
    Calls Tryz.prog 110 #[.agg #[.string s, .slice a cs.length cap], .agg #[.string t, .slice a' bs.length cap']] w fun e w' => e = .returned (.tuple #[.agg (clashV s t (meetO s cs t bs)), .bool (meetO s cs t bs).isSome]) ∧ Gr w w' := by
  have GB : Gr w (((w.alloc (.cells #[.string s, .slice a cs.length cap] 43)).alloc (.cells #[.string t, .slice a' bs.length cap'] 43)).alloc (.cells #[.string ⟨#[]⟩, .string ⟨#[]⟩, .int .i64 0, .int .i64 0, .int .i64 0] 175)) := (((Gr.refl _).alloc _).alloc _).alloc _
  have GW : Gr w ((w.alloc (.cells #[.string s, .slice a cs.length cap] 43)).alloc (.cells #[.string t, .slice a' bs.length cap'] 43)) := ((Gr.refl _).alloc _).alloc _
  have GT : Gr ((w.alloc (.cells #[.string s, .slice a cs.length cap] 43)).alloc (.cells #[.string t, .slice a' bs.length cap'] 43)) (((w.alloc (.cells #[.string s, .slice a cs.length cap] 43)).alloc (.cells #[.string t, .slice a' bs.length cap'] 43)).alloc (.cells #[.string ⟨#[]⟩, .string ⟨#[]⟩, .int .i64 0, .int .i64 0, .int .i64 0] 175)) := (Gr.refl _).alloc _
  have eR : ((w.alloc (.cells #[.string s, .slice a cs.length cap] 43)).alloc (.cells #[.string t, .slice a' bs.length cap'] 43)).heap.size = w.heap.size + 1 + 1 := by simp
  cases hA : tubeB s cs
  · have HV : Hid (meetO s cs t bs = none) := by show meetO s cs t bs = none; simp [meetO, hA]
    go_enter Tryz.func110, Tryz.ntmps110
    go_wp2_with fail
    refine (specTubeOk_any _ _ _ cs _ hs (boxes_gr ha GB) hn).mono ?_
    rintro e w1 ⟨rfl, g1⟩
    obtain ⟨-, q0, q1, q2, q3⟩ := two_pairs (GT.trans g1)
    have HR := five_new g1
    rw [eR] at HR
    obtain ⟨⟨r0, r1, r2, r3, r4⟩, ⟨p0, p1, p2, p3, p4⟩, -⟩ := HR
    have HR := five_new g1
    rw [eR] at HR
    have HR' : Hid (Five w1 (w.heap.size + 1 + 1) (.string ⟨#[]⟩) (.string ⟨#[]⟩) (.int .i64 0) (.int .i64 0) (.int .i64 0)) := HR.1
    clear HR
    go_wp2
    obtain ⟨v0, v1, v2, v3, v4⟩ := five_put HR'.out (.string ⟨#[]⟩) (.string ⟨#[]⟩) (.int .i64 0) (.int .i64 0) (.int .i64 0)
    unfold put5 at v0 v1 v2 v3 v4
    refine bodyPost_ret (v := .tuple #[.agg #[.string ⟨#[]⟩, .string ⟨#[]⟩, .int .i64 0, .int .i64 0, .int .i64 0], .bool false]) (by simp [results, Tryz.results110, go_sem, v0, v1, v2, v3, v4]) rfl ⟨by rw [HV.out]; rfl, ?_⟩
    exact put5_gr (GB.trans g1) (by omega) _ _ _ _ _
  cases hB : tubeB t bs
  · have HV : Hid (meetO s cs t bs = none) := by show meetO s cs t bs = none; simp [meetO, hB]
    go_enter Tryz.func110, Tryz.ntmps110
    go_wp2_with fail
    refine (specTubeOk_any _ _ _ cs _ hs (boxes_gr ha GB) hn).mono ?_
    rintro e w1 ⟨rfl, g1⟩
    obtain ⟨-, q0, q1, q2, q3⟩ := two_pairs (GT.trans g1)
    go_wp2_with fail
    refine (specTubeOk_any _ _ _ bs _ ht (boxes_gr hb (GB.trans g1)) hm).mono ?_
    rintro e w2 ⟨rfl, g2⟩
    replace g1 := g1.trans g2
    clear g2 q0 q1 q2 q3
    obtain ⟨-, q0, q1, q2, q3⟩ := two_pairs (GT.trans g1)
    have HR := five_new g1
    rw [eR] at HR
    obtain ⟨⟨r0, r1, r2, r3, r4⟩, ⟨p0, p1, p2, p3, p4⟩, -⟩ := HR
    have HR := five_new g1
    rw [eR] at HR
    have HR' : Hid (Five w2 (w.heap.size + 1 + 1) (.string ⟨#[]⟩) (.string ⟨#[]⟩) (.int .i64 0) (.int .i64 0) (.int .i64 0)) := HR.1
    clear HR
    go_wp2
    obtain ⟨v0, v1, v2, v3, v4⟩ := five_put HR'.out (.string ⟨#[]⟩) (.string ⟨#[]⟩) (.int .i64 0) (.int .i64 0) (.int .i64 0)
    unfold put5 at v0 v1 v2 v3 v4
    refine bodyPost_ret (v := .tuple #[.agg #[.string ⟨#[]⟩, .string ⟨#[]⟩, .int .i64 0, .int .i64 0, .int .i64 0], .bool false]) (by simp [results, Tryz.results110, go_sem, v0, v1, v2, v3, v4]) rfl ⟨by rw [HV.out]; rfl, ?_⟩
    exact put5_gr (GB.trans g1) (by omega) _ _ _ _ _
  have HV : Hid (meetO s cs t bs = meetAll cs bs cs.length) := by show meetO s cs t bs = _; simp [meetO, hA, hB]
  obtain ⟨la, oka⟩ := tube_boxes hA
  obtain ⟨lb, okb⟩ := tube_boxes hB
  have OA : Hid (∀ k, k < cs.length → (cs.getD k Bx.nil).ok = true) := oka
  have OB : Hid (∀ k, k < bs.length → (bs.getD k Bx.nil).ok = true) := okb
  clear oka okb
  go_enter Tryz.func110, Tryz.ntmps110
  go_wp2_with fail
  refine (specTubeOk_any _ _ _ cs _ hs (boxes_gr ha GB) hn).mono ?_
  rintro e w1 ⟨rfl, g1⟩
  obtain ⟨-, q0, q1, q2, q3⟩ := two_pairs (GT.trans g1)
  go_wp2_with fail
  refine (specTubeOk_any _ _ _ bs _ ht (boxes_gr hb (GB.trans g1)) hm).mono ?_
  rintro e w2 ⟨rfl, g2⟩
  replace g1 := g1.trans g2
  clear g2 q0 q1 q2 q3
  obtain ⟨-, q0, q1, q2, q3⟩ := two_pairs (GT.trans g1)
  go_wp2_with fail
  refine (specL3Meet_any s t a a' cap cap' cs bs _ (boxes_gr ha (GB.trans g1)) (boxes_gr hb (GB.trans g1)) la lb OA.out OB.out).mono ?_
  rintro e w3 ⟨rfl, g3⟩
  replace g1 := g1.trans g3
  clear g3 q0 q1 q2 q3
  have HR := five_new g1
  rw [eR] at HR
  obtain ⟨⟨r0, r1, r2, r3, r4⟩, ⟨p0, p1, p2, p3, p4⟩, -⟩ := HR
  have HR := five_new g1
  rw [eR] at HR
  have HR' : Hid (Five w3 (w.heap.size + 1 + 1) (.string ⟨#[]⟩) (.string ⟨#[]⟩) (.int .i64 0) (.int .i64 0) (.int .i64 0)) := HR.1
  clear HR
  obtain ⟨st, hst⟩ : ∃ st, meetAll cs bs cs.length = st := ⟨_, rfl⟩
  rw [hst] at HV ⊢
  clear hst
  rcases st with _ | ⟨T, i', j'⟩
  · dsimp only [clashV, Option.isSome]
    go_wp2
    obtain ⟨v0, v1, v2, v3, v4⟩ := five_put HR'.out (.string ⟨#[]⟩) (.string ⟨#[]⟩) (.int .i64 0) (.int .i64 0) (.int .i64 0)
    unfold put5 at v0 v1 v2 v3 v4
    refine bodyPost_ret (v := .tuple #[.agg #[.string ⟨#[]⟩, .string ⟨#[]⟩, .int .i64 0, .int .i64 0, .int .i64 0], .bool false]) (by simp [results, Tryz.results110, go_sem, v0, v1, v2, v3, v4]) rfl ⟨by rw [HV.out]; rfl, ?_⟩
    exact put5_gr (GB.trans g1) (by omega) _ _ _ _ _
  · dsimp only [clashV, Option.isSome]
    go_wp2
    obtain ⟨v0, v1, v2, v3, v4⟩ := five_put HR'.out (.string s) (.string t) (.int .i64 T) (.int .i64 i') (.int .i64 j')
    unfold put5 at v0 v1 v2 v3 v4
    refine bodyPost_ret (v := .tuple #[.agg #[.string s, .string t, .int .i64 T, .int .i64 i', .int .i64 j'], .bool true]) (by simp [results, Tryz.results110, go_sem, v0, v1, v2, v3, v4]) rfl ⟨by rw [HV.out]; rfl, ?_⟩
    exact put5_gr (GB.trans g1) (by omega) _ _ _ _ _
end Go.Proofs.YtpdcgjkfilohcabGreatDoor
