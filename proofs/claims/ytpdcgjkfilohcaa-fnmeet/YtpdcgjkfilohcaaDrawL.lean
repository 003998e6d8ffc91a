import Derived.Test.YtpdcgjkfilohcaaDrawK
namespace Go.Proofs.Ytpdcgjkfilohcaa
open Go.RowKit
attribute [local go_sem ↓] Go.wp_at_zero Go.wp_at_succ

set_option maxRecDepth 100000 in
set_option maxHeartbeats 4000000 in
theorem drawMeet_of (HSp : Hid SpoilIs) (a : Option Addr) (cap : Nat) (bs : List Int) (w : World) (hb : BytesAt w a bs) (hl : bs.length ≤ 1048576) (hcap : bs.length ≤ cap) :
    Calls Try.prog 11 #[.slice a bs.length cap] w fun e w' => (∃ (s t : ByteArray) (a1 a2 : Option Addr) (c1 c2 : Nat) (cs bs : List Bx), e = .returned (.tuple #[.agg #[.string s, .slice a1 cs.length c1], .agg #[.string t, .slice a2 bs.length c2]]) ∧ s.size ≤ maxLen ∧ t.size ≤ maxLen ∧ cs.length ≤ 1000 ∧ bs.length ≤ 1000 ∧ Boxes w' a1 cs ∧ Boxes w' a2 bs) ∧ Gr w w' := by
  have GG : Gr w ((w.alloc (.cells #[.string ⟨#[]⟩, .slice none 0 0] 25)).alloc (.cells #[.string ⟨#[]⟩, .slice none 0 0] 25)) := ((Gr.refl _).alloc _).alloc _
  have eR : ((w.alloc (.cells #[.string ⟨#[]⟩, .slice none 0 0] 25)).alloc (.cells #[.string ⟨#[]⟩, .slice none 0 0] 25)).heap.size = w.heap.size + 1 + 1 := by simp
  have P0 : PairAt ((w.alloc (.cells #[.string ⟨#[]⟩, .slice none 0 0] 25)).alloc (.cells #[.string ⟨#[]⟩, .slice none 0 0] 25)) w.heap.size := pair_new ((Gr.refl _).alloc _)
  have P1 : PairAt ((w.alloc (.cells #[.string ⟨#[]⟩, .slice none 0 0] 25)).alloc (.cells #[.string ⟨#[]⟩, .slice none 0 0] 25)) (w.heap.size + 1) := by
    have := pair_new (Gr.refl ((w.alloc (.cells #[.string ⟨#[]⟩, .slice none 0 0] 25)).alloc (.cells #[.string ⟨#[]⟩, .slice none 0 0] 25)))
    simpa using this
  go_enter Try.func11, Try.ntmps11
  go_wp2_with fail
  refine (open_any a cap bs _ (bytes_gr hb GG) hl hcap).mono ?_
  rintro e w1 ⟨⟨d, rfl, hd, R1⟩, g1⟩
  rw [eR] at hd
  have hd1 : w.heap.size + 1 < d.r := by omega
  clear hd
  have hs1 := g1.size
  rw [eR] at hs1
  have hdl : d.r < w1.heap.size := R1.2.2.2.2.2.1
  have M1 : But d.r ((w.alloc (.cells #[.string ⟨#[]⟩, .slice none 0 0] 25)).alloc (.cells #[.string ⟨#[]⟩, .slice none 0 0] 25)) w1 := But.of_gr g1
  replace P0 := pair_but P0 M1 (by omega)
  replace P1 := pair_but P1 M1 (by omega)
  go_wp2_with fail
  refine (l2Any_of HSp d 0 w1 R1 (by omega)).mono ?_
  rintro e w2 ⟨⟨s, v, L, rfl, hsz, hL, HO, -⟩, ⟨p2, R2, hp2⟩, M2⟩
  obtain ⟨av, cv, hv⟩ : ∃ av cv, v = .slice av L.length cv := by obtain ⟨a, c, e, -⟩ := HO; exact ⟨a, c, e⟩
  subst hv
  replace P0 := pair_but P0 M2 (by omega)
  replace P1 := pair_but P1 M2 (by omega)
  have hs2 := M2.size
  have HOh : Hid (OwnL w1 w2 (.slice av L.length cv) L) := HO
  clear HO
  go_wp2_with fail
  refine (l2Any_of HSp d p2 w2 R2 (by omega)).mono ?_
  rintro e w3 ⟨⟨t, u, K, rfl, hsz', hK, HO', -⟩, ⟨p3, R3, hp3⟩, M3⟩
  obtain ⟨au, cu, hu⟩ : ∃ au cu, u = .slice au K.length cu := by obtain ⟨a, c, e, -⟩ := HO'; exact ⟨a, c, e⟩
  subst hu
  replace P0 := pair_but P0 M3 (by omega)
  replace P1 := pair_but P1 M3 (by omega)
  have HA3 := ownL_but HOh.out M3 (by omega)
  have G3 : Gr w w3 := (M2.trans M3).gr (GG.trans g1) (by omega)
  have HF : Hid (∀ u0 u1 u2 u3, (∃ a1 c1 a2 c2, (.slice av L.length cv : Value) = .slice a1 L.length c1 ∧ (.slice au K.length cu : Value) = .slice a2 K.length c2 ∧ Boxes ((((w3.setCell ⟨w.heap.size, 0, none⟩ u0).setCell ⟨w.heap.size, 1, none⟩ u1).setCell ⟨w.heap.size + 1, 0, none⟩ u2).setCell ⟨w.heap.size + 1, 1, none⟩ u3) a1 L ∧ Boxes ((((w3.setCell ⟨w.heap.size, 0, none⟩ u0).setCell ⟨w.heap.size, 1, none⟩ u1).setCell ⟨w.heap.size + 1, 0, none⟩ u2).setCell ⟨w.heap.size + 1, 1, none⟩ u3) a2 K) ∧ Gr w ((((w3.setCell ⟨w.heap.size, 0, none⟩ u0).setCell ⟨w.heap.size, 1, none⟩ u1).setCell ⟨w.heap.size + 1, 0, none⟩ u2).setCell ⟨w.heap.size + 1, 1, none⟩ u3)) := fun u0 u1 u2 u3 => by
    obtain ⟨a1, c1, e1, -, b1⟩ := ownL_set (ownL_set (ownL_set (ownL_set HA3 ⟨w.heap.size, 0, none⟩ u0 (by dsimp only; omega)) ⟨w.heap.size, 1, none⟩ u1 (by dsimp only; omega)) ⟨w.heap.size + 1, 0, none⟩ u2 (by dsimp only; omega)) ⟨w.heap.size + 1, 1, none⟩ u3 (by dsimp only; omega)
    obtain ⟨a2, c2, e2, -, b2⟩ := ownL_set (ownL_set (ownL_set (ownL_set HO' ⟨w.heap.size, 0, none⟩ u0 (by dsimp only; omega)) ⟨w.heap.size, 1, none⟩ u1 (by dsimp only; omega)) ⟨w.heap.size + 1, 0, none⟩ u2 (by dsimp only; omega)) ⟨w.heap.size + 1, 1, none⟩ u3 (by dsimp only; omega)
    exact ⟨⟨a1, c1, a2, c2, e1, e2, b1, b2⟩, (((G3.setCell (by dsimp only; omega) _).setCell (by dsimp only; omega) _).setCell (by dsimp only; omega) _).setCell (by dsimp only; omega) _⟩
  obtain ⟨hP0, ⟨r0, hr0⟩, ⟨r1, hr1⟩, fr0, fr1⟩ := P0
  obtain ⟨hP1, ⟨r2, hr2⟩, ⟨r3, hr3⟩, fr2, fr3⟩ := P1
  clear HA3 HO' HOh R1 R2 R3 M1 M2 M3 G3 g1
  go_wp2
  obtain ⟨⟨a1, c1, a2, c2, e1, e2, b1, b2⟩, hG⟩ := HF.out (.string s) (.slice av L.length cv) (.string t) (.slice au K.length cu)
  refine bodyPost_ret (v := .tuple #[.agg #[.string s, .slice av L.length cv], .agg #[.string t, .slice au K.length cu]]) (by simp [results, Try.results11, go_sem, *]) rfl ⟨⟨s, t, a1, a2, c1, c2, L, K, by rw [e1, e2], by unfold maxLen; omega, by unfold maxLen; omega, by omega, by omega, b1, b2⟩, hG⟩
end Go.Proofs.Ytpdcgjkfilohcaa
