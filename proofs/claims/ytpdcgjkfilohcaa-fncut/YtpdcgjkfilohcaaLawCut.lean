import Derived.Test.YtpdcgjkfilohcaaMark
namespace Go.Proofs.Ytpdcgjkfilohcaa
open Go.RowKit
attribute [local go_sem ↓] Go.wp_at_zero Go.wp_at_succ

theorem pair_gr {w w' : World} {b : Nat} {u v : Value} (h : b < w.heap.size ∧ w.cell? ⟨b, 0, none⟩ = some u ∧ w.cell? ⟨b, 1, none⟩ = some v) (g : Gr w w') : b < w'.heap.size ∧ w'.cell? ⟨b, 0, none⟩ = some u ∧ w'.cell? ⟨b, 1, none⟩ = some v :=
  ⟨Nat.lt_of_lt_of_le h.1 g.size, (g.cells.1 _ _ h.1).trans h.2.1, (g.cells.1 _ _ h.1).trans h.2.2⟩
theorem pair_mk {w w' : World} {a : Option Addr} {b : Nat} {u v : Value} (h : b < w.heap.size ∧ w.cell? ⟨b, 0, none⟩ = some u ∧ w.cell? ⟨b, 1, none⟩ = some v) (m : Mk a w w') (hne : ∀ g o sp, a = some ⟨g, o, sp⟩ → g ≠ b) : b < w'.heap.size ∧ w'.cell? ⟨b, 0, none⟩ = some u ∧ w'.cell? ⟨b, 1, none⟩ = some v :=
  ⟨Nat.lt_of_lt_of_le h.1 m.1, (m.2.1 _ _ h.1 (fun e => hne _ _ _ e rfl)).trans h.2.1, (m.2.1 _ _ h.1 (fun e => hne _ _ _ e rfl)).trans h.2.2⟩
theorem boxes_mk {w w' : World} {a a' : Option Addr} {bs : List Bx} (h : Boxes w a' bs) (m : Mk a w w') (hne : ∀ g o sp g' o' sp', a = some ⟨g, o, sp⟩ → a' = some ⟨g', o', sp'⟩ → g ≠ g') : Boxes w' a' bs := fun k hk => by
  obtain ⟨g, o, e, hg, hx⟩ := h k hk
  refine ⟨g, o, e, Nat.lt_of_lt_of_le hg m.1, ?_⟩
  have q : ∀ r, w'.cell? ⟨g, r, none⟩ = w.cell? ⟨g, r, none⟩ := fun r => m.2.1 g r hg (fun e' => hne _ _ _ _ _ _ e' e rfl)
  unfold Six at *
  simp only [q]
  exact hx
theorem rooms_mk {w w' : World} {a a' : Option Addr} {n : Nat} (h : Rooms w a' n) (m : Mk a w w') : Rooms w' a' n := fun j hj => by
  obtain ⟨g, e, hg, hr⟩ := h j hj
  exact ⟨g, e, Nat.lt_of_lt_of_le hg m.1, m.2.2.2.2 g _ hg hr⟩
theorem cutT_le (f : Int) (s : ByteArray) (bs : List Bx) : (cutT f s bs).length ≤ bs.length := by
  unfold cutT; split
  · exact cutL_le f bs
  · simp

set_option maxRecDepth 100000 in
set_option maxHeartbeats 8000000 in
theorem lawCut_any (s : ByteArray) (a : Option Addr) (cap : Nat) (bs : List Bx) (f : Int) (w : World) (hs : s.size ≤ maxLen) (ha : Boxes w a bs) (hl : bs.length ≤ maxLen) :
    Calls Try.prog 9 #[.agg #[.string s, .slice a bs.length cap], .int .i64 f] w fun e w' => e = .returned (.bool true) ∧ Gr w w' := by
  have GB : Gr w (w.alloc (.cells #[.string s, .slice a bs.length cap] 52)) := (Gr.refl _).alloc _
  by_cases hz : szT 1048576 s.size bs.length < 0
  · go_enter Try.func9, Try.ntmps9
    go_wp2_with (go_at_call 28; refine (szTube_any _ _ _ _ _ _ hs (by omega) (by omega) hl).mono ?_; rintro e w1 ⟨rfl, g1⟩)
    go_ret
    exact ⟨rfl, GB.trans g1⟩
  obtain ⟨-, hn, z0, z1⟩ := szT_le (by omega) hz
  have hLn : (cutT f s bs).length ≤ 1048576 := Nat.le_trans (cutT_le f s bs) hn
  go_enter Try.func9, Try.ntmps9
  go_wp2_with fail
  refine (szTube_any _ _ _ _ _ _ hs (by omega) (by omega) hl).mono ?_
  rintro e w1 ⟨rfl, G⟩
  have pP := new_pair G
  go_wp2_with fail
  refine (toTube_any _ _ _ bs _ (boxes_gr ha (GB.trans G)) hn).mono ?_
  rintro e wa ⟨⟨gt, rfl, hOt⟩, g1⟩
  replace G := G.trans g1
  clear g1
  replace pP := new_pair G
  go_wp2_with fail
  refine (specCut_any _ _ _ bs f _ hs hOt.2.2.2 hn).mono ?_
  rintro e wb ⟨⟨v0, rfl, a0, c0, e0, hr0, hb0⟩, g1⟩
  subst e0
  replace G := G.trans g1
  have hBb := G.size
  simp at hBb
  clear g1 hOt
  replace pP := new_pair G
  go_wp2_with fail
  refine (toTube_any _ _ _ bs _ (boxes_gr ha (GB.trans (G.alloc _))) hn).mono ?_
  rintro e wx ⟨⟨gx, rfl, hOx⟩, g1⟩
  have p6 := new_pair g1
  have hb0x := boxes_gr hb0 (((Gr.refl _).alloc _).trans g1)
  have hgx := hOx.1
  simp at hgx
  replace G := (G.alloc _).trans g1
  clear g1 hb0
  replace pP := new_pair G
  go_wp2_with fail
  refine (implCut_any _ _ _ bs f _ hs (boxes_gr hOx.2.2.2 ((Gr.refl _).alloc _)) hn).mono ?_
  rintro e wy ⟨⟨v1, rfl, a1, c1, e1, hr1, hb1⟩, g1⟩
  subst e1
  have gxy := ((Gr.refl wx).alloc _).trans g1
  have p7 := new_pair g1
  replace p6 := pair_gr p6 gxy
  have hb0y := boxes_gr hb0x gxy
  replace G := G.trans gxy
  clear g1 hb0x
  replace pP := new_pair G
  go_wp2_with fail
  refine (eqTube_same _ _ _ _ _ (cutT f s bs) _ (boxes_gr hb1 ((Gr.refl _).alloc _)) (boxes_gr hb0y ((Gr.refl _).alloc _)) hLn).mono ?_
  rintro e wz ⟨rfl, g1⟩
  have gyz := ((Gr.refl wy).alloc _).trans g1
  have p8 := new_pair g1
  replace p6 := pair_gr p6 gyz
  replace p7 := pair_gr p7 gyz
  have hb0z := boxes_gr hb0y gyz
  have hb1z := boxes_gr hb1 gyz
  have hOxz := owned_gr hOx (gxy.trans gyz)
  have hyz := gyz.size
  have hxy := gxy.size
  replace G := G.trans gyz
  clear g1 hb0y hb1
  replace pP := new_pair G
  have HX : Hid (wz.cell? ⟨w.heap.size, 0, none⟩ = some (.string s) ∧ wz.cell? ⟨w.heap.size, 1, none⟩ = some (.slice a bs.length cap) ∧ wz.cell? ⟨wx.heap.size, 0, none⟩ = some (.string s) ∧ wz.cell? ⟨wx.heap.size, 1, none⟩ = some (.slice (some ⟨gx, 0, none⟩) bs.length bs.length)) := ⟨pP.2.1, pP.2.2, p7.2.1, p7.2.2⟩
  go_upto_region 10 with fail
  have lP := pP.1
  have l7 := p7.1
  have H6 : Hid (wb.heap.size < wz.heap.size ∧ wz.cell? ⟨wb.heap.size, 0, none⟩ = some (.string (cutS s bs)) ∧ wz.cell? ⟨wb.heap.size, 1, none⟩ = some (.slice a0 (cutT f s bs).length c0)) := p6
  have H8 : Hid (wy.heap.size < wz.heap.size ∧ wz.cell? ⟨wy.heap.size, 0, none⟩ = some (.string (cutS s bs)) ∧ wz.cell? ⟨wy.heap.size, 1, none⟩ = some (.slice a1 (cutT f s bs).length c1)) := p8
  clear pP p6 p7 p8
  go_region_held3 (fun w' => Gr wz w' ∧ w'.cell? ⟨w.heap.size, 0, none⟩ = some (.string s) ∧ w'.cell? ⟨w.heap.size, 1, none⟩ = some (.slice a bs.length cap) ∧ w'.cell? ⟨wx.heap.size, 0, none⟩ = some (.string s) ∧ w'.cell? ⟨wx.heap.size, 1, none⟩ = some (.slice (some ⟨gx, 0, none⟩) bs.length bs.length))
    (first | exact keep4 HX.out lP l7 (Gr.refl _).drew | exact keep4 HX.out lP l7 ((Gr.refl _).drew.trans g3) | exact keep4 HX.out lP l7 (((Gr.refl _).drew.trans g3).trans g4))
    (first
      | (go_at_call 29; refine (toTube_any _ _ _ bs _ (boxes_gr ha (GB.trans (G.trans (Gr.refl _).drew))) hn).mono ?_; rintro e w3 ⟨⟨g', rfl, hO3⟩, g3⟩)
      | (go_at_call 31; refine (eqTube_same _ _ _ _ _ bs _ (boxes_gr hOxz.2.2.2 ((Gr.refl _).drew.trans g3)) hO3.2.2.2 hn).mono ?_; rintro e w4 ⟨rfl, g4⟩))
  have gz4 : Gr wz w4 := ((Gr.refl _).drew.trans g3).trans g4
  have p6 := pair_gr H6.out gz4
  have p8 := pair_gr H8.out gz4
  have p7 := (keep4 HX.out lP l7 gz4).2.2.2
  have hb04 := boxes_gr hb0z gz4
  have hb14 := boxes_gr hb1z gz4
  have hOx4 := owned_gr hOxz gz4
  replace G := G.trans gz4
  clear g3 g4 H6 H8 HX hb0z hb1z hOxz hO3
  have R1 : Rooms w4 a1 (cutT f s bs).length := fun j hj => by
    obtain ⟨g, o, e, hg, hx⟩ := hb14 j hj
    obtain ⟨h0, -, h2, h3, h4⟩ := hr1 g o none e
    subst h0
    exact ⟨g, e, hg, room_gr (h4 j hj) (gyz.trans gz4) h3⟩
  have RX : Rooms w4 (some ⟨gx, 0, none⟩) bs.length := fun j hj => ⟨gx, rfl, hOx4.2.1, hOx4.2.2.1 j hj⟩
  have O0 : ∀ g o sp, a0 = some ⟨g, o, sp⟩ → g < wb.heap.size := fun g o sp e => (hr0 g o sp e).2.2.2.1
  have O1 : ∀ g o sp, a1 = some ⟨g, o, sp⟩ → wx.heap.size < g ∧ g < wy.heap.size := fun g o sp e => by have h := hr1 g o sp e; have h2 := h.2.2.1; simp at h2; exact ⟨by omega, h.2.2.2.1⟩
  have lx := hOx.2.1
  clear hr0 hr1 hOx hOx4 gyz gxy
  have pP := new_pair G
  go_wp2_with fail
  refine (markTube_any _ _ _ _ _ _ RX hn (by omega) (by omega)).mono ?_
  rintro e w5 ⟨rfl, m5, -⟩
  replace G := m5.2.2.2.1 _ G (fun g e => by simp at e; simp; omega)
  replace p6 := pair_mk p6 m5 (fun g o sp e => by simp at e; omega)
  replace p8 := pair_mk p8 m5 (fun g o sp e => by simp at e; omega)
  replace hb04 := boxes_mk hb04 m5 (fun g o sp g' o' sp' e e' => by simp at e; have := O0 g' o' sp' e'; omega)
  replace hb14 := boxes_mk hb14 m5 (fun g o sp g' o' sp' e e' => by simp at e; have := O1 g' o' sp' e'; omega)
  replace R1 := rooms_mk R1 m5
  clear m5 RX p7
  replace pP := new_pair G
  have hk : ¬ (1 + 6 * (bs.length : Int)) < 0 := by omega
  go_wp2_with fail
  refine (eqTube_same _ _ _ _ _ (cutT f s bs) _ hb14 hb04 hLn).mono ?_
  rintro e w6 ⟨rfl, g1⟩
  replace G := G.trans g1
  replace p6 := pair_gr p6 g1
  replace p8 := pair_gr p8 g1
  replace hb04 := boxes_gr hb04 g1
  replace R1 := rooms_gr R1 g1
  clear g1 hb14
  replace pP := new_pair G
  go_wp2_with fail
  refine (markTube_any _ _ _ _ _ _ R1 hLn (by omega) (by omega)).mono ?_
  rintro e w7 ⟨rfl, m7, hM⟩
  replace G := m7.2.2.2.1 _ G (fun g e => by have := O1 _ _ _ e; simp; omega)
  replace p6 := pair_mk p6 m7 (fun g o sp e => by have := O1 _ _ _ e; omega)
  replace p8 := pair_mk p8 m7 (fun g o sp e => by have := O1 _ _ _ e; omega)
  replace hb04 := boxes_mk hb04 m7 (fun g o sp g' o' sp' e e' => by have := O1 _ _ _ e; have := O0 g' o' sp' e'; omega)
  clear m7 R1
  replace pP := new_pair G
  have hk2 : ¬ (1 + 6 * ((cutT f s bs).length : Int)) < 0 := by omega
  go_wp2_with fail
  refine (heldTube_any _ _ _ _ _ _ hM hLn (by omega) (by omega)).mono ?_
  rintro e w8 ⟨rfl, g1⟩
  replace G := G.trans g1
  replace p6 := pair_gr p6 g1
  replace p8 := pair_gr p8 g1
  replace hb04 := boxes_gr hb04 g1
  replace hM := marked_gr hM g1
  clear g1
  replace pP := new_pair G
  go_wp2_with fail
  refine (toTube_any _ _ _ bs _ (boxes_gr ha (GB.trans G)) hn).mono ?_
  rintro e w9 ⟨⟨g9, rfl, hO9⟩, g1⟩
  replace G := G.trans g1
  replace p6 := pair_gr p6 g1
  replace p8 := pair_gr p8 g1
  replace hb04 := boxes_gr hb04 g1
  replace hM := marked_gr hM g1
  clear g1
  replace pP := new_pair G
  go_wp2_with fail
  refine (implCut_any _ _ _ bs f _ hs hO9.2.2.2 hn).mono ?_
  rintro e w10 ⟨⟨v2, rfl, a2, c2, e2, -, hb2⟩, g1⟩
  subst e2
  replace G := G.trans g1
  replace p6 := pair_gr p6 g1
  replace p8 := pair_gr p8 g1
  replace hb04 := boxes_gr hb04 g1
  replace hM := marked_gr hM g1
  clear g1
  replace pP := new_pair G
  go_wp2_with fail
  refine (eqTube_same _ _ _ _ _ (cutT f s bs) _ (boxes_gr hb2 ((Gr.refl _).alloc _)) (boxes_gr hb04 ((Gr.refl _).alloc _)) hLn).mono ?_
  rintro e w11 ⟨rfl, g1⟩
  have g2 := ((Gr.refl w10).alloc _).trans g1
  replace G := G.trans g2
  replace p8 := pair_gr p8 g2
  replace hM := marked_gr hM g2
  clear g1 p6
  replace pP := new_pair G
  go_wp2_with fail
  refine (heldTube_any _ _ _ _ _ _ hM hLn (by omega) (by omega)).mono ?_
  rintro e w12 ⟨rfl, g3⟩
  go_wp2
  go_ret
  exact ⟨rfl, GB.trans (G.trans g3)⟩

end Go.Proofs.Ytpdcgjkfilohcaa
