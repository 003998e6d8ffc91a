import Derived.Test.YtpdcgjkfilohcaaSmallD
namespace Go.Proofs.Ytpdcgjkfilohcaa
open Go.RowKit
attribute [local go_sem ↓] Go.wp_at_zero Go.wp_at_succ

set_option maxRecDepth 100000 in
set_option maxHeartbeats 4000000 in
theorem lawSmaller_any (s t : ByteArray) (a a' : Option Addr) (cap cap' : Nat) (cs bs : List Bx) (w : World) (hs : s.size ≤ maxLen) (ht : t.size ≤ maxLen) (ha : Boxes w a cs) (hb : Boxes w a' bs) (hl : cs.length ≤ maxLen) (hl' : bs.length ≤ maxLen) :
    Calls Try.prog 10 #[.agg #[.string s, .slice a cs.length cap], .agg #[.string t, .slice a' bs.length cap']] w fun e w' => e = .returned (.bool true) ∧ Gr w w' := by
  have G := Gr.refl ((w.alloc (.cells #[.string s, .slice a cs.length cap] 52)).alloc (.cells #[.string t, .slice a' bs.length cap'] 52))
  have GB : Gr w ((w.alloc (.cells #[.string s, .slice a cs.length cap] 52)).alloc (.cells #[.string t, .slice a' bs.length cap'] 52)) := ((Gr.refl _).alloc _).alloc _
  by_cases hz : szT 1048576 s.size cs.length < 0
  · go_enter Try.func10, Try.ntmps10
    go_wp2_with (go_at_call 28; refine (szTube_any _ _ _ _ _ _ hs (by omega) (by omega) hl).mono ?_; rintro e w1 ⟨rfl, g1⟩)
    go_ret
    exact ⟨rfl, GB.trans g1⟩
  obtain ⟨-, hn, z0, z1⟩ := szT_le (by omega) hz
  by_cases hy : szT (szT 1048576 s.size cs.length) t.size bs.length < 0
  · go_enter Try.func10, Try.ntmps10
    go_wp2_with (first
      | (go_at_call_of 28 (Value.string s); refine (szTube_any _ _ _ _ _ _ hs (by omega) (by omega) hl).mono ?_; rintro e w1 ⟨rfl, g1⟩; replace G := Gr.trans (by first | exact G | exact G.alloc _) g1; (try clear l0 l1 m0 m1 m2 m3); obtain ⟨l1, m0, m1, m2, m3⟩ := two_pairs G; have l0 := Nat.lt_of_succ_lt l1)
      | (go_at_call_of 28 (Value.string t); refine (szTube_any _ _ _ _ _ _ ht (by omega) (by omega) hl').mono ?_; rintro e w1 ⟨rfl, g1⟩; replace G := Gr.trans (by first | exact G | exact G.alloc _) g1; (try clear l0 l1 m0 m1 m2 m3); obtain ⟨l1, m0, m1, m2, m3⟩ := two_pairs G; have l0 := Nat.lt_of_succ_lt l1))
    go_ret
    exact ⟨rfl, GB.trans G⟩
  obtain ⟨-, hm, -, -⟩ := szT_le z1 hy
  go_enter Try.func10, Try.ntmps10
  go_upto_region 8 with (first
      | (go_at_call_of 28 (Value.string s); refine (szTube_any _ _ _ _ _ _ hs (by omega) (by omega) hl).mono ?_; rintro e w1 ⟨rfl, g1⟩; replace G := Gr.trans (by first | exact G | exact G.alloc _) g1; (try clear l0 l1 m0 m1 m2 m3); obtain ⟨l1, m0, m1, m2, m3⟩ := two_pairs G; have l0 := Nat.lt_of_succ_lt l1)
      | (go_at_call_of 28 (Value.string t); refine (szTube_any _ _ _ _ _ _ ht (by omega) (by omega) hl').mono ?_; rintro e w1 ⟨rfl, g1⟩; replace G := Gr.trans (by first | exact G | exact G.alloc _) g1; (try clear l0 l1 m0 m1 m2 m3); obtain ⟨l1, m0, m1, m2, m3⟩ := two_pairs G; have l0 := Nat.lt_of_succ_lt l1))
  clear m0 m1 m2 m3 l0 l1
  go_region_held3 (fun w' => Gr ((w.alloc (.cells #[.string s, .slice a cs.length cap] 52)).alloc (.cells #[.string t, .slice a' bs.length cap'] 52)) w' ∧ ∀ q r, q < ((w.alloc (.cells #[.string s, .slice a cs.length cap] 52)).alloc (.cells #[.string t, .slice a' bs.length cap'] 52)).heap.size → w'.cell? ⟨q, r, none⟩ = ((w.alloc (.cells #[.string s, .slice a cs.length cap] 52)).alloc (.cells #[.string t, .slice a' bs.length cap'] 52)).cell? ⟨q, r, none⟩)
    ((refine sees_of ?_; repeat (first | exact G | assumption | exact And.left (by assumption) | refine Gr.drew ?_)))
    (first
      | (go_at_call_of 29 (Value.string s); refine (toTube_any _ _ _ cs _ (boxes_gr ha (GB.trans (And.left (by assumption)))) hn).mono ?_; rintro e wa ⟨⟨ga, rfl, hOa⟩, g1⟩; have g2 := Gr.trans (And.left (by assumption)) g1)
      | (go_at_call_of 29 (Value.string t); refine (toTube_any _ _ _ bs _ (boxes_gr hb (GB.trans (And.left (by assumption)))) hm).mono ?_; rintro e wb ⟨⟨gb, rfl, hOb⟩, g1⟩; have g2 := Gr.trans (And.left (by assumption)) g1; have hOa2 := owned_gr hOa g1)
      | (go_at_call 39; refine (specSmaller_any _ _ _ _ _ _ cs bs _ hs ht hOa2.2.2.2 hOb.2.2.2 hn hm).mono ?_; rintro e wc ⟨rfl, g1⟩; have g2 := Gr.trans (And.left (by assumption)) g1))
  have GC : Gr ((w.alloc (.cells #[.string s, .slice a cs.length cap] 52)).alloc (.cells #[.string t, .slice a' bs.length cap'] 52)) wc := And.left (by assumption)
  clear G
  have G := GC
  obtain ⟨l1, m0, m1, m2, m3⟩ := two_pairs G
  have l0 := Nat.lt_of_succ_lt l1
  clear hOa hOb hOa2 GC
  go_upto_region 14 with (first
      | (go_at_call_of 29 (Value.string s); refine (toTube_any _ _ _ cs _ (boxes_gr ha (GB.trans G)) hn).mono ?_; rintro e wx ⟨⟨gx, rfl, hOx⟩, g1⟩; replace G := Gr.trans (by first | exact G | exact G.alloc _) g1; (try clear l0 l1 m0 m1 m2 m3); obtain ⟨l1, m0, m1, m2, m3⟩ := two_pairs G; have l0 := Nat.lt_of_succ_lt l1; clear g1)
      | (go_at_call_of 29 (Value.string t); refine (toTube_any _ _ _ bs _ (boxes_gr hb (GB.trans (G.alloc _))) hm).mono ?_; rintro e wy ⟨⟨gy, rfl, hOy⟩, g1⟩; have hX := new_pair g1; obtain ⟨x1, x2, x3⟩ := hX; have hOx2 := owned_gr hOx (((Gr.refl _).alloc _).trans g1); replace G := Gr.trans (by first | exact G | exact G.alloc _) g1; (try clear l0 l1 m0 m1 m2 m3); obtain ⟨l1, m0, m1, m2, m3⟩ := two_pairs G; have l0 := Nat.lt_of_succ_lt l1; clear g1)
      | (go_at_call 22; refine (implSmaller_any _ _ _ _ _ _ cs bs _ hs ht (boxes_gr hOx2.2.2.2 ((Gr.refl _).alloc _)) (boxes_gr hOy.2.2.2 ((Gr.refl _).alloc _)) hn hm).mono ?_; rintro e wz ⟨rfl, g1⟩; have hY := new_pair g1; have gyz := ((Gr.refl wy).alloc _).trans g1; replace G := Gr.trans (by first | exact G | exact G.alloc _) g1; (try clear l0 l1 m0 m1 m2 m3); obtain ⟨l1, m0, m1, m2, m3⟩ := two_pairs G; have l0 := Nat.lt_of_succ_lt l1; clear g1))
  obtain ⟨y1, y2, y3⟩ := hY
  have hOx3 := owned_gr hOx2 gyz
  have hOy3 := owned_gr hOy gyz
  have xz0 := (gyz.cells.1 _ _ x1).trans x2
  have xz1 := (gyz.cells.1 _ _ x1).trans x3
  have lx : wx.heap.size < wz.heap.size := Nat.lt_of_lt_of_le x1 gyz.size
  have HX : Hid (wz.cell? ⟨w.heap.size, 0, none⟩ = some (.string s) ∧ wz.cell? ⟨w.heap.size, 1, none⟩ = some (.slice a cs.length cap) ∧ wz.cell? ⟨wx.heap.size, 0, none⟩ = some (.string s) ∧ wz.cell? ⟨wx.heap.size, 1, none⟩ = some (.slice (some ⟨gx, 0, none⟩) cs.length cs.length)) := ⟨m0, m1, xz0, xz1⟩
  have HY : Hid (wz.cell? ⟨w.heap.size + 1, 0, none⟩ = some (.string t) ∧ wz.cell? ⟨w.heap.size + 1, 1, none⟩ = some (.slice a' bs.length cap') ∧ wz.cell? ⟨wy.heap.size, 0, none⟩ = some (.string t) ∧ wz.cell? ⟨wy.heap.size, 1, none⟩ = some (.slice (some ⟨gy, 0, none⟩) bs.length bs.length)) := ⟨m2, m3, y2, y3⟩
  clear m0 m1 m2 m3 x2 x3 y2 y3 xz0 xz1 hOx hOx2 hOy
  go_region_held3 (fun w' => Gr wz w' ∧ w'.cell? ⟨w.heap.size, 0, none⟩ = some (.string s) ∧ w'.cell? ⟨w.heap.size, 1, none⟩ = some (.slice a cs.length cap) ∧ w'.cell? ⟨wx.heap.size, 0, none⟩ = some (.string s) ∧ w'.cell? ⟨wx.heap.size, 1, none⟩ = some (.slice (some ⟨gx, 0, none⟩) cs.length cs.length))
    (first | exact keep4 HX.out (by omega) lx (Gr.refl _).drew | exact keep4 HX.out (by omega) lx ((Gr.refl _).drew.trans g3) | exact keep4 HX.out (by omega) lx (((Gr.refl _).drew.trans g3).trans g4))
    (first
      | (go_at_call 29; refine (toTube_any _ _ _ cs _ (boxes_gr ha (GB.trans (G.trans (Gr.refl _).drew))) hn).mono ?_; rintro e w3 ⟨⟨g', rfl, hO3⟩, g3⟩)
      | (go_at_call 31; refine (eqTube_same _ _ _ _ _ cs _ (boxes_gr hOx3.2.2.2 ((Gr.refl _).drew.trans g3)) hO3.2.2.2 hn).mono ?_; rintro e w4 ⟨rfl, g4⟩))
  have gz4 : Gr wz w4 := ((Gr.refl _).drew.trans g3).trans g4
  have hOy4 := owned_gr hOy3 gz4
  have HY4 : Hid (w4.cell? ⟨w.heap.size + 1, 0, none⟩ = some (.string t) ∧ w4.cell? ⟨w.heap.size + 1, 1, none⟩ = some (.slice a' bs.length cap') ∧ w4.cell? ⟨wy.heap.size, 0, none⟩ = some (.string t) ∧ w4.cell? ⟨wy.heap.size, 1, none⟩ = some (.slice (some ⟨gy, 0, none⟩) bs.length bs.length)) := (keep4 HY.out l1 y1 gz4).2
  have l14 := Nat.lt_of_lt_of_le l1 gz4.size
  have y14 := Nat.lt_of_lt_of_le y1 gz4.size
  clear HX HY hO3 hOx3 hOy3
  go_upto_region 16 with fail
  go_region_held3 (fun w' => Gr w4 w' ∧ w'.cell? ⟨w.heap.size + 1, 0, none⟩ = some (.string t) ∧ w'.cell? ⟨w.heap.size + 1, 1, none⟩ = some (.slice a' bs.length cap') ∧ w'.cell? ⟨wy.heap.size, 0, none⟩ = some (.string t) ∧ w'.cell? ⟨wy.heap.size, 1, none⟩ = some (.slice (some ⟨gy, 0, none⟩) bs.length bs.length))
    (first | exact keep4 HY4.out l14 y14 (Gr.refl _).drew | exact keep4 HY4.out l14 y14 ((Gr.refl _).drew.trans g5) | exact keep4 HY4.out l14 y14 (((Gr.refl _).drew.trans g5).trans g6))
    (first
      | (go_at_call 29; refine (toTube_any _ _ _ bs _ (boxes_gr hb (GB.trans (G.trans (gz4.trans (Gr.refl _).drew)))) hm).mono ?_; rintro e w5 ⟨⟨g', rfl, hO5⟩, g5⟩)
      | (go_at_call 31; refine (eqTube_same _ _ _ _ _ bs _ (boxes_gr hOy4.2.2.2 ((Gr.refl _).drew.trans g5)) hO5.2.2.2 hm).mono ?_; rintro e w6 ⟨rfl, g6⟩))
  go_wp2
  go_ret
  exact ⟨rfl, GB.trans (G.trans (gz4.trans (((Gr.refl _).drew.trans g5).trans g6)))⟩

end Go.Proofs.Ytpdcgjkfilohcaa
