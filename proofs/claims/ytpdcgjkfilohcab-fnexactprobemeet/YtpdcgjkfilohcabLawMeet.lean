import Derived.Test.YtpdcgjkfilohcabMeetG
import Derived.Test.YtpdcgjkfilohcabMeetC
namespace Go.Proofs.Ytpdcgjkfilohcab
open Go.RowKit
attribute [local go_sem ↓] Go.wp_at_zero Go.wp_at_succ

set_option maxRecDepth 100000 in
set_option maxHeartbeats 4000000 in
theorem lawMeet_any (s t : ByteArray) (a a' : Option Addr) (cap cap' : Nat) (cs bs : List Bx) (w : World) (hs : s.size ≤ maxLen) (ht : t.size ≤ maxLen) (ha : Boxes w a cs) (hb : Boxes w a' bs) (hl : cs.length ≤ maxLen) (hl' : bs.length ≤ maxLen) :
    Calls Try.prog 3 #[.agg #[.string s, .slice a cs.length cap], .agg #[.string t, .slice a' bs.length cap']] w fun e w' => e = .returned (.bool true) ∧ Gr w w' := by
  have G := Gr.refl ((w.alloc (.cells #[.string s, .slice a cs.length cap] 24)).alloc (.cells #[.string t, .slice a' bs.length cap'] 24))
  have GB : Gr w ((w.alloc (.cells #[.string s, .slice a cs.length cap] 24)).alloc (.cells #[.string t, .slice a' bs.length cap'] 24)) := ((Gr.refl _).alloc _).alloc _
  by_cases hz : szT 1048576 s.size cs.length < 0
  · go_enter Try.func3, Try.ntmps3
    go_wp2_with (go_at_call 4; refine (szTube_any _ _ _ _ _ _ hs (by omega) (by omega) hl).mono ?_; rintro e w1 ⟨rfl, g1⟩)
    go_ret
    exact ⟨rfl, GB.trans g1⟩
  obtain ⟨-, hn, z0, z1⟩ := szT_le (by omega) hz
  by_cases hy : szT (szT 1048576 s.size cs.length) t.size bs.length < 0
  · go_enter Try.func3, Try.ntmps3
    go_wp2_with (first
      | (go_at_call_of 4 (Value.string s); refine (szTube_any _ _ _ _ _ _ hs (by omega) (by omega) hl).mono ?_; rintro e w1 ⟨rfl, g1⟩; replace G := Gr.trans (by first | exact G | exact G.alloc _) g1; (try clear l0 l1 m0 m1 m2 m3); obtain ⟨l1, m0, m1, m2, m3⟩ := two_pairs G; have l0 := Nat.lt_of_succ_lt l1)
      | (go_at_call_of 4 (Value.string t); refine (szTube_any _ _ _ _ _ _ ht (by omega) (by omega) hl').mono ?_; rintro e w1 ⟨rfl, g1⟩; replace G := Gr.trans (by first | exact G | exact G.alloc _) g1; (try clear l0 l1 m0 m1 m2 m3); obtain ⟨l1, m0, m1, m2, m3⟩ := two_pairs G; have l0 := Nat.lt_of_succ_lt l1))
    go_ret
    exact ⟨rfl, GB.trans G⟩
  obtain ⟨-, hm, -, -⟩ := szT_le z1 hy
  obtain ⟨s1, t1, x1, x2, x3, hV⟩ : ∃ s1 t1 x y z, clashV s t (meetO s cs t bs) = #[.string s1, .string t1, .int .i64 x, .int .i64 y, .int .i64 z] := by
    rcases meetO s cs t bs with _ | ⟨k, i, j⟩
    · exact ⟨_, _, _, _, _, rfl⟩
    · exact ⟨_, _, _, _, _, rfl⟩
  obtain ⟨fb, hfb⟩ : ∃ f, (meetO s cs t bs).isSome = f := ⟨_, rfl⟩
  have HS : Hid (∀ (a a' : Option Addr) (cap cap' : Nat) (w : World), Boxes w a cs → Boxes w a' bs → Calls Try.prog 5 #[.agg #[.string s, .slice a cs.length cap], .agg #[.string t, .slice a' bs.length cap']] w fun e w' => e = .returned (.tuple #[.agg #[.string s1, .string t1, .int .i64 x1, .int .i64 x2, .int .i64 x3], .bool fb]) ∧ Gr w w') := fun a a' cap cap' w ha hb => by have := specMeet_any s t a a' cap cap' cs bs w hs ht ha hb hn hm; rw [hV, hfb] at this; exact this
  have HJ : Hid (∀ (a a' : Option Addr) (cap cap' : Nat) (w : World), Boxes w a cs → Boxes w a' bs → Calls Try.prog 7 #[.agg #[.string s, .slice a cs.length cap], .agg #[.string t, .slice a' bs.length cap']] w fun e w' => e = .returned (.tuple #[.agg #[.string s1, .string t1, .int .i64 x1, .int .i64 x2, .int .i64 x3], .bool fb]) ∧ Gr w w') := fun a a' cap cap' w ha hb => by have := implMeet_any s t a a' cap cap' cs bs w hs ht ha hb hn hm; rw [hV, hfb] at this; exact this
  clear hV hfb
  go_enter Try.func3, Try.ntmps3
  go_upto_region 8 with (first
      | (go_at_call_of 4 (Value.string s); refine (szTube_any _ _ _ _ _ _ hs (by omega) (by omega) hl).mono ?_; rintro e w1 ⟨rfl, g1⟩; replace G := Gr.trans (by first | exact G | exact G.alloc _) g1; (try clear l0 l1 m0 m1 m2 m3); obtain ⟨l1, m0, m1, m2, m3⟩ := two_pairs G; have l0 := Nat.lt_of_succ_lt l1)
      | (go_at_call_of 4 (Value.string t); refine (szTube_any _ _ _ _ _ _ ht (by omega) (by omega) hl').mono ?_; rintro e w1 ⟨rfl, g1⟩; replace G := Gr.trans (by first | exact G | exact G.alloc _) g1; (try clear l0 l1 m0 m1 m2 m3); obtain ⟨l1, m0, m1, m2, m3⟩ := two_pairs G; have l0 := Nat.lt_of_succ_lt l1))
  clear m0 m1 m2 m3 l0 l1
  go_cut [6, 7] from 22 to 29 (fun s6 s7 wx => (∃ p, s6 = .pointer (some ⟨p, 0, none⟩) ∧ p < wx.heap.size ∧ wx.cell? ⟨p, 0, none⟩ = some (.string s1) ∧ wx.cell? ⟨p, 1, none⟩ = some (.string t1) ∧ wx.cell? ⟨p, 2, none⟩ = some (.int .i64 x1) ∧ wx.cell? ⟨p, 3, none⟩ = some (.int .i64 x2) ∧ wx.cell? ⟨p, 4, none⟩ = some (.int .i64 x3)) ∧ s7 = .bool fb ∧ Gr ((w.alloc (.cells #[.string s, .slice a cs.length cap] 24)).alloc (.cells #[.string t, .slice a' bs.length cap'] 24)) wx)
  case first =>
    have K8 : Hid (∀ w', Gr ((w.alloc (.cells #[.string s, .slice a cs.length cap] 24)).alloc (.cells #[.string t, .slice a' bs.length cap'] 24)) w' → Gr ((w.alloc (.cells #[.string s, .slice a cs.length cap] 24)).alloc (.cells #[.string t, .slice a' bs.length cap'] 24)) w' ∧ w'.cell? ⟨w.heap.size, 0, none⟩ = some (.string s) ∧ w'.cell? ⟨w.heap.size, 1, none⟩ = some (.slice a cs.length cap) ∧ w'.cell? ⟨w.heap.size + 1, 0, none⟩ = some (.string t) ∧ w'.cell? ⟨w.heap.size + 1, 1, none⟩ = some (.slice a' bs.length cap')) := fun w' g => ⟨g, (two_pairs g).2⟩
    go_region_held3 (fun w' => Gr ((w.alloc (.cells #[.string s, .slice a cs.length cap] 24)).alloc (.cells #[.string t, .slice a' bs.length cap'] 24)) w' ∧ w'.cell? ⟨w.heap.size, 0, none⟩ = some (.string s) ∧ w'.cell? ⟨w.heap.size, 1, none⟩ = some (.slice a cs.length cap) ∧ w'.cell? ⟨w.heap.size + 1, 0, none⟩ = some (.string t) ∧ w'.cell? ⟨w.heap.size + 1, 1, none⟩ = some (.slice a' bs.length cap'))
      ((refine K8.out _ ?_; repeat (first | with_reducible exact G | with_reducible assumption | with_reducible exact And.left (by assumption) | with_reducible refine Gr.drew ?_ | with_reducible refine Gr.alloc ?_ _ | with_reducible refine Gr.setCell ?_ (Gr.size (by assumption)) _)))
      (first
        | (go_at_call_of 6 (Value.string s); (with_reducible refine Calls.mono (toTube_any _ _ _ cs _ (boxes_gr ha (GB.trans (And.left (by assumption)))) hn) ?_); rintro e wa ⟨⟨ga, rfl, hOa⟩, g1⟩; have g2 := Gr.trans (And.left (by assumption)) g1; have BA : Hid (∀ w', Gr wa w' → Boxes w' (some ⟨ga, 0, none⟩) cs) := fun w' g => boxes_gr hOa.2.2.2 g; clear hOa; (first | have hz := Gr.lt_alloc g1 | have hz := Gr.lt_alloc_drew g1 | have hz := Nat.lt_of_lt_of_le hz g1.size | skip); obtain ⟨hc, hf⟩ := g1.cells)
        | (go_at_call_of 6 (Value.string t); (with_reducible refine Calls.mono (toTube_any _ _ _ bs _ (boxes_gr hb (GB.trans (And.left (by assumption)))) hm) ?_); rintro e wb ⟨⟨gb, rfl, hOb⟩, g1⟩; have g2 := Gr.trans (And.left (by assumption)) g1; have gab : Gr wa wb := Gr.trans (by first | exact Gr.refl _ | exact (Gr.refl _).alloc _ | exact (Gr.refl _).drew | exact ((Gr.refl _).alloc _).drew) g1; have BB : Hid (∀ w', Gr wb w' → Boxes w' (some ⟨gb, 0, none⟩) bs) := fun w' g => boxes_gr hOb.2.2.2 g; clear hOb; (first | have hz := Gr.lt_alloc g1 | have hz := Gr.lt_alloc_drew g1 | have hz := Nat.lt_of_lt_of_le hz g1.size | skip); obtain ⟨hc, hf⟩ := g1.cells)
        | (go_at_call 5; (with_reducible refine Calls.mono (HS.out _ _ _ _ _ (BA.out _ (gab.trans (by first | exact Gr.refl _ | exact (Gr.refl _).alloc _ | exact (Gr.refl _).drew | exact ((Gr.refl _).alloc _).drew))) (BB.out _ (by first | exact Gr.refl _ | exact (Gr.refl _).alloc _ | exact (Gr.refl _).drew | exact ((Gr.refl _).alloc _).drew))) ?_); rintro e wc ⟨rfl, g1⟩; have g2 := Gr.trans (And.left (by assumption)) g1; (first | have hz := Gr.lt_alloc g1 | have hz := Gr.lt_alloc_drew g1 | have hz := Nat.lt_of_lt_of_le hz g1.size | skip); obtain ⟨hc, hf⟩ := g1.cells))
    all_goals (go_wp2_with fail; go_meet)
    all_goals (refine ⟨⟨_, rfl, ?_, ?_, ?_, ?_, ?_, ?_⟩, rfl, And.left (by assumption)⟩)
    all_goals (first | (go_simp; done) | (simp; omega))
  obtain ⟨⟨p, rfl, hp, cp⟩, rfl, G'⟩ := hcut
  rename World => wp
  have CP : Hid (∀ w', Gr wp w' → w'.cell? ⟨p, 0, none⟩ = some (.string s1) ∧ w'.cell? ⟨p, 1, none⟩ = some (.string t1) ∧ w'.cell? ⟨p, 2, none⟩ = some (.int .i64 x1) ∧ w'.cell? ⟨p, 3, none⟩ = some (.int .i64 x2) ∧ w'.cell? ⟨p, 4, none⟩ = some (.int .i64 x3)) := fun w' g => by
    simp only [g.cells.1 p _ hp]
    exact cp
  have HP : Hid (p < wp.heap.size) := hp
  clear cp hp
  clear G
  have G := G'
  have C := Gr.refl wp
  obtain ⟨l1, m0, m1, m2, m3⟩ := two_pairs G
  have l0 := Nat.lt_of_succ_lt l1
  clear G'
  go_upto_region 14 with (first
      | (go_at_call_of 6 (Value.string s); refine (toTube_any _ _ _ cs _ (boxes_gr ha (GB.trans G)) hn).mono ?_; rintro e wx ⟨⟨gx, rfl, hOx⟩, g1⟩; replace C := C.trans g1; replace G := Gr.trans (by first | exact G | exact G.alloc _) g1; (try clear l0 l1 m0 m1 m2 m3); obtain ⟨l1, m0, m1, m2, m3⟩ := two_pairs G; have l0 := Nat.lt_of_succ_lt l1; clear g1)
      | (go_at_call_of 6 (Value.string t); refine (toTube_any _ _ _ bs _ (boxes_gr hb (GB.trans (G.alloc _))) hm).mono ?_; rintro e wy ⟨⟨gy, rfl, hOy⟩, g1⟩; have hX := new_pair g1; obtain ⟨x1', x2', x3'⟩ := hX; have hOx2 := owned_gr hOx (((Gr.refl _).alloc _).trans g1); replace C := C.trans (((Gr.refl _).alloc _).trans g1); replace G := Gr.trans (by first | exact G | exact G.alloc _) g1; (try clear l0 l1 m0 m1 m2 m3); obtain ⟨l1, m0, m1, m2, m3⟩ := two_pairs G; have l0 := Nat.lt_of_succ_lt l1; clear g1)
      | (go_at_call 7; refine (HJ.out _ _ _ _ _ (boxes_gr hOx2.2.2.2 ((Gr.refl _).alloc _)) (boxes_gr hOy.2.2.2 ((Gr.refl _).alloc _))).mono ?_; rintro e wz ⟨rfl, g1⟩; have hY := new_pair g1; have gyz := ((Gr.refl wy).alloc _).trans g1; replace C := C.trans gyz; replace G := Gr.trans (by first | exact G | exact G.alloc _) g1; (try clear l0 l1 m0 m1 m2 m3); obtain ⟨l1, m0, m1, m2, m3⟩ := two_pairs G; have l0 := Nat.lt_of_succ_lt l1; clear g1; have hpz := Nat.lt_of_lt_of_le HP.out C.size; obtain ⟨e0, e1, e2, e3, e4⟩ := CP.out _ C)
      | (go_at_call 8; refine (eqClash_same _ _ _ _ _ _).mono ?_; rintro e wv ⟨rfl, g1⟩; have gzv := ((Gr.refl wz).alloc _).trans g1; clear e0 e1 e2 e3 e4; replace G := Gr.trans (by first | exact G | exact G.alloc _) g1; (try clear l0 l1 m0 m1 m2 m3); obtain ⟨l1, m0, m1, m2, m3⟩ := two_pairs G; have l0 := Nat.lt_of_succ_lt l1; clear g1))
  obtain ⟨y1, y2, y3⟩ := hY
  have gxv := gyz.trans gzv
  have hOx3 := owned_gr hOx2 gxv
  have hOy3 := owned_gr hOy gxv
  have xz0 := (gxv.cells.1 _ _ x1').trans x2'
  have xz1 := (gxv.cells.1 _ _ x1').trans x3'
  have yz0 := (gzv.cells.1 _ _ y1).trans y2
  have yz1 := (gzv.cells.1 _ _ y1).trans y3
  have lx : wx.heap.size < wv.heap.size := Nat.lt_of_lt_of_le x1' gxv.size
  have ly : wy.heap.size < wv.heap.size := Nat.lt_of_lt_of_le y1 gzv.size
  have HX : Hid (wv.cell? ⟨w.heap.size, 0, none⟩ = some (.string s) ∧ wv.cell? ⟨w.heap.size, 1, none⟩ = some (.slice a cs.length cap) ∧ wv.cell? ⟨wx.heap.size, 0, none⟩ = some (.string s) ∧ wv.cell? ⟨wx.heap.size, 1, none⟩ = some (.slice (some ⟨gx, 0, none⟩) cs.length cs.length)) := ⟨m0, m1, xz0, xz1⟩
  have HY : Hid (wv.cell? ⟨w.heap.size + 1, 0, none⟩ = some (.string t) ∧ wv.cell? ⟨w.heap.size + 1, 1, none⟩ = some (.slice a' bs.length cap') ∧ wv.cell? ⟨wy.heap.size, 0, none⟩ = some (.string t) ∧ wv.cell? ⟨wy.heap.size, 1, none⟩ = some (.slice (some ⟨gy, 0, none⟩) bs.length bs.length)) := ⟨m2, m3, yz0, yz1⟩
  clear m0 m1 m2 m3 x2' x3' y2 y3 xz0 xz1 yz0 yz1 hOx hOx2 hOy
  go_region_held3 (fun w' => Gr wv w' ∧ w'.cell? ⟨w.heap.size, 0, none⟩ = some (.string s) ∧ w'.cell? ⟨w.heap.size, 1, none⟩ = some (.slice a cs.length cap) ∧ w'.cell? ⟨wx.heap.size, 0, none⟩ = some (.string s) ∧ w'.cell? ⟨wx.heap.size, 1, none⟩ = some (.slice (some ⟨gx, 0, none⟩) cs.length cs.length))
    (first | exact keep4 HX.out (by omega) lx (Gr.refl _).drew | exact keep4 HX.out (by omega) lx ((Gr.refl _).drew.trans g3) | exact keep4 HX.out (by omega) lx (((Gr.refl _).drew.trans g3).trans g4))
    (first
      | (go_at_call 6; refine (toTube_any _ _ _ cs _ (boxes_gr ha (GB.trans (G.trans (Gr.refl _).drew))) hn).mono ?_; rintro e w3 ⟨⟨g', rfl, hO3⟩, g3⟩)
      | (go_at_call 9; refine (eqTube_same _ _ _ _ _ cs _ (boxes_gr hOx3.2.2.2 ((Gr.refl _).drew.trans g3)) hO3.2.2.2 hn).mono ?_; rintro e w4 ⟨rfl, g4⟩))
  have gz4 : Gr wv w4 := ((Gr.refl _).drew.trans g3).trans g4
  have hOy4 := owned_gr hOy3 gz4
  have HY4 : Hid (w4.cell? ⟨w.heap.size + 1, 0, none⟩ = some (.string t) ∧ w4.cell? ⟨w.heap.size + 1, 1, none⟩ = some (.slice a' bs.length cap') ∧ w4.cell? ⟨wy.heap.size, 0, none⟩ = some (.string t) ∧ w4.cell? ⟨wy.heap.size, 1, none⟩ = some (.slice (some ⟨gy, 0, none⟩) bs.length bs.length)) := (keep4 HY.out l1 ly gz4).2
  have l14 := Nat.lt_of_lt_of_le l1 gz4.size
  have y14 := Nat.lt_of_lt_of_le ly gz4.size
  clear HX HY hO3 hOx3 hOy3
  go_upto_region 16 with fail
  go_region_held3 (fun w' => Gr w4 w' ∧ w'.cell? ⟨w.heap.size + 1, 0, none⟩ = some (.string t) ∧ w'.cell? ⟨w.heap.size + 1, 1, none⟩ = some (.slice a' bs.length cap') ∧ w'.cell? ⟨wy.heap.size, 0, none⟩ = some (.string t) ∧ w'.cell? ⟨wy.heap.size, 1, none⟩ = some (.slice (some ⟨gy, 0, none⟩) bs.length bs.length))
    (first | exact keep4 HY4.out l14 y14 (Gr.refl _).drew | exact keep4 HY4.out l14 y14 ((Gr.refl _).drew.trans g5) | exact keep4 HY4.out l14 y14 (((Gr.refl _).drew.trans g5).trans g6))
    (first
      | (go_at_call 6; refine (toTube_any _ _ _ bs _ (boxes_gr hb (GB.trans (G.trans (gz4.trans (Gr.refl _).drew)))) hm).mono ?_; rintro e w5 ⟨⟨g', rfl, hO5⟩, g5⟩)
      | (go_at_call 9; refine (eqTube_same _ _ _ _ _ bs _ (boxes_gr hOy4.2.2.2 ((Gr.refl _).drew.trans g5)) hO5.2.2.2 hm).mono ?_; rintro e w6 ⟨rfl, g6⟩))
  go_wp2
  go_ret
  exact ⟨rfl, GB.trans (G.trans (gz4.trans (((Gr.refl _).drew.trans g5).trans g6)))⟩
end Go.Proofs.Ytpdcgjkfilohcab
