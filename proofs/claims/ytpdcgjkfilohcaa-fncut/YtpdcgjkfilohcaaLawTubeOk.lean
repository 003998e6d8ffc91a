import Derived.Test.YtpdcgjkfilohcaaTubeOk
namespace Go.Proofs.Ytpdcgjkfilohcaa
open Go.RowKit
attribute [local go_sem ↓] Go.wp_at_zero Go.wp_at_succ

theorem szT_le {left : Int} {m n : Nat} (h1 : left ≤ 1048576) (h : ¬ szT left m n < 0) : m ≤ 1048576 ∧ n ≤ 1048576 ∧ 0 ≤ szT left m n ∧ szT left m n ≤ 1048576 := by
  unfold szT at *
  split at h
  · omega
  · split at h
    · omega
    · simp_all; omega

theorem new_pair {w w1 : World} {u v : Value} {t : TypeId} (g : Gr (w.alloc (.cells #[u, v] t)) w1) : w.heap.size < w1.heap.size ∧ w1.cell? ⟨w.heap.size, 0, none⟩ = some u ∧ w1.cell? ⟨w.heap.size, 1, none⟩ = some v :=
  ⟨g.lt_alloc, (g.cells.1 _ _ (by simp)).trans (by simp), (g.cells.1 _ _ (by simp)).trans (by simp)⟩
theorem keep4 {w1 w' : World} {p q : Nat} {u0 u1 v0 v1 : Value} (h : w1.cell? ⟨p, 0, none⟩ = some u0 ∧ w1.cell? ⟨p, 1, none⟩ = some u1 ∧ w1.cell? ⟨q, 0, none⟩ = some v0 ∧ w1.cell? ⟨q, 1, none⟩ = some v1) (hp : p < w1.heap.size) (hq : q < w1.heap.size) (g : Gr w1 w') :
    Gr w1 w' ∧ w'.cell? ⟨p, 0, none⟩ = some u0 ∧ w'.cell? ⟨p, 1, none⟩ = some u1 ∧ w'.cell? ⟨q, 0, none⟩ = some v0 ∧ w'.cell? ⟨q, 1, none⟩ = some v1 :=
  ⟨g, (g.cells.1 _ _ hp).trans h.1, (g.cells.1 _ _ hp).trans h.2.1, (g.cells.1 _ _ hq).trans h.2.2.1, (g.cells.1 _ _ hq).trans h.2.2.2⟩

set_option maxHeartbeats 2000000 in
theorem lawTubeOk_any (s : ByteArray) (a : Option Addr) (cap : Nat) (bs : List Bx) (w : World) (hs : s.size ≤ maxLen) (ha : Boxes w a bs) (hl : bs.length ≤ maxLen) :
    Calls Try.prog 7 #[.agg #[.string s, .slice a bs.length cap]] w fun e w' => e = .returned (.bool true) ∧ Gr w w' := by
  have G := Gr.refl (w.alloc (.cells #[.string s, .slice a bs.length cap] 52))
  by_cases hz : szT 1048576 s.size bs.length < 0
  · go_enter Try.func7, Try.ntmps7
    go_wp2_with (go_at_call 28; refine (szTube_any _ _ _ _ _ _ hs (by omega) (by omega) hl).mono ?_; rintro e w1 ⟨rfl, g1⟩)
    go_ret
    exact ⟨rfl, ((Gr.refl _).alloc _).trans g1⟩
  · obtain ⟨hm, hn, z0, z1⟩ := szT_le (by omega) hz
    have HA : Hid (Boxes (w.alloc (.cells #[.string s, .slice a bs.length cap] 52)) a bs) := boxes_gr ha ((Gr.refl _).alloc _)
    clear ha
    go_enter Try.func7, Try.ntmps7
    go_upto_region 10 with (first
      | (go_at_call 28; refine (szTube_any _ _ _ _ _ _ hs (by omega) (by omega) hl).mono ?_; rintro e w1 ⟨rfl, g1⟩; replace G := G.trans g1; clear g1; (try clear hc hf); obtain ⟨hc, hf⟩ := G.cells)
      | (go_at_call 29; refine (toTube_any _ _ _ bs _ (boxes_gr HA.out G) hn).mono ?_; rintro e wx ⟨⟨g, rfl, hO⟩, g1⟩; replace G := G.trans g1; clear g1; (try clear hc hf); obtain ⟨hc, hf⟩ := G.cells)
      | (go_at_call 14; refine (specTubeOk_any _ _ _ bs _ hs hO.2.2.2 hn).mono ?_; rintro e w1 ⟨rfl, g1⟩; replace G := G.trans g1; clear g1; (try clear hc hf); obtain ⟨hc, hf⟩ := G.cells)
      | (go_at_call 30; refine (implTubeOk_any _ _ _ bs _ hs (boxes_gr hO.2.2.2 ((Gr.refl _).alloc _)) hn).mono ?_; rintro e w1 ⟨rfl, g1⟩; have hO2 := owned_gr hO (((Gr.refl _).alloc _).trans g1); have hX := new_pair g1; replace G := (G.alloc _).trans g1; (try clear hc hf); obtain ⟨hc, hf⟩ := G.cells))
    obtain ⟨x1, x2, x3⟩ := hX
    have hA := new_pair G
    obtain ⟨a1, a2, a3⟩ := hA
    have y : w1.cell? ⟨w.heap.size, 0, none⟩ = some (.string s) ∧ w1.cell? ⟨w.heap.size, 1, none⟩ = some (.slice a bs.length cap) ∧ w1.cell? ⟨wx.heap.size, 0, none⟩ = some (.string s) ∧ w1.cell? ⟨wx.heap.size, 1, none⟩ = some (.slice (some ⟨g, 0, none⟩) bs.length bs.length) := ⟨a2, a3, x2, x3⟩
    have HY : Hid (w1.cell? ⟨w.heap.size, 0, none⟩ = some (.string s) ∧ w1.cell? ⟨w.heap.size, 1, none⟩ = some (.slice a bs.length cap) ∧ w1.cell? ⟨wx.heap.size, 0, none⟩ = some (.string s) ∧ w1.cell? ⟨wx.heap.size, 1, none⟩ = some (.slice (some ⟨g, 0, none⟩) bs.length bs.length)) := y
    clear y hc hf a2 a3 x2 x3 g1
    go_region_held3 (fun w' => Gr w1 w' ∧ w'.cell? ⟨w.heap.size, 0, none⟩ = some (.string s) ∧ w'.cell? ⟨w.heap.size, 1, none⟩ = some (.slice a bs.length cap) ∧ w'.cell? ⟨wx.heap.size, 0, none⟩ = some (.string s) ∧ w'.cell? ⟨wx.heap.size, 1, none⟩ = some (.slice (some ⟨g, 0, none⟩) bs.length bs.length))
      (first | exact keep4 HY.out a1 x1 (Gr.refl _).drew | exact keep4 HY.out a1 x1 ((Gr.refl _).drew.trans g3) | exact keep4 HY.out a1 x1 (((Gr.refl _).drew.trans g3).trans g4))
      (first
        | (go_at_call 29; refine (toTube_any _ _ _ bs _ (boxes_gr HA.out (G.trans (Gr.refl _).drew)) hn).mono ?_; rintro e w3 ⟨⟨g', rfl, hO3⟩, g3⟩)
        | (go_at_call 31; refine (eqTube_same _ _ _ _ _ bs _ (boxes_gr hO2.2.2.2 ((Gr.refl _).drew.trans g3)) hO3.2.2.2 hn).mono ?_; rintro e w4 ⟨rfl, g4⟩))
    go_wp2
    go_ret
    exact ⟨rfl, ((Gr.refl _).alloc _).trans (G.trans (((Gr.refl _).drew.trans g3).trans g4))⟩
end Go.Proofs.Ytpdcgjkfilohcaa
