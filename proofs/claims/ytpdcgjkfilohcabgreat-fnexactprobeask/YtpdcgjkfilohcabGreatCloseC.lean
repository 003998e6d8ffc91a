import Derived.Test.YtpdcgjkfilohcabGreatCloseB
namespace Go.Proofs.YtpdcgjkfilohcabGreat
open Go.RowKit
attribute [local go_sem ↓] Go.wp_at_zero Go.wp_at_succ

theorem sees_of {B W : World} (g : Gr B W) : Gr B W ∧ ∀ b o, b < B.heap.size → W.cell? ⟨b, o, none⟩ = B.cell? ⟨b, o, none⟩ := ⟨g, g.cells.1⟩
theorem Gr.lt_alloc {w w1 : World} {o : Obj} (g : Gr (w.alloc o) w1) : w.heap.size < w1.heap.size := by
  have := g.size; simp at this; omega
theorem Gr.lt_alloc_drew {w w1 : World} {o : Obj} (g : Gr (w.alloc o).drew w1) : w.heap.size < w1.heap.size := by
  have := g.size; simp at this; omega

theorem close_meets {a b : Bx} (ha : a.ok = true) (hb : b.ok = true) :
    closeB a b = (meetB a.x (a.x + 1) b.x (b.x + 1) && meetB a.y (a.y + 1) b.y (b.y + 1) && meetB a.l a.h b.l b.h && meetB a.i a.o b.i b.o) := by
  have h1 := ok_nums ha
  have h2 := ok_nums hb
  rw [closeB, ha, hb, Bool.eq_iff_iff]
  simp only [nearB, meetB, Bool.true_and, Bool.and_eq_true, decide_eq_true_eq]
  split <;> split <;> split <;> split <;> split <;> split <;> split <;> split <;> omega
theorem closeT_meets {a b : Bx} (h : closeB a b = true) (hm : meetB a.i a.o b.i b.o = true) : closeT a b = meetF a.i a.o b.i b.o := by
  simp only [closeT, h, meetF, hm, if_true]
  split <;> split <;> omega

set_option maxHeartbeats 4000000 in
theorem implClose_ok (a b : Bx) (w : World) (ha : a.ok = true) (hb : b.ok = true) :
    Calls Tryz.prog 59 #[.agg #[.int .i64 a.x, .int .i64 a.y, .int .i64 a.l, .int .i64 a.h, .int .i64 a.i, .int .i64 a.o], .agg #[.int .i64 b.x, .int .i64 b.y, .int .i64 b.l, .int .i64 b.h, .int .i64 b.i, .int .i64 b.o]] w fun e w' => e = .returned (.tuple #[.int .i64 (closeT a b), .bool (closeB a b)]) ∧ Gr w w' := by
  obtain ⟨a1, a2, a3, a4, -, -, -, a5, -, a6⟩ := ok_nums ha
  obtain ⟨b1, b2, b3, b4, -, -, -, b5, -, b6⟩ := ok_nums hb
  have HM : Hid (closeB a b = (meetB a.x (a.x + 1) b.x (b.x + 1) && meetB a.y (a.y + 1) b.y (b.y + 1) && meetB a.l a.h b.l b.h && meetB a.i a.o b.i b.o)) := close_meets ha hb
  simp only [Bx.ok] at ha hb
  have G := Gr.refl ((w.alloc (.cells #[.int .i64 a.x, .int .i64 a.y, .int .i64 a.l, .int .i64 a.h, .int .i64 a.i, .int .i64 a.o] 77)).alloc (.cells #[.int .i64 b.x, .int .i64 b.y, .int .i64 b.l, .int .i64 b.h, .int .i64 b.i, .int .i64 b.o] 77))
  go_enter Tryz.func59, Tryz.ntmps59
  go_upto_region 3 with (first
    | (go_at_call 98; refine (implBoxOk_any _ _ _ _ _ _ _).mono ?_; rintro e w1 ⟨rfl, g1⟩; replace G := G.trans g1; clear g1; (try clear hc hf); obtain ⟨hc, hf⟩ := G.cells))
  clear ha hb
  go_cut [7] (fun s7 wx => s7 = .bool (meetB a.x (a.x + 1) b.x (b.x + 1)) ∧ Gr ((w.alloc (.cells #[.int .i64 a.x, .int .i64 a.y, .int .i64 a.l, .int .i64 a.h, .int .i64 a.i, .int .i64 a.o] 77)).alloc (.cells #[.int .i64 b.x, .int .i64 b.y, .int .i64 b.l, .int .i64 b.h, .int .i64 b.i, .int .i64 b.o] 77)) wx)
  case first =>
    go_region_held3 (fun w' => Gr ((w.alloc (.cells #[.int .i64 a.x, .int .i64 a.y, .int .i64 a.l, .int .i64 a.h, .int .i64 a.i, .int .i64 a.o] 77)).alloc (.cells #[.int .i64 b.x, .int .i64 b.y, .int .i64 b.l, .int .i64 b.h, .int .i64 b.i, .int .i64 b.o] 77)) w' ∧ ∀ q r, q < ((w.alloc (.cells #[.int .i64 a.x, .int .i64 a.y, .int .i64 a.l, .int .i64 a.h, .int .i64 a.i, .int .i64 a.o] 77)).alloc (.cells #[.int .i64 b.x, .int .i64 b.y, .int .i64 b.l, .int .i64 b.h, .int .i64 b.i, .int .i64 b.o] 77)).heap.size → w'.cell? ⟨q, r, none⟩ = ((w.alloc (.cells #[.int .i64 a.x, .int .i64 a.y, .int .i64 a.l, .int .i64 a.h, .int .i64 a.i, .int .i64 a.o] 77)).alloc (.cells #[.int .i64 b.x, .int .i64 b.y, .int .i64 b.l, .int .i64 b.h, .int .i64 b.i, .int .i64 b.o] 77)).cell? ⟨q, r, none⟩)
      ((refine sees_of ?_; repeat (first | exact G | assumption | exact And.left (by assumption) | refine Gr.drew ?_ | refine Gr.alloc ?_ _ | refine Gr.setCell ?_ (Gr.size (by assumption)) _)))
      (first
        | (go_at_call 99; refine (reachOf_any _ _ (by omega) (by omega)).mono ?_; rintro e w1 ⟨rfl, g1⟩; have g2 := Gr.trans (And.left (by assumption)) g1; (first | have hz := Gr.lt_alloc g1 | have hz := Gr.lt_alloc_drew g1 | have hz := Nat.lt_of_lt_of_le hz g1.size | skip); obtain ⟨hc, hf⟩ := g1.cells)
        | (go_at_call 100; refine (meetPlace_any _ _ _ _ _).mono ?_; rintro e w1 ⟨rfl, g1⟩; have g2 := Gr.trans (And.left (by assumption)) g1; (first | have hz := Gr.lt_alloc g1 | have hz := Gr.lt_alloc_drew g1 | have hz := Nat.lt_of_lt_of_le hz g1.size | skip); obtain ⟨hc, hf⟩ := g1.cells))
    all_goals (go_wp2_with fail; go_meet)
    all_goals exact ⟨rfl, And.left (by assumption)⟩
  obtain ⟨rfl, G⟩ := hcut
  obtain ⟨hc, hf⟩ := G.cells
  go_upto_region 4 with fail
  go_cut [9] (fun s9 wx => s9 = .bool (meetB a.y (a.y + 1) b.y (b.y + 1)) ∧ Gr ((w.alloc (.cells #[.int .i64 a.x, .int .i64 a.y, .int .i64 a.l, .int .i64 a.h, .int .i64 a.i, .int .i64 a.o] 77)).alloc (.cells #[.int .i64 b.x, .int .i64 b.y, .int .i64 b.l, .int .i64 b.h, .int .i64 b.i, .int .i64 b.o] 77)) wx)
  case first =>
    go_region_held3 (fun w' => Gr ((w.alloc (.cells #[.int .i64 a.x, .int .i64 a.y, .int .i64 a.l, .int .i64 a.h, .int .i64 a.i, .int .i64 a.o] 77)).alloc (.cells #[.int .i64 b.x, .int .i64 b.y, .int .i64 b.l, .int .i64 b.h, .int .i64 b.i, .int .i64 b.o] 77)) w' ∧ ∀ q r, q < ((w.alloc (.cells #[.int .i64 a.x, .int .i64 a.y, .int .i64 a.l, .int .i64 a.h, .int .i64 a.i, .int .i64 a.o] 77)).alloc (.cells #[.int .i64 b.x, .int .i64 b.y, .int .i64 b.l, .int .i64 b.h, .int .i64 b.i, .int .i64 b.o] 77)).heap.size → w'.cell? ⟨q, r, none⟩ = ((w.alloc (.cells #[.int .i64 a.x, .int .i64 a.y, .int .i64 a.l, .int .i64 a.h, .int .i64 a.i, .int .i64 a.o] 77)).alloc (.cells #[.int .i64 b.x, .int .i64 b.y, .int .i64 b.l, .int .i64 b.h, .int .i64 b.i, .int .i64 b.o] 77)).cell? ⟨q, r, none⟩)
      ((refine sees_of ?_; repeat (first | exact G | assumption | exact And.left (by assumption) | refine Gr.drew ?_ | refine Gr.alloc ?_ _ | refine Gr.setCell ?_ (Gr.size (by assumption)) _)))
      (first
        | (go_at_call 99; refine (reachOf_any _ _ (by omega) (by omega)).mono ?_; rintro e w1 ⟨rfl, g1⟩; have g2 := Gr.trans (And.left (by assumption)) g1; (first | have hz := Gr.lt_alloc g1 | have hz := Gr.lt_alloc_drew g1 | have hz := Nat.lt_of_lt_of_le hz g1.size | skip); obtain ⟨hc, hf⟩ := g1.cells)
        | (go_at_call 100; refine (meetPlace_any _ _ _ _ _).mono ?_; rintro e w1 ⟨rfl, g1⟩; have g2 := Gr.trans (And.left (by assumption)) g1; (first | have hz := Gr.lt_alloc g1 | have hz := Gr.lt_alloc_drew g1 | have hz := Nat.lt_of_lt_of_le hz g1.size | skip); obtain ⟨hc, hf⟩ := g1.cells))
    all_goals (go_wp2_with fail; go_meet)
    all_goals exact ⟨rfl, And.left (by assumption)⟩
  obtain ⟨rfl, G⟩ := hcut
  obtain ⟨hc, hf⟩ := G.cells
  go_upto_region 5 with fail
  go_cut [11] (fun s11 wx => s11 = .bool (meetB a.l a.h b.l b.h) ∧ Gr ((w.alloc (.cells #[.int .i64 a.x, .int .i64 a.y, .int .i64 a.l, .int .i64 a.h, .int .i64 a.i, .int .i64 a.o] 77)).alloc (.cells #[.int .i64 b.x, .int .i64 b.y, .int .i64 b.l, .int .i64 b.h, .int .i64 b.i, .int .i64 b.o] 77)) wx)
  case first =>
    go_region_held3 (fun w' => Gr ((w.alloc (.cells #[.int .i64 a.x, .int .i64 a.y, .int .i64 a.l, .int .i64 a.h, .int .i64 a.i, .int .i64 a.o] 77)).alloc (.cells #[.int .i64 b.x, .int .i64 b.y, .int .i64 b.l, .int .i64 b.h, .int .i64 b.i, .int .i64 b.o] 77)) w' ∧ ∀ q r, q < ((w.alloc (.cells #[.int .i64 a.x, .int .i64 a.y, .int .i64 a.l, .int .i64 a.h, .int .i64 a.i, .int .i64 a.o] 77)).alloc (.cells #[.int .i64 b.x, .int .i64 b.y, .int .i64 b.l, .int .i64 b.h, .int .i64 b.i, .int .i64 b.o] 77)).heap.size → w'.cell? ⟨q, r, none⟩ = ((w.alloc (.cells #[.int .i64 a.x, .int .i64 a.y, .int .i64 a.l, .int .i64 a.h, .int .i64 a.i, .int .i64 a.o] 77)).alloc (.cells #[.int .i64 b.x, .int .i64 b.y, .int .i64 b.l, .int .i64 b.h, .int .i64 b.i, .int .i64 b.o] 77)).cell? ⟨q, r, none⟩)
      ((refine sees_of ?_; repeat (first | exact G | assumption | exact And.left (by assumption) | refine Gr.drew ?_ | refine Gr.alloc ?_ _ | refine Gr.setCell ?_ (Gr.size (by assumption)) _)))
      (first
        | (go_at_call 101; refine (levelsOf_any _ _ _ _ _ _ _).mono ?_; rintro e w1 ⟨rfl, g1⟩; have g2 := Gr.trans (And.left (by assumption)) g1; (first | have hz := Gr.lt_alloc g1 | have hz := Gr.lt_alloc_drew g1 | have hz := Nat.lt_of_lt_of_le hz g1.size | skip); obtain ⟨hc, hf⟩ := g1.cells)
        | (go_at_call 102; refine (meetLevel_any _ _ _ _ _).mono ?_; rintro e w1 ⟨rfl, g1⟩; have g2 := Gr.trans (And.left (by assumption)) g1; (first | have hz := Gr.lt_alloc g1 | have hz := Gr.lt_alloc_drew g1 | have hz := Nat.lt_of_lt_of_le hz g1.size | skip); obtain ⟨hc, hf⟩ := g1.cells))
    all_goals (go_wp2_with fail; go_meet)
    all_goals exact ⟨rfl, And.left (by assumption)⟩
  obtain ⟨rfl, G⟩ := hcut
  obtain ⟨hc, hf⟩ := G.cells
  go_upto_region 6 with fail
  go_cut [12, 13] (fun s12 s13 wx => (∃ g, s12 = .pointer (some ⟨g, 0, none⟩) ∧ wx.cell? ⟨g, 0, none⟩ = some (.int .i64 (meetF a.i a.o b.i b.o))) ∧ s13 = .bool (meetB a.i a.o b.i b.o) ∧ Gr ((w.alloc (.cells #[.int .i64 a.x, .int .i64 a.y, .int .i64 a.l, .int .i64 a.h, .int .i64 a.i, .int .i64 a.o] 77)).alloc (.cells #[.int .i64 b.x, .int .i64 b.y, .int .i64 b.l, .int .i64 b.h, .int .i64 b.i, .int .i64 b.o] 77)) wx)
  case first =>
    go_region_held3 (fun w' => Gr ((w.alloc (.cells #[.int .i64 a.x, .int .i64 a.y, .int .i64 a.l, .int .i64 a.h, .int .i64 a.i, .int .i64 a.o] 77)).alloc (.cells #[.int .i64 b.x, .int .i64 b.y, .int .i64 b.l, .int .i64 b.h, .int .i64 b.i, .int .i64 b.o] 77)) w' ∧ ∀ q r, q < ((w.alloc (.cells #[.int .i64 a.x, .int .i64 a.y, .int .i64 a.l, .int .i64 a.h, .int .i64 a.i, .int .i64 a.o] 77)).alloc (.cells #[.int .i64 b.x, .int .i64 b.y, .int .i64 b.l, .int .i64 b.h, .int .i64 b.i, .int .i64 b.o] 77)).heap.size → w'.cell? ⟨q, r, none⟩ = ((w.alloc (.cells #[.int .i64 a.x, .int .i64 a.y, .int .i64 a.l, .int .i64 a.h, .int .i64 a.i, .int .i64 a.o] 77)).alloc (.cells #[.int .i64 b.x, .int .i64 b.y, .int .i64 b.l, .int .i64 b.h, .int .i64 b.i, .int .i64 b.o] 77)).cell? ⟨q, r, none⟩)
      ((refine sees_of ?_; repeat (first | exact G | assumption | exact And.left (by assumption) | refine Gr.drew ?_ | refine Gr.alloc ?_ _ | refine Gr.setCell ?_ (Gr.size (by assumption)) _)))
      (first
        | (go_at_call 103; refine (ticksOf_any _ _ _ _ _ _ _).mono ?_; rintro e w1 ⟨rfl, g1⟩; have g2 := Gr.trans (And.left (by assumption)) g1; (first | have hz := Gr.lt_alloc g1 | have hz := Gr.lt_alloc_drew g1 | have hz := Nat.lt_of_lt_of_le hz g1.size | skip); obtain ⟨hc, hf⟩ := g1.cells)
        | (go_at_call 104; refine (meetTick_any _ _ _ _ _).mono ?_; rintro e w1 ⟨rfl, g1⟩; have g2 := Gr.trans (And.left (by assumption)) g1; (first | have hz := Gr.lt_alloc g1 | have hz := Gr.lt_alloc_drew g1 | have hz := Nat.lt_of_lt_of_le hz g1.size | skip); obtain ⟨hc, hf⟩ := g1.cells))
    all_goals (go_wp2_with fail; go_meet)
    all_goals (refine ⟨⟨_, rfl, ?_⟩, rfl, And.left (by assumption)⟩)
    all_goals go_simp
  obtain ⟨⟨g, rfl, hg⟩, rfl, G⟩ := hcut
  obtain ⟨hc, hf⟩ := G.cells
  rcases chain4 (meetB a.x (a.x + 1) b.x (b.x + 1)) (meetB a.y (a.y + 1) b.y (b.y + 1)) (meetB a.l a.h b.l b.h) (meetB a.i a.o b.i b.o) with h1 | ⟨h1, h2⟩ | ⟨h1, h2, h3⟩ | ⟨h1, h2, h3, h4⟩ | ⟨h1, h2, h3, h4⟩
  · have HX : Hid (closeB a b = false) := by show closeB a b = false; rw [HM.out]; simp [h1]
    have HT : Hid (closeT a b = 0) := by show closeT a b = 0; simp [closeT, HX.out]
    clear HM
    go_wp2
    go_ret2
    exact ⟨by rw [HX.out, HT.out]; rfl, (((Gr.refl _).alloc _).alloc _).trans G⟩
  · have HX : Hid (closeB a b = false) := by show closeB a b = false; rw [HM.out]; simp [h2]
    have HT : Hid (closeT a b = 0) := by show closeT a b = 0; simp [closeT, HX.out]
    clear HM
    go_wp2
    go_ret2
    exact ⟨by rw [HX.out, HT.out]; rfl, (((Gr.refl _).alloc _).alloc _).trans G⟩
  · have HX : Hid (closeB a b = false) := by show closeB a b = false; rw [HM.out]; simp [h3]
    have HT : Hid (closeT a b = 0) := by show closeT a b = 0; simp [closeT, HX.out]
    clear HM
    go_wp2
    go_ret2
    exact ⟨by rw [HX.out, HT.out]; rfl, (((Gr.refl _).alloc _).alloc _).trans G⟩
  · have HX : Hid (closeB a b = false) := by show closeB a b = false; rw [HM.out]; simp [h4]
    have HT : Hid (closeT a b = 0) := by show closeT a b = 0; simp [closeT, HX.out]
    clear HM
    go_wp2
    go_ret2
    exact ⟨by rw [HX.out, HT.out]; rfl, (((Gr.refl _).alloc _).alloc _).trans G⟩
  · have HX : Hid (closeB a b = true) := by show closeB a b = true; rw [HM.out]; simp [h1, h2, h3, h4]
    have HT : Hid (closeT a b = meetF a.i a.o b.i b.o) := closeT_meets HX.out h4
    clear HM
    go_wp2
    go_ret2
    exact ⟨by rw [HX.out, HT.out]; rfl, (((Gr.refl _).alloc _).alloc _).trans G⟩

set_option maxHeartbeats 1000000 in
theorem implClose_any (a b : Bx) (w : World) :
    Calls Tryz.prog 59 #[.agg #[.int .i64 a.x, .int .i64 a.y, .int .i64 a.l, .int .i64 a.h, .int .i64 a.i, .int .i64 a.o], .agg #[.int .i64 b.x, .int .i64 b.y, .int .i64 b.l, .int .i64 b.h, .int .i64 b.i, .int .i64 b.o]] w fun e w' => e = .returned (.tuple #[.int .i64 (closeT a b), .bool (closeB a b)]) ∧ Gr w w' := by
  cases ha : a.ok
  · have e1 : closeB a b = false := by simp [closeB, ha]
    have e2 : closeT a b = 0 := by simp [closeT, e1]
    rw [e1, e2]
    clear e1 e2
    simp only [Bx.ok] at ha
    have G := Gr.refl ((w.alloc (.cells #[.int .i64 a.x, .int .i64 a.y, .int .i64 a.l, .int .i64 a.h, .int .i64 a.i, .int .i64 a.o] 77)).alloc (.cells #[.int .i64 b.x, .int .i64 b.y, .int .i64 b.l, .int .i64 b.h, .int .i64 b.i, .int .i64 b.o] 77))
    go_enter Tryz.func59, Tryz.ntmps59
    go_wp2_with (go_at_call 98; refine (implBoxOk_any _ _ _ _ _ _ _).mono ?_; rintro e w1 ⟨rfl, g1⟩; replace G := G.trans g1; clear g1; (try clear hc hf); obtain ⟨hc, hf⟩ := G.cells)
    go_ret2
    exact ⟨rfl, (((Gr.refl _).alloc _).alloc _).trans G⟩
  · cases hb : b.ok
    · have e1 : closeB a b = false := by simp [closeB, hb]
      have e2 : closeT a b = 0 := by simp [closeT, e1]
      rw [e1, e2]
      clear e1 e2
      simp only [Bx.ok] at ha hb
      have G := Gr.refl ((w.alloc (.cells #[.int .i64 a.x, .int .i64 a.y, .int .i64 a.l, .int .i64 a.h, .int .i64 a.i, .int .i64 a.o] 77)).alloc (.cells #[.int .i64 b.x, .int .i64 b.y, .int .i64 b.l, .int .i64 b.h, .int .i64 b.i, .int .i64 b.o] 77))
      go_enter Tryz.func59, Tryz.ntmps59
      go_wp2_with (go_at_call 98; refine (implBoxOk_any _ _ _ _ _ _ _).mono ?_; rintro e w1 ⟨rfl, g1⟩; replace G := G.trans g1; clear g1; (try clear hc hf); obtain ⟨hc, hf⟩ := G.cells)
      go_ret2
      exact ⟨rfl, (((Gr.refl _).alloc _).alloc _).trans G⟩
    · exact implClose_ok a b w ha hb

end Go.Proofs.YtpdcgjkfilohcabGreat
