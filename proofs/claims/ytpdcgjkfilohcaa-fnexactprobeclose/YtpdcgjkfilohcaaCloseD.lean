import Derived.Test.YtpdcgjkfilohcaaCloseC
namespace Go.Proofs.Ytpdcgjkfilohcaa
open Go.RowKit
attribute [local go_sem ↓] Go.wp_at_zero Go.wp_at_succ

set_option maxHeartbeats 4000000 in
theorem lawClose_any (a b : Bx) (w : World) :
    Calls Try.prog 6 #[.agg #[.int .i64 a.x, .int .i64 a.y, .int .i64 a.l, .int .i64 a.h, .int .i64 a.i, .int .i64 a.o], .agg #[.int .i64 b.x, .int .i64 b.y, .int .i64 b.l, .int .i64 b.h, .int .i64 b.i, .int .i64 b.o]] w fun e w' => e = .returned (.bool true) ∧ Gr w w' := by
  have G := Gr.refl ((w.alloc (.cells #[.int .i64 a.x, .int .i64 a.y, .int .i64 a.l, .int .i64 a.h, .int .i64 a.i, .int .i64 a.o] 43)).alloc (.cells #[.int .i64 b.x, .int .i64 b.y, .int .i64 b.l, .int .i64 b.h, .int .i64 b.i, .int .i64 b.o] 43))
  go_enter Try.func6, Try.ntmps6
  go_upto_region 1 with fail
  go_cut [5, 6] (fun s5 s6 wx => s5 = .int .i64 (closeT a b) ∧ s6 = .bool (closeB a b) ∧ Gr ((w.alloc (.cells #[.int .i64 a.x, .int .i64 a.y, .int .i64 a.l, .int .i64 a.h, .int .i64 a.i, .int .i64 a.o] 43)).alloc (.cells #[.int .i64 b.x, .int .i64 b.y, .int .i64 b.l, .int .i64 b.h, .int .i64 b.i, .int .i64 b.o] 43)) wx)
  case first =>
    go_region_held3 (fun w' => Gr ((w.alloc (.cells #[.int .i64 a.x, .int .i64 a.y, .int .i64 a.l, .int .i64 a.h, .int .i64 a.i, .int .i64 a.o] 43)).alloc (.cells #[.int .i64 b.x, .int .i64 b.y, .int .i64 b.l, .int .i64 b.h, .int .i64 b.i, .int .i64 b.o] 43)) w' ∧ ∀ q r, q < ((w.alloc (.cells #[.int .i64 a.x, .int .i64 a.y, .int .i64 a.l, .int .i64 a.h, .int .i64 a.i, .int .i64 a.o] 43)).alloc (.cells #[.int .i64 b.x, .int .i64 b.y, .int .i64 b.l, .int .i64 b.h, .int .i64 b.i, .int .i64 b.o] 43)).heap.size → w'.cell? ⟨q, r, none⟩ = ((w.alloc (.cells #[.int .i64 a.x, .int .i64 a.y, .int .i64 a.l, .int .i64 a.h, .int .i64 a.i, .int .i64 a.o] 43)).alloc (.cells #[.int .i64 b.x, .int .i64 b.y, .int .i64 b.l, .int .i64 b.h, .int .i64 b.i, .int .i64 b.o] 43)).cell? ⟨q, r, none⟩)
      ((refine sees_of ?_; repeat (first | exact G | assumption | exact And.left (by assumption) | refine Gr.drew ?_ | refine Gr.alloc ?_ _ | refine Gr.setCell ?_ (Gr.size (by assumption)) _)))
      (first
        | (go_at_call 24; refine (toBox_any _ _ _ _ _ _ _).mono ?_; rintro e w1 ⟨rfl, g1⟩; have g2 := Gr.trans (And.left (by assumption)) g1; (first | have hz := Gr.lt_alloc g1 | have hz := Gr.lt_alloc_drew g1 | have hz := Nat.lt_of_lt_of_le hz g1.size | skip); obtain ⟨hc, hf⟩ := g1.cells)
        | (go_at_call 26; refine (specClose_any a b _).mono ?_; rintro e w1 ⟨rfl, g1⟩; have g2 := Gr.trans (And.left (by assumption)) g1; (first | have hz := Gr.lt_alloc g1 | have hz := Gr.lt_alloc_drew g1 | have hz := Nat.lt_of_lt_of_le hz g1.size | skip); obtain ⟨hc, hf⟩ := g1.cells))
    all_goals (go_wp2_with fail; go_meet)
    all_goals exact ⟨rfl, rfl, And.left (by assumption)⟩
  obtain ⟨rfl, rfl, G⟩ := hcut
  obtain ⟨hc, hf⟩ := G.cells
  go_upto_region 2 with fail
  go_cut [7, 8] (fun s7 s8 wx => s7 = .int .i64 (closeT a b) ∧ s8 = .bool (closeB a b) ∧ Gr ((w.alloc (.cells #[.int .i64 a.x, .int .i64 a.y, .int .i64 a.l, .int .i64 a.h, .int .i64 a.i, .int .i64 a.o] 43)).alloc (.cells #[.int .i64 b.x, .int .i64 b.y, .int .i64 b.l, .int .i64 b.h, .int .i64 b.i, .int .i64 b.o] 43)) wx)
  case first =>
    go_region_held3 (fun w' => Gr ((w.alloc (.cells #[.int .i64 a.x, .int .i64 a.y, .int .i64 a.l, .int .i64 a.h, .int .i64 a.i, .int .i64 a.o] 43)).alloc (.cells #[.int .i64 b.x, .int .i64 b.y, .int .i64 b.l, .int .i64 b.h, .int .i64 b.i, .int .i64 b.o] 43)) w' ∧ ∀ q r, q < ((w.alloc (.cells #[.int .i64 a.x, .int .i64 a.y, .int .i64 a.l, .int .i64 a.h, .int .i64 a.i, .int .i64 a.o] 43)).alloc (.cells #[.int .i64 b.x, .int .i64 b.y, .int .i64 b.l, .int .i64 b.h, .int .i64 b.i, .int .i64 b.o] 43)).heap.size → w'.cell? ⟨q, r, none⟩ = ((w.alloc (.cells #[.int .i64 a.x, .int .i64 a.y, .int .i64 a.l, .int .i64 a.h, .int .i64 a.i, .int .i64 a.o] 43)).alloc (.cells #[.int .i64 b.x, .int .i64 b.y, .int .i64 b.l, .int .i64 b.h, .int .i64 b.i, .int .i64 b.o] 43)).cell? ⟨q, r, none⟩)
      ((refine sees_of ?_; repeat (first | exact G | assumption | exact And.left (by assumption) | refine Gr.drew ?_ | refine Gr.alloc ?_ _ | refine Gr.setCell ?_ (Gr.size (by assumption)) _)))
      (first
        | (go_at_call 24; refine (toBox_any _ _ _ _ _ _ _).mono ?_; rintro e w1 ⟨rfl, g1⟩; have g2 := Gr.trans (And.left (by assumption)) g1; (first | have hz := Gr.lt_alloc g1 | have hz := Gr.lt_alloc_drew g1 | have hz := Nat.lt_of_lt_of_le hz g1.size | skip); obtain ⟨hc, hf⟩ := g1.cells)
        | (go_at_call 27; refine (implClose_any a b _).mono ?_; rintro e w1 ⟨rfl, g1⟩; have g2 := Gr.trans (And.left (by assumption)) g1; (first | have hz := Gr.lt_alloc g1 | have hz := Gr.lt_alloc_drew g1 | have hz := Nat.lt_of_lt_of_le hz g1.size | skip); obtain ⟨hc, hf⟩ := g1.cells))
    all_goals (go_wp2_with fail; go_meet)
    all_goals exact ⟨rfl, rfl, And.left (by assumption)⟩
  obtain ⟨rfl, rfl, G⟩ := hcut
  go_wp2
  go_ret
  exact ⟨rfl, (((Gr.refl _).alloc _).alloc _).trans G⟩

end Go.Proofs.Ytpdcgjkfilohcaa
