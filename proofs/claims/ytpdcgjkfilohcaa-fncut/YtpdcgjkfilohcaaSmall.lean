import Derived.Test.YtpdcgjkfilohcaaTubeOk
import Derived.BigQuiet
import Derived.WalkSmall
import Derived.Deep.QuietTactic
namespace Go.Proofs.Ytpdcgjkfilohcaa
open Go.RowKit
attribute [local go_sem ↓] Go.wp_at_zero Go.wp_at_succ

theorem Gr.drewN {a w : World} (h : Gr a w) (n : Nat) : Gr a (w.drewN n) := below_drewN h n

/-- Box a lies within box b, by the specification. -/
def coverB (b a : Bx) : Bool := (a.x == b.x) && (a.y == b.y) && decide (b.l ≤ a.l) && decide (a.h ≤ b.h) && decide (b.i ≤ a.i) && decide (a.o ≤ b.o)
/-- Box a lies within box b, by the program. -/
def inB (a b : Bx) : Bool := (a.x == b.x) && (a.y == b.y) && lieB a.l a.h b.l b.h && lieB a.i a.o b.i b.o
theorem inB_cover {a : Bx} (b : Bx) (ha : a.ok = true) : inB a b = coverB b a := by
  have h := ok_nums ha
  rw [inB, coverB, Bool.eq_iff_iff]
  simp only [lieB, Bool.and_eq_true, decide_eq_true_eq, beq_iff_eq]
  omega
def withinB (cs bs : List Bx) : Bool := cs.all fun a => bs.any fun b => coverB b a
/-- A tube is within another one. -/
def smallB (s : ByteArray) (cs : List Bx) (t : ByteArray) (bs : List Bx) : Bool := tubeB s cs && tubeB t bs && withinB cs bs

set_option maxHeartbeats 1000000 in
theorem cover_any (b a : Bx) (w : World) :
    Calls Try.prog 76 #[.agg #[.int .i64 b.x, .int .i64 b.y, .int .i64 b.l, .int .i64 b.h, .int .i64 b.i, .int .i64 b.o], .agg #[.int .i64 a.x, .int .i64 a.y, .int .i64 a.l, .int .i64 a.h, .int .i64 a.i, .int .i64 a.o]] w fun e w' => e = .returned (.bool (coverB b a)) ∧ Gr w w' := by
  have HV : Hid (coverB b a = ((a.x == b.x) && (a.y == b.y) && decide (b.l ≤ a.l) && decide (a.h ≤ b.h) && decide (b.i ≤ a.i) && decide (a.o ≤ b.o))) := rfl
  rcases chain6 (a.x == b.x) (a.y == b.y) (decide (b.l ≤ a.l)) (decide (a.h ≤ b.h)) (decide (b.i ≤ a.i)) (decide (a.o ≤ b.o)) with h1 | ⟨h1, h2⟩ | ⟨h1, h2, h3⟩ | ⟨h1, h2, h3, h4⟩ | ⟨h1, h2, h3, h4, h5⟩ | ⟨h1, h2, h3, h4, h5, h6⟩ | ⟨h1, h2, h3, h4, h5, h6⟩
  all_goals
    go_enter Try.func76, Try.ntmps76
    go_wp2
    go_ret
    refine ⟨?_, ((Gr.refl _).alloc _).alloc _⟩
    rw [HV.out]
    simp only [*]
    rfl

set_option maxHeartbeats 2000000 in
theorem boxWithin_any (a b : Bx) (w : World) :
    Calls Try.prog 90 #[.agg #[.int .i64 a.x, .int .i64 a.y, .int .i64 a.l, .int .i64 a.h, .int .i64 a.i, .int .i64 a.o], .agg #[.int .i64 b.x, .int .i64 b.y, .int .i64 b.l, .int .i64 b.h, .int .i64 b.i, .int .i64 b.o]] w fun e w' => e = .returned (.bool (inB a b)) ∧ Gr w w' := by
  have HV : Hid (inB a b = ((a.x == b.x) && (a.y == b.y) && lieB a.l a.h b.l b.h && lieB a.i a.o b.i b.o)) := rfl
  have G := Gr.refl ((w.alloc (.cells #[.int .i64 a.x, .int .i64 a.y, .int .i64 a.l, .int .i64 a.h, .int .i64 a.i, .int .i64 a.o] 36)).alloc (.cells #[.int .i64 b.x, .int .i64 b.y, .int .i64 b.l, .int .i64 b.h, .int .i64 b.i, .int .i64 b.o] 36))
  rcases chain4 (a.x == b.x) (a.y == b.y) (lieB a.l a.h b.l b.h) (lieB a.i a.o b.i b.o) with h1 | ⟨h1, h2⟩ | ⟨h1, h2, h3⟩ | ⟨h1, h2, h3, h4⟩ | ⟨h1, h2, h3, h4⟩
  · go_enter Try.func90, Try.ntmps90
    go_wp2
    go_quiet (fail)
    go_wp2
    go_ret
    exact ⟨by rw [HV.out, h1]; rfl, (((Gr.refl _).alloc _).alloc _).drewN _⟩
  · go_enter Try.func90, Try.ntmps90
    go_wp2
    go_quiet (fail)
    go_wp2
    go_ret
    exact ⟨by rw [HV.out, h1, h2]; rfl, (((Gr.refl _).alloc _).alloc _).drewN _⟩
  · go_enter Try.func90, Try.ntmps90
    go_wp2
    go_region_with (first
        | (go_at_call 53; refine (levelsOf_any _ _ _ _ _ _ _).mono ?_; rintro e w1 ⟨rfl, g1⟩; replace G := Gr.trans (by first | exact G | exact G.drew) g1; clear g1; (try clear hc hf); obtain ⟨hc, hf⟩ := G.cells)
        | (go_at_call 54; refine (liesLevel_any _ _ _ _ _).mono ?_; rintro e w1 ⟨rfl, g1⟩; replace G := Gr.trans (by first | exact G | exact G.drew) g1; clear g1; (try clear hc hf); obtain ⟨hc, hf⟩ := G.cells)
        | (go_at_call 55; refine (ticksOf_any _ _ _ _ _ _ _).mono ?_; rintro e w1 ⟨rfl, g1⟩; replace G := Gr.trans (by first | exact G | exact G.drew) g1; clear g1; (try clear hc hf); obtain ⟨hc, hf⟩ := G.cells)
        | (go_at_call 56; refine (liesTick_any _ _ _ _ _).mono ?_; rintro e w1 ⟨rfl, g1⟩; replace G := Gr.trans (by first | exact G | exact G.drew) g1; clear g1; (try clear hc hf); obtain ⟨hc, hf⟩ := G.cells))
    all_goals
      go_wp2
      go_ret
      exact ⟨by rw [HV.out, h1, h2, h3]; rfl, (((Gr.refl _).alloc _).alloc _).trans G⟩
  · go_enter Try.func90, Try.ntmps90
    go_wp2
    go_region_held3 (fun w' => Gr ((w.alloc (.cells #[.int .i64 a.x, .int .i64 a.y, .int .i64 a.l, .int .i64 a.h, .int .i64 a.i, .int .i64 a.o] 36)).alloc (.cells #[.int .i64 b.x, .int .i64 b.y, .int .i64 b.l, .int .i64 b.h, .int .i64 b.i, .int .i64 b.o] 36)) w' ∧ ∀ q r, q < ((w.alloc (.cells #[.int .i64 a.x, .int .i64 a.y, .int .i64 a.l, .int .i64 a.h, .int .i64 a.i, .int .i64 a.o] 36)).alloc (.cells #[.int .i64 b.x, .int .i64 b.y, .int .i64 b.l, .int .i64 b.h, .int .i64 b.i, .int .i64 b.o] 36)).heap.size → w'.cell? ⟨q, r, none⟩ = ((w.alloc (.cells #[.int .i64 a.x, .int .i64 a.y, .int .i64 a.l, .int .i64 a.h, .int .i64 a.i, .int .i64 a.o] 36)).alloc (.cells #[.int .i64 b.x, .int .i64 b.y, .int .i64 b.l, .int .i64 b.h, .int .i64 b.i, .int .i64 b.o] 36)).cell? ⟨q, r, none⟩)
      ((refine sees_of ?_; repeat (first | exact G | assumption | exact And.left (by assumption) | refine Gr.drew ?_)))
      (first
        | (go_at_call 53; refine (levelsOf_any _ _ _ _ _ _ _).mono ?_; rintro e w1 ⟨rfl, g1⟩; have g2 := Gr.trans (And.left (by assumption)) g1)
        | (go_at_call 54; refine (liesLevel_any _ _ _ _ _).mono ?_; rintro e w1 ⟨rfl, g1⟩; have g2 := Gr.trans (And.left (by assumption)) g1)
        | (go_at_call 55; refine (ticksOf_any _ _ _ _ _ _ _).mono ?_; rintro e w1 ⟨rfl, g1⟩; have g2 := Gr.trans (And.left (by assumption)) g1)
        | (go_at_call 56; refine (liesTick_any _ _ _ _ _).mono ?_; rintro e w1 ⟨rfl, g1⟩; have g2 := Gr.trans (And.left (by assumption)) g1))
    all_goals
      go_wp2
      go_ret
      exact ⟨by rw [HV.out, h1, h2, h3, h4]; rfl, (((Gr.refl _).alloc _).alloc _).trans (And.left (by assumption))⟩
  · go_enter Try.func90, Try.ntmps90
    go_wp2
    go_region_held3 (fun w' => Gr ((w.alloc (.cells #[.int .i64 a.x, .int .i64 a.y, .int .i64 a.l, .int .i64 a.h, .int .i64 a.i, .int .i64 a.o] 36)).alloc (.cells #[.int .i64 b.x, .int .i64 b.y, .int .i64 b.l, .int .i64 b.h, .int .i64 b.i, .int .i64 b.o] 36)) w' ∧ ∀ q r, q < ((w.alloc (.cells #[.int .i64 a.x, .int .i64 a.y, .int .i64 a.l, .int .i64 a.h, .int .i64 a.i, .int .i64 a.o] 36)).alloc (.cells #[.int .i64 b.x, .int .i64 b.y, .int .i64 b.l, .int .i64 b.h, .int .i64 b.i, .int .i64 b.o] 36)).heap.size → w'.cell? ⟨q, r, none⟩ = ((w.alloc (.cells #[.int .i64 a.x, .int .i64 a.y, .int .i64 a.l, .int .i64 a.h, .int .i64 a.i, .int .i64 a.o] 36)).alloc (.cells #[.int .i64 b.x, .int .i64 b.y, .int .i64 b.l, .int .i64 b.h, .int .i64 b.i, .int .i64 b.o] 36)).cell? ⟨q, r, none⟩)
      ((refine sees_of ?_; repeat (first | exact G | assumption | exact And.left (by assumption) | refine Gr.drew ?_)))
      (first
        | (go_at_call 53; refine (levelsOf_any _ _ _ _ _ _ _).mono ?_; rintro e w1 ⟨rfl, g1⟩; have g2 := Gr.trans (And.left (by assumption)) g1)
        | (go_at_call 54; refine (liesLevel_any _ _ _ _ _).mono ?_; rintro e w1 ⟨rfl, g1⟩; have g2 := Gr.trans (And.left (by assumption)) g1)
        | (go_at_call 55; refine (ticksOf_any _ _ _ _ _ _ _).mono ?_; rintro e w1 ⟨rfl, g1⟩; have g2 := Gr.trans (And.left (by assumption)) g1)
        | (go_at_call 56; refine (liesTick_any _ _ _ _ _).mono ?_; rintro e w1 ⟨rfl, g1⟩; have g2 := Gr.trans (And.left (by assumption)) g1))
    all_goals
      go_wp2
      go_ret
      exact ⟨by rw [HV.out, h1, h2, h3, h4]; rfl, (((Gr.refl _).alloc _).alloc _).trans (And.left (by assumption))⟩

end Go.Proofs.Ytpdcgjkfilohcaa
