import Derived.Test.YtpdcgjkfilohcabDoorClose
namespace Go.Proofs.YtpdcgjkfilohcabDoor
open Go.RowKit
attribute [local go_sem ↓] Go.wp_at_zero Go.wp_at_succ

theorem chainP (a b : Bool) (p q r s : Prop) [Decidable p] [Decidable q] [Decidable r] [Decidable s] : a = false ∨ (a = true ∧ b = false) ∨ (a = true ∧ b = true ∧ p) ∨ (a = true ∧ b = true ∧ ¬ p ∧ q) ∨ (a = true ∧ b = true ∧ ¬ p ∧ ¬ q ∧ r) ∨ (a = true ∧ b = true ∧ ¬ p ∧ ¬ q ∧ ¬ r ∧ s) ∨ (a = true ∧ b = true ∧ ¬ p ∧ ¬ q ∧ ¬ r ∧ ¬ s) := by
  by_cases p <;> by_cases q <;> by_cases r <;> by_cases s <;> cases a <;> cases b <;> simp_all

theorem close_nums {a b : Bx} (ha : a.ok = true) (hb : b.ok = true) :
    closeB a b = (lieB (a.x - b.x) (a.x - b.x) (-1) 1 && lieB (a.y - b.y) (a.y - b.y) (-1) 1 && !decide (b.h < a.l) && !decide (a.h < b.l) && !decide (b.o < a.i) && !decide (a.o < b.i)) := by
  rw [closeB, ha, hb, Bool.eq_iff_iff]; simp [nearB, lieB]; omega
theorem ok_nums {a : Bx} (ha : a.ok = true) : 0 ≤ a.x ∧ a.x ≤ 15 ∧ 0 ≤ a.y ∧ a.y ≤ 15 ∧ 0 ≤ a.l ∧ a.l ≤ a.h ∧ a.h ≤ 6 ∧ 0 ≤ a.i ∧ a.i ≤ a.o ∧ a.o ≤ 10000 := by simpa [Bx.ok, boxB] using ha

end Go.Proofs.YtpdcgjkfilohcabDoor
