import Derived.Test.YtpdcgjkfilohcabGreatMeetA
namespace Go.Proofs.YtpdcgjkfilohcabGreat
open Go.RowKit
attribute [local go_sem ↓] Go.wp_at_zero Go.wp_at_succ

/-- ProbeMeet of two tubes: tick, I, J. -/
def meetO (s : ByteArray) (cs : List Bx) (t : ByteArray) (bs : List Bx) : Option (Int × Nat × Nat) := if tubeB s cs = true ∧ tubeB t bs = true then meetAll cs bs cs.length else none

theorem tube_boxes {s : ByteArray} {bs : List Bx} (h : tubeB s bs = true) : bs.length ≤ 40 ∧ ∀ k, k < bs.length → (bs.getD k Bx.nil).ok = true := by
  rw [tubeB_eq] at h
  have hc : countB bs = true := by revert h; cases countB bs <;> simp
  have hb : boxesB bs = true := by revert h; cases boxesB bs <;> simp
  refine ⟨by simpa [countB] using hc, fun k hk => ?_⟩
  rw [List.getD_eq_getElem?_getD, List.getElem?_eq_getElem hk]
  exact (List.all_eq_true.mp hb) _ (List.getElem_mem hk)

end Go.Proofs.YtpdcgjkfilohcabGreat
