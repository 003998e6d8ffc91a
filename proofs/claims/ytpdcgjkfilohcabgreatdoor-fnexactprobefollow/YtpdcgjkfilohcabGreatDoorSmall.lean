import Derived.Test.YtpdcgjkfilohcabGreatDoorTubeOk
import Derived.BigQuiet
import Derived.WalkSmall
import Derived.Deep.QuietTactic
namespace Go.Proofs.YtpdcgjkfilohcabGreatDoor
open Go.RowKit
attribute [local go_sem ↓] Go.wp_at_zero Go.wp_at_succ

theorem Gr.drewN {a w : World} (h : Gr a w) (n : Nat) : Gr a (w.drewN n) := below_drewN h n

/-- Box a lies within box b, by the specification. -/
def coverB (b a : Bx) : Bool := (a.x == b.x) && (a.y == b.y) && decide (b.l ≤ a.l) && decide (a.h ≤ b.h) && decide (b.i ≤ a.i) && decide (a.o ≤ b.o)
/-- Box a lies within box b, by the program. -/
def inB (a b : Bx) : Bool := (a.x == b.x) && (a.y == b.y) && lieB a.l a.h b.l b.h && lieB a.i a.o b.i b.o
theorem inB_cover {a : Bx} (b : Bx) (ha : a.ok = true) : inB a b = coverB b a := by
  have h := ok_nums ha
  rw [inB, coverB, Bool.eq_iff_iff]
  simp only [lieB, Bool.and_eq_true, decide_eq_true_eq, beq_iff_eq]
  omega
def withinB (cs bs : List Bx) : Bool := cs.all fun a => bs.any fun b => coverB b a
/-- A tube is within another one. -/
def smallB (s : ByteArray) (cs : List Bx) (t : ByteArray) (bs : List Bx) : Bool := tubeB s cs && tubeB t bs && withinB cs bs

end Go.Proofs.YtpdcgjkfilohcabGreatDoor
