import Derived.Test.YtpdcgjkfilohcabDoorBoxB
import Derived.Deep.RegionHeld3
import Derived.Deep.DrawnRows
import Derived.Deep.DeepCutAuto
import Derived.Deep.CutRange
namespace Go.Proofs.YtpdcgjkfilohcabDoor
open Go.RowKit
attribute [local go_sem ↓] Go.wp_at_zero Go.wp_at_succ

/-- A box. -/
structure Bx where
  x : Int
  y : Int
  l : Int
  h : Int
  i : Int
  o : Int

def Bx.ok (b : Bx) : Bool := boxB b.x b.y b.l b.h b.i b.o
/-- Two boxes that are ok are too near. -/
def nearB (a b : Bx) : Bool := decide (a.x - b.x ≤ 1 ∧ b.x - a.x ≤ 1 ∧ a.y - b.y ≤ 1 ∧ b.y - a.y ≤ 1 ∧ a.l ≤ b.h ∧ b.l ≤ a.h ∧ a.i ≤ b.o ∧ b.i ≤ a.o)
def closeB (a b : Bx) : Bool := a.ok && b.ok && nearB a b
def closeT (a b : Bx) : Int := if closeB a b then (if b.i < a.i then a.i else b.i) else 0

/-- What two spans have in common. -/
def meetB (a b c d : Int) : Bool := decide ((if a < c then c else a) ≤ (if d < b then d else b))
def meetF (a b c d : Int) : Int := if meetB a b c d then (if a < c then c else a) else 0
def meetL (a b c d : Int) : Int := if meetB a b c d then (if d < b then d else b) else 0

end Go.Proofs.YtpdcgjkfilohcabDoor
