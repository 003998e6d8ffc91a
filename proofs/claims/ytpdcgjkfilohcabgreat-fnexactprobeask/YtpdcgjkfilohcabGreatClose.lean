import Derived.Test.YtpdcgjkfilohcabGreatBoxAB
import Derived.Deep.RegionHeld3
import Derived.Deep.DrawnRows
import Derived.Deep.DeepCutAuto
import Derived.Deep.CutRange
namespace Go.Proofs.YtpdcgjkfilohcabGreat
open Go.RowKit
attribute [local go_sem ↓] Go.wp_at_zero Go.wp_at_succ

/-- A box. -/
structure Bx where
  x : Int
  y : Int
  l : Int
  h : Int
  i : Int
  o : Int

def Bx.ok (b : Bx) : Bool := boxB b.x b.y b.l b.h b.i b.o
/-- Two boxes that are ok are too near. -/
def nearB (a b : Bx) : Bool := decide (a.x - b.x ≤ 1 ∧ b.x - a.x ≤ 1 ∧ a.y - b.y ≤ 1 ∧ b.y - a.y ≤ 1 ∧ a.l ≤ b.h ∧ b.l ≤ a.h ∧ a.i ≤ b.o ∧ b.i ≤ a.o)
def closeB (a b : Bx) : Bool := a.ok && b.ok && nearB a b
def closeT (a b : Bx) : Int := if closeB a b then (if b.i < a.i then a.i else b.i) else 0

/-- What two spans have in common. -/
def meetB (a b c d : Int) : Bool := decide ((if a < c then c else a) ≤ (if d < b then d else b))
def meetF (a b c d : Int) : Int := if meetB a b c d then (if a < c then c else a) else 0
def meetL (a b c d : Int) : Int := if meetB a b c d then (if d < b then d else b) else 0

set_option maxHeartbeats 400000 in
theorem reachOf_any (n : Int) (w : World) (h0 : 0 ≤ n) (h1 : n ≤ 15) :
    Calls Tryz.prog 99 #[.int .i64 n] w fun e w' => e = .returned (.agg #[.int .i64 n, .int .i64 (n + 1)]) ∧ Gr w w' := by
  go_enter Tryz.func99, Tryz.ntmps99
  go_wp2
  exact bodyPost_ret (v := .agg #[.int .i64 n, .int .i64 (n + 1)]) (by simp [results, Tryz.results99, go_sem]; omega) rfl ⟨rfl, (Gr.refl _).alloc _⟩

set_option maxHeartbeats 1000000 in
theorem meetPlace_any (a b c d : Int) (w : World) :
    Calls Tryz.prog 100 #[.agg #[.int .i64 a, .int .i64 b], .agg #[.int .i64 c, .int .i64 d]] w fun e w' => e = .returned (.tuple #[.agg #[.int .i64 (meetF a b c d), .int .i64 (meetL a b c d)], .bool (meetB a b c d)]) ∧ Gr w w' := by
  by_cases h1 : a < c <;> by_cases h2 : d < b
  · by_cases h3 : d < c
    · have e : meetB a b c d = false := by simp [meetB, h1, h2, h3]
      have ef : meetF a b c d = 0 := by simp [meetF, e]
      have el : meetL a b c d = 0 := by simp [meetL, e]
      rw [ef, el, e]
      clear e ef el
      go_enter Tryz.func100, Tryz.ntmps100
      go_wp2
      exact bodyPost_ret (v := .tuple #[.agg #[.int .i64 0, .int .i64 0], .bool false]) (by simp [results, Tryz.results100, go_sem]) rfl ⟨rfl, ((((Gr.refl _).alloc _).alloc _).alloc _).alloc _⟩
    · have e : meetB a b c d = true := by simp [meetB, h1, h2]; omega
      have ef : meetF a b c d = c := by simp [meetF, e, h1]
      have el : meetL a b c d = d := by simp [meetL, e, h2]
      rw [ef, el, e]
      clear e ef el
      go_enter Tryz.func100, Tryz.ntmps100
      go_wp2
      exact bodyPost_ret (v := .tuple #[.agg #[.int .i64 c, .int .i64 d], .bool true]) (by simp [results, Tryz.results100, go_sem]) rfl ⟨rfl, ((((Gr.refl _).alloc _).alloc _).alloc _).alloc _⟩
  · by_cases h3 : b < c
    · have e : meetB a b c d = false := by simp [meetB, h1, h2, h3]
      have ef : meetF a b c d = 0 := by simp [meetF, e]
      have el : meetL a b c d = 0 := by simp [meetL, e]
      rw [ef, el, e]
      clear e ef el
      go_enter Tryz.func100, Tryz.ntmps100
      go_wp2
      exact bodyPost_ret (v := .tuple #[.agg #[.int .i64 0, .int .i64 0], .bool false]) (by simp [results, Tryz.results100, go_sem]) rfl ⟨rfl, ((((Gr.refl _).alloc _).alloc _).alloc _).alloc _⟩
    · have e : meetB a b c d = true := by simp [meetB, h1, h2]; omega
      have ef : meetF a b c d = c := by simp [meetF, e, h1]
      have el : meetL a b c d = b := by simp [meetL, e, h2]
      rw [ef, el, e]
      clear e ef el
      go_enter Tryz.func100, Tryz.ntmps100
      go_wp2
      exact bodyPost_ret (v := .tuple #[.agg #[.int .i64 c, .int .i64 b], .bool true]) (by simp [results, Tryz.results100, go_sem]) rfl ⟨rfl, ((((Gr.refl _).alloc _).alloc _).alloc _).alloc _⟩
  · by_cases h3 : d < a
    · have e : meetB a b c d = false := by simp [meetB, h1, h2, h3]
      have ef : meetF a b c d = 0 := by simp [meetF, e]
      have el : meetL a b c d = 0 := by simp [meetL, e]
      rw [ef, el, e]
      clear e ef el
      go_enter Tryz.func100, Tryz.ntmps100
      go_wp2
      exact bodyPost_ret (v := .tuple #[.agg #[.int .i64 0, .int .i64 0], .bool false]) (by simp [results, Tryz.results100, go_sem]) rfl ⟨rfl, ((((Gr.refl _).alloc _).alloc _).alloc _).alloc _⟩
    · have e : meetB a b c d = true := by simp [meetB, h1, h2]; omega
      have ef : meetF a b c d = a := by simp [meetF, e, h1]
      have el : meetL a b c d = d := by simp [meetL, e, h2]
      rw [ef, el, e]
      clear e ef el
      go_enter Tryz.func100, Tryz.ntmps100
      go_wp2
      exact bodyPost_ret (v := .tuple #[.agg #[.int .i64 a, .int .i64 d], .bool true]) (by simp [results, Tryz.results100, go_sem]) rfl ⟨rfl, ((((Gr.refl _).alloc _).alloc _).alloc _).alloc _⟩
  · by_cases h3 : b < a
    · have e : meetB a b c d = false := by simp [meetB, h1, h2, h3]
      have ef : meetF a b c d = 0 := by simp [meetF, e]
      have el : meetL a b c d = 0 := by simp [meetL, e]
      rw [ef, el, e]
      clear e ef el
      go_enter Tryz.func100, Tryz.ntmps100
      go_wp2
      exact bodyPost_ret (v := .tuple #[.agg #[.int .i64 0, .int .i64 0], .bool false]) (by simp [results, Tryz.results100, go_sem]) rfl ⟨rfl, ((((Gr.refl _).alloc _).alloc _).alloc _).alloc _⟩
    · have e : meetB a b c d = true := by simp [meetB, h1, h2]; omega
      have ef : meetF a b c d = a := by simp [meetF, e, h1]
      have el : meetL a b c d = b := by simp [meetL, e, h2]
      rw [ef, el, e]
      clear e ef el
      go_enter Tryz.func100, Tryz.ntmps100
      go_wp2
      exact bodyPost_ret (v := .tuple #[.agg #[.int .i64 a, .int .i64 b], .bool true]) (by simp [results, Tryz.results100, go_sem]) rfl ⟨rfl, ((((Gr.refl _).alloc _).alloc _).alloc _).alloc _⟩

set_option maxHeartbeats 1000000 in
theorem meetLevel_any (a b c d : Int) (w : World) :
    Calls Tryz.prog 102 #[.agg #[.int .i64 a, .int .i64 b], .agg #[.int .i64 c, .int .i64 d]] w fun e w' => e = .returned (.tuple #[.agg #[.int .i64 (meetF a b c d), .int .i64 (meetL a b c d)], .bool (meetB a b c d)]) ∧ Gr w w' := by
  by_cases h1 : a < c <;> by_cases h2 : d < b
  · by_cases h3 : d < c
    · have e : meetB a b c d = false := by simp [meetB, h1, h2, h3]
      have ef : meetF a b c d = 0 := by simp [meetF, e]
      have el : meetL a b c d = 0 := by simp [meetL, e]
      rw [ef, el, e]
      clear e ef el
      go_enter Tryz.func102, Tryz.ntmps102
      go_wp2
      exact bodyPost_ret (v := .tuple #[.agg #[.int .i64 0, .int .i64 0], .bool false]) (by simp [results, Tryz.results102, go_sem]) rfl ⟨rfl, ((((Gr.refl _).alloc _).alloc _).alloc _).alloc _⟩
    · have e : meetB a b c d = true := by simp [meetB, h1, h2]; omega
      have ef : meetF a b c d = c := by simp [meetF, e, h1]
      have el : meetL a b c d = d := by simp [meetL, e, h2]
      rw [ef, el, e]
      clear e ef el
      go_enter Tryz.func102, Tryz.ntmps102
      go_wp2
      exact bodyPost_ret (v := .tuple #[.agg #[.int .i64 c, .int .i64 d], .bool true]) (by simp [results, Tryz.results102, go_sem]) rfl ⟨rfl, ((((Gr.refl _).alloc _).alloc _).alloc _).alloc _⟩
  · by_cases h3 : b < c
    · have e : meetB a b c d = false := by simp [meetB, h1, h2, h3]
      have ef : meetF a b c d = 0 := by simp [meetF, e]
      have el : meetL a b c d = 0 := by simp [meetL, e]
      rw [ef, el, e]
      clear e ef el
      go_enter Tryz.func102, Tryz.ntmps102
      go_wp2
      exact bodyPost_ret (v := .tuple #[.agg #[.int .i64 0, .int .i64 0], .bool false]) (by simp [results, Tryz.results102, go_sem]) rfl ⟨rfl, ((((Gr.refl _).alloc _).alloc _).alloc _).alloc _⟩
    · have e : meetB a b c d = true := by simp [meetB, h1, h2]; omega
      have ef : meetF a b c d = c := by simp [meetF, e, h1]
      have el : meetL a b c d = b := by simp [meetL, e, h2]
      rw [ef, el, e]
      clear e ef el
      go_enter Tryz.func102, Tryz.ntmps102
      go_wp2
      exact bodyPost_ret (v := .tuple #[.agg #[.int .i64 c, .int .i64 b], .bool true]) (by simp [results, Tryz.results102, go_sem]) rfl ⟨rfl, ((((Gr.refl _).alloc _).alloc _).alloc _).alloc _⟩
  · by_cases h3 : d < a
    · have e : meetB a b c d = false := by simp [meetB, h1, h2, h3]
      have ef : meetF a b c d = 0 := by simp [meetF, e]
      have el : meetL a b c d = 0 := by simp [meetL, e]
      rw [ef, el, e]
      clear e ef el
      go_enter Tryz.func102, Tryz.ntmps102
      go_wp2
      exact bodyPost_ret (v := .tuple #[.agg #[.int .i64 0, .int .i64 0], .bool false]) (by simp [results, Tryz.results102, go_sem]) rfl ⟨rfl, ((((Gr.refl _).alloc _).alloc _).alloc _).alloc _⟩
    · have e : meetB a b c d = true := by simp [meetB, h1, h2]; omega
      have ef : meetF a b c d = a := by simp [meetF, e, h1]
      have el : meetL a b c d = d := by simp [meetL, e, h2]
      rw [ef, el, e]
      clear e ef el
      go_enter Tryz.func102, Tryz.ntmps102
      go_wp2
      exact bodyPost_ret (v := .tuple #[.agg #[.int .i64 a, .int .i64 d], .bool true]) (by simp [results, Tryz.results102, go_sem]) rfl ⟨rfl, ((((Gr.refl _).alloc _).alloc _).alloc _).alloc _⟩
  · by_cases h3 : b < a
    · have e : meetB a b c d = false := by simp [meetB, h1, h2, h3]
      have ef : meetF a b c d = 0 := by simp [meetF, e]
      have el : meetL a b c d = 0 := by simp [meetL, e]
      rw [ef, el, e]
      clear e ef el
      go_enter Tryz.func102, Tryz.ntmps102
      go_wp2
      exact bodyPost_ret (v := .tuple #[.agg #[.int .i64 0, .int .i64 0], .bool false]) (by simp [results, Tryz.results102, go_sem]) rfl ⟨rfl, ((((Gr.refl _).alloc _).alloc _).alloc _).alloc _⟩
    · have e : meetB a b c d = true := by simp [meetB, h1, h2]; omega
      have ef : meetF a b c d = a := by simp [meetF, e, h1]
      have el : meetL a b c d = b := by simp [meetL, e, h2]
      rw [ef, el, e]
      clear e ef el
      go_enter Tryz.func102, Tryz.ntmps102
      go_wp2
      exact bodyPost_ret (v := .tuple #[.agg #[.int .i64 a, .int .i64 b], .bool true]) (by simp [results, Tryz.results102, go_sem]) rfl ⟨rfl, ((((Gr.refl _).alloc _).alloc _).alloc _).alloc _⟩

set_option maxHeartbeats 1000000 in
theorem meetTick_any (a b c d : Int) (w : World) :
    Calls Tryz.prog 104 #[.agg #[.int .i64 a, .int .i64 b], .agg #[.int .i64 c, .int .i64 d]] w fun e w' => e = .returned (.tuple #[.agg #[.int .i64 (meetF a b c d), .int .i64 (meetL a b c d)], .bool (meetB a b c d)]) ∧ Gr w w' := by
  by_cases h1 : a < c <;> by_cases h2 : d < b
  · by_cases h3 : d < c
    · have e : meetB a b c d = false := by simp [meetB, h1, h2, h3]
      have ef : meetF a b c d = 0 := by simp [meetF, e]
      have el : meetL a b c d = 0 := by simp [meetL, e]
      rw [ef, el, e]
      clear e ef el
      go_enter Tryz.func104, Tryz.ntmps104
      go_wp2
      exact bodyPost_ret (v := .tuple #[.agg #[.int .i64 0, .int .i64 0], .bool false]) (by simp [results, Tryz.results104, go_sem]) rfl ⟨rfl, ((((Gr.refl _).alloc _).alloc _).alloc _).alloc _⟩
    · have e : meetB a b c d = true := by simp [meetB, h1, h2]; omega
      have ef : meetF a b c d = c := by simp [meetF, e, h1]
      have el : meetL a b c d = d := by simp [meetL, e, h2]
      rw [ef, el, e]
      clear e ef el
      go_enter Tryz.func104, Tryz.ntmps104
      go_wp2
      exact bodyPost_ret (v := .tuple #[.agg #[.int .i64 c, .int .i64 d], .bool true]) (by simp [results, Tryz.results104, go_sem]) rfl ⟨rfl, ((((Gr.refl _).alloc _).alloc _).alloc _).alloc _⟩
  · by_cases h3 : b < c
    · have e : meetB a b c d = false := by simp [meetB, h1, h2, h3]
      have ef : meetF a b c d = 0 := by simp [meetF, e]
      have el : meetL a b c d = 0 := by simp [meetL, e]
      rw [ef, el, e]
      clear e ef el
      go_enter Tryz.func104, Tryz.ntmps104
      go_wp2
      exact bodyPost_ret (v := .tuple #[.agg #[.int .i64 0, .int .i64 0], .bool false]) (by simp [results, Tryz.results104, go_sem]) rfl ⟨rfl, ((((Gr.refl _).alloc _).alloc _).alloc _).alloc _⟩
    · have e : meetB a b c d = true := by simp [meetB, h1, h2]; omega
      have ef : meetF a b c d = c := by simp [meetF, e, h1]
      have el : meetL a b c d = b := by simp [meetL, e, h2]
      rw [ef, el, e]
      clear e ef el
      go_enter Tryz.func104, Tryz.ntmps104
      go_wp2
      exact bodyPost_ret (v := .tuple #[.agg #[.int .i64 c, .int .i64 b], .bool true]) (by simp [results, Tryz.results104, go_sem]) rfl ⟨rfl, ((((Gr.refl _).alloc _).alloc _).alloc _).alloc _⟩
  · by_cases h3 : d < a
    · have e : meetB a b c d = false := by simp [meetB, h1, h2, h3]
      have ef : meetF a b c d = 0 := by simp [meetF, e]
      have el : meetL a b c d = 0 := by simp [meetL, e]
      rw [ef, el, e]
      clear e ef el
      go_enter Tryz.func104, Tryz.ntmps104
      go_wp2
      exact bodyPost_ret (v := .tuple #[.agg #[.int .i64 0, .int .i64 0], .bool false]) (by simp [results, Tryz.results104, go_sem]) rfl ⟨rfl, ((((Gr.refl _).alloc _).alloc _).alloc _).alloc _⟩
    · have e : meetB a b c d = true := by simp [meetB, h1, h2]; omega
      have ef : meetF a b c d = a := by simp [meetF, e, h1]
      have el : meetL a b c d = d := by simp [meetL, e, h2]
      rw [ef, el, e]
      clear e ef el
      go_enter Tryz.func104, Tryz.ntmps104
      go_wp2
      exact bodyPost_ret (v := .tuple #[.agg #[.int .i64 a, .int .i64 d], .bool true]) (by simp [results, Tryz.results104, go_sem]) rfl ⟨rfl, ((((Gr.refl _).alloc _).alloc _).alloc _).alloc _⟩
  · by_cases h3 : b < a
    · have e : meetB a b c d = false := by simp [meetB, h1, h2, h3]
      have ef : meetF a b c d = 0 := by simp [meetF, e]
      have el : meetL a b c d = 0 := by simp [meetL, e]
      rw [ef, el, e]
      clear e ef el
      go_enter Tryz.func104, Tryz.ntmps104
      go_wp2
      exact bodyPost_ret (v := .tuple #[.agg #[.int .i64 0, .int .i64 0], .bool false]) (by simp [results, Tryz.results104, go_sem]) rfl ⟨rfl, ((((Gr.refl _).alloc _).alloc _).alloc _).alloc _⟩
    · have e : meetB a b c d = true := by simp [meetB, h1, h2]; omega
      have ef : meetF a b c d = a := by simp [meetF, e, h1]
      have el : meetL a b c d = b := by simp [meetL, e, h2]
      rw [ef, el, e]
      clear e ef el
      go_enter Tryz.func104, Tryz.ntmps104
      go_wp2
      exact bodyPost_ret (v := .tuple #[.agg #[.int .i64 a, .int .i64 b], .bool true]) (by simp [results, Tryz.results104, go_sem]) rfl ⟨rfl, ((((Gr.refl _).alloc _).alloc _).alloc _).alloc _⟩

end Go.Proofs.YtpdcgjkfilohcabGreat
