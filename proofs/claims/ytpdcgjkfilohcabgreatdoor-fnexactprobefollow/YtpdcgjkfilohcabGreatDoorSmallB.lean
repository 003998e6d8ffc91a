import Derived.Test.YtpdcgjkfilohcabGreatDoorSmall
namespace Go.Proofs.YtpdcgjkfilohcabGreatDoor
open Go.RowKit
attribute [local go_sem ↓] Go.wp_at_zero Go.wp_at_succ

theorem new_six {w w1 : World} {b : Bx} {t : TypeId} (g : Gr (w.alloc (.cells #[.int .i64 b.x, .int .i64 b.y, .int .i64 b.l, .int .i64 b.h, .int .i64 b.i, .int .i64 b.o] t)) w1) : w.heap.size < w1.heap.size ∧ w1.cell? ⟨w.heap.size, 0, none⟩ = some (.int .i64 b.x) ∧ w1.cell? ⟨w.heap.size, 1, none⟩ = some (.int .i64 b.y) ∧ w1.cell? ⟨w.heap.size, 2, none⟩ = some (.int .i64 b.l) ∧ w1.cell? ⟨w.heap.size, 3, none⟩ = some (.int .i64 b.h) ∧ w1.cell? ⟨w.heap.size, 4, none⟩ = some (.int .i64 b.i) ∧ w1.cell? ⟨w.heap.size, 5, none⟩ = some (.int .i64 b.o) :=
  ⟨g.lt_alloc, (g.cells.1 _ _ (by simp)).trans (by simp), (g.cells.1 _ _ (by simp)).trans (by simp), (g.cells.1 _ _ (by simp)).trans (by simp), (g.cells.1 _ _ (by simp)).trans (by simp), (g.cells.1 _ _ (by simp)).trans (by simp), (g.cells.1 _ _ (by simp)).trans (by simp)⟩

theorem any_snoc {p : Bx → Bool} (bs : List Bx) (k : Nat) (h : k < bs.length) : (bs.take (k + 1)).any p = ((bs.take k).any p || p (bs.getD k Bx.nil)) := by
  rw [List.take_succ_eq_append_getElem h, List.any_append]
  simp [h]
theorem any_hit {p : Bx → Bool} (bs : List Bx) (k : Nat) (h : k < bs.length) (hb : p (bs.getD k Bx.nil) = true) : bs.any p = true := by
  rw [List.any_eq_true]
  exact ⟨bs[k], List.getElem_mem h, by simpa [h] using hb⟩
theorem any_all {p : Bx → Bool} (bs : List Bx) (k : Nat) (h : ¬ k < bs.length) : (bs.take k).any p = bs.any p := by
  rw [List.take_of_length_le (by omega)]
theorem all_snoc {p : Bx → Bool} (bs : List Bx) (k : Nat) (h : k < bs.length) : (bs.take (k + 1)).all p = ((bs.take k).all p && p (bs.getD k Bx.nil)) := by
  rw [List.take_succ_eq_append_getElem h, List.all_append]
  simp [h]
theorem all_stop {p : Bx → Bool} (bs : List Bx) (k : Nat) (h : k < bs.length) (hb : p (bs.getD k Bx.nil) = false) : bs.all p = false := by
  rw [List.all_eq_false]
  exact ⟨bs[k], List.getElem_mem h, by simpa [h] using hb⟩
theorem all_all {p : Bx → Bool} (bs : List Bx) (k : Nat) (h : ¬ k < bs.length) : (bs.take k).all p = bs.all p := by
  rw [List.take_of_length_le (by omega)]

/-- Some of the boxes holds box c. -/
def holdB (bs : List Bx) (c : Bx) : Bool := bs.any (inB c)

theorem within_eq {cs : List Bx} (bs : List Bx) (h : boxesB cs = true) : cs.all (holdB bs) = withinB cs bs := by
  unfold boxesB at h
  rw [List.all_eq_true] at h
  unfold withinB holdB
  rw [Bool.eq_iff_iff, List.all_eq_true, List.all_eq_true]
  constructor
  · intro q c hc
    have := q c hc
    rw [List.any_eq_true] at this ⊢
    obtain ⟨b, hb, e⟩ := this
    exact ⟨b, hb, by rw [← inB_cover b (h c hc)]; exact e⟩
  · intro q c hc
    have := q c hc
    rw [List.any_eq_true] at this ⊢
    obtain ⟨b, hb, e⟩ := this
    exact ⟨b, hb, by rw [inB_cover b (h c hc)]; exact e⟩

end Go.Proofs.YtpdcgjkfilohcabGreatDoor
