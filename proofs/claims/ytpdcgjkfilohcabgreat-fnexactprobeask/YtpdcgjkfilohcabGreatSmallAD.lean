import Derived.Test.YtpdcgjkfilohcabGreatTubeOk
import Derived.BigQuiet
import Derived.WalkSmall
import Derived.Deep.QuietTactic
import Derived.Test.YtpdcgjkfilohcabGreatLawTubeOk
namespace Go.Proofs.YtpdcgjkfilohcabGreat
open Go.RowKit
attribute [local go_sem ↓] Go.wp_at_zero Go.wp_at_succ

theorem Gr.drewN {a w : World} (h : Gr a w) (n : Nat) : Gr a (w.drewN n) := below_drewN h n

/-- Box a lies within box b, by the specification. -/
def coverB (b a : Bx) : Bool := (a.x == b.x) && (a.y == b.y) && decide (b.l ≤ a.l) && decide (a.h ≤ b.h) && decide (b.i ≤ a.i) && decide (a.o ≤ b.o)
/-- Box a lies within box b, by the program. -/
def inB (a b : Bx) : Bool := (a.x == b.x) && (a.y == b.y) && lieB a.l a.h b.l b.h && lieB a.i a.o b.i b.o
theorem inB_cover {a : Bx} (b : Bx) (ha : a.ok = true) : inB a b = coverB b a := by
  have h := ok_nums ha
  rw [inB, coverB, Bool.eq_iff_iff]
  simp only [lieB, Bool.and_eq_true, decide_eq_true_eq, beq_iff_eq]
  omega
def withinB (cs bs : List Bx) : Bool := cs.all fun a => bs.any fun b => coverB b a
/-- A tube is within another one. -/
def smallB (s : ByteArray) (cs : List Bx) (t : ByteArray) (bs : List Bx) : Bool := tubeB s cs && tubeB t bs && withinB cs bs

end Go.Proofs.YtpdcgjkfilohcabGreat

namespace Go.Proofs.YtpdcgjkfilohcabGreat
open Go.RowKit
attribute [local go_sem ↓] Go.wp_at_zero Go.wp_at_succ

theorem new_six {w w1 : World} {b : Bx} {t : TypeId} (g : Gr (w.alloc (.cells #[.int .i64 b.x, .int .i64 b.y, .int .i64 b.l, .int .i64 b.h, .int .i64 b.i, .int .i64 b.o] t)) w1) : w.heap.size < w1.heap.size ∧ w1.cell? ⟨w.heap.size, 0, none⟩ = some (.int .i64 b.x) ∧ w1.cell? ⟨w.heap.size, 1, none⟩ = some (.int .i64 b.y) ∧ w1.cell? ⟨w.heap.size, 2, none⟩ = some (.int .i64 b.l) ∧ w1.cell? ⟨w.heap.size, 3, none⟩ = some (.int .i64 b.h) ∧ w1.cell? ⟨w.heap.size, 4, none⟩ = some (.int .i64 b.i) ∧ w1.cell? ⟨w.heap.size, 5, none⟩ = some (.int .i64 b.o) :=
  ⟨g.lt_alloc, (g.cells.1 _ _ (by simp)).trans (by simp), (g.cells.1 _ _ (by simp)).trans (by simp), (g.cells.1 _ _ (by simp)).trans (by simp), (g.cells.1 _ _ (by simp)).trans (by simp), (g.cells.1 _ _ (by simp)).trans (by simp), (g.cells.1 _ _ (by simp)).trans (by simp)⟩

theorem any_snoc {p : Bx → Bool} (bs : List Bx) (k : Nat) (h : k < bs.length) : (bs.take (k + 1)).any p = ((bs.take k).any p || p (bs.getD k Bx.nil)) := by
  rw [List.take_succ_eq_append_getElem h, List.any_append]
  simp [h]
theorem any_hit {p : Bx → Bool} (bs : List Bx) (k : Nat) (h : k < bs.length) (hb : p (bs.getD k Bx.nil) = true) : bs.any p = true := by
  rw [List.any_eq_true]
  exact ⟨bs[k], List.getElem_mem h, by simpa [h] using hb⟩
theorem any_all {p : Bx → Bool} (bs : List Bx) (k : Nat) (h : ¬ k < bs.length) : (bs.take k).any p = bs.any p := by
  rw [List.take_of_length_le (by omega)]
theorem all_snoc {p : Bx → Bool} (bs : List Bx) (k : Nat) (h : k < bs.length) : (bs.take (k + 1)).all p = ((bs.take k).all p && p (bs.getD k Bx.nil)) := by
  rw [List.take_succ_eq_append_getElem h, List.all_append]
  simp [h]
theorem all_stop {p : Bx → Bool} (bs : List Bx) (k : Nat) (h : k < bs.length) (hb : p (bs.getD k Bx.nil) = false) : bs.all p = false := by
  rw [List.all_eq_false]
  exact ⟨bs[k], List.getElem_mem h, by simpa [h] using hb⟩
theorem all_all {p : Bx → Bool} (bs : List Bx) (k : Nat) (h : ¬ k < bs.length) : (bs.take k).all p = bs.all p := by
  rw [List.take_of_length_le (by omega)]

/-- Some of the boxes holds box c. -/
def holdB (bs : List Bx) (c : Bx) : Bool := bs.any (inB c)

theorem within_eq {cs : List Bx} (bs : List Bx) (h : boxesB cs = true) : cs.all (holdB bs) = withinB cs bs := by
  unfold boxesB at h
  rw [List.all_eq_true] at h
  unfold withinB holdB
  rw [Bool.eq_iff_iff, List.all_eq_true, List.all_eq_true]
  constructor
  · intro q c hc
    have := q c hc
    rw [List.any_eq_true] at this ⊢
    obtain ⟨b, hb, e⟩ := this
    exact ⟨b, hb, by rw [← inB_cover b (h c hc)]; exact e⟩
  · intro q c hc
    have := q c hc
    rw [List.any_eq_true] at this ⊢
    obtain ⟨b, hb, e⟩ := this
    exact ⟨b, hb, by rw [inB_cover b (h c hc)]; exact e⟩

end Go.Proofs.YtpdcgjkfilohcabGreat

namespace Go.Proofs.YtpdcgjkfilohcabGreat
open Go.RowKit
attribute [local go_sem ↓] Go.wp_at_zero Go.wp_at_succ

theorem two_pairs {w w1 : World} {u0 u1 v0 v1 : Value} {p q : TypeId} (g : Gr ((w.alloc (.cells #[u0, u1] p)).alloc (.cells #[v0, v1] q)) w1) :
    w.heap.size + 1 < w1.heap.size ∧ w1.cell? ⟨w.heap.size, 0, none⟩ = some u0 ∧ w1.cell? ⟨w.heap.size, 1, none⟩ = some u1 ∧ w1.cell? ⟨w.heap.size + 1, 0, none⟩ = some v0 ∧ w1.cell? ⟨w.heap.size + 1, 1, none⟩ = some v1 :=
  ⟨by have := g.size; simp at this; omega, (g.cells.1 _ _ (by simp <;> omega)).trans (by simp), (g.cells.1 _ _ (by simp <;> omega)).trans (by simp), (g.cells.1 _ _ (by simp <;> omega)).trans (by simp), (g.cells.1 _ _ (by simp <;> omega)).trans (by simp)⟩

theorem keepS {wr wq w' : World} {g o g' o' p : Nat} {c b : Bx} {u0 u1 v0 v1 : Value}
    (h : Six wq g o c ∧ Six wq g' o' b ∧ (wq.cell? ⟨p, 0, none⟩ = some u0 ∧ wq.cell? ⟨p, 1, none⟩ = some u1 ∧ wq.cell? ⟨p + 1, 0, none⟩ = some v0 ∧ wq.cell? ⟨p + 1, 1, none⟩ = some v1))
    (hg : g < wq.heap.size) (hg' : g' < wq.heap.size) (hp : p + 1 < wr.heap.size) (gq : Gr wr wq) (gr : Gr wq w') :
    Gr wq w' ∧ Six w' g o c ∧ Six w' g' o' b ∧ (w'.cell? ⟨p, 0, none⟩ = some u0 ∧ w'.cell? ⟨p, 1, none⟩ = some u1 ∧ w'.cell? ⟨p + 1, 0, none⟩ = some v0 ∧ w'.cell? ⟨p + 1, 1, none⟩ = some v1) :=
  have hs := gq.size
  ⟨gr, six_gr h.1 gr hg, six_gr h.2.1 gr hg', (gr.cells.1 _ _ (by omega)).trans h.2.2.1, (gr.cells.1 _ _ (by omega)).trans h.2.2.2.1, (gr.cells.1 _ _ (by omega)).trans h.2.2.2.2.1, (gr.cells.1 _ _ (by omega)).trans h.2.2.2.2.2⟩

/-- Some of the boxes covers box c. -/
def covB (bs : List Bx) (c : Bx) : Bool := bs.any fun b => coverB b c

end Go.Proofs.YtpdcgjkfilohcabGreat

namespace Go.Proofs.YtpdcgjkfilohcabGreat
open Go.RowKit
attribute [local go_sem ↓] Go.wp_at_zero Go.wp_at_succ

theorem field71 (W : World) (s : ByteArray) (v : Value) (hv : ∃ a n c, v = .slice a n c) : (Instr.field 134 (.agg #[.string s, v]) 1).run Tryz.prog W = .ok v W := by
  obtain ⟨a, n, c, rfl⟩ := hv
  kernel_rfl

end Go.Proofs.YtpdcgjkfilohcabGreat
