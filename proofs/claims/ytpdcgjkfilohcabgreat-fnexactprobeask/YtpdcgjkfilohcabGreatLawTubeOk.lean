import Derived.Test.YtpdcgjkfilohcabGreatTubeOk
namespace Go.Proofs.YtpdcgjkfilohcabGreat
open Go.RowKit
attribute [local go_sem ↓] Go.wp_at_zero Go.wp_at_succ

theorem szT_le {left : Int} {m n : Nat} (h1 : left ≤ 1048576) (h : ¬ szT left m n < 0) : m ≤ 1048576 ∧ n ≤ 1048576 ∧ 0 ≤ szT left m n ∧ szT left m n ≤ 1048576 := by
  unfold szT at *
  split at h
  · omega
  · split at h
    · omega
    · simp_all; omega

theorem new_pair {w w1 : World} {u v : Value} {t : TypeId} (g : Gr (w.alloc (.cells #[u, v] t)) w1) : w.heap.size < w1.heap.size ∧ w1.cell? ⟨w.heap.size, 0, none⟩ = some u ∧ w1.cell? ⟨w.heap.size, 1, none⟩ = some v :=
  ⟨g.lt_alloc, (g.cells.1 _ _ (by simp)).trans (by simp), (g.cells.1 _ _ (by simp)).trans (by simp)⟩
theorem keep4 {w1 w' : World} {p q : Nat} {u0 u1 v0 v1 : Value} (h : w1.cell? ⟨p, 0, none⟩ = some u0 ∧ w1.cell? ⟨p, 1, none⟩ = some u1 ∧ w1.cell? ⟨q, 0, none⟩ = some v0 ∧ w1.cell? ⟨q, 1, none⟩ = some v1) (hp : p < w1.heap.size) (hq : q < w1.heap.size) (g : Gr w1 w') :
    Gr w1 w' ∧ w'.cell? ⟨p, 0, none⟩ = some u0 ∧ w'.cell? ⟨p, 1, none⟩ = some u1 ∧ w'.cell? ⟨q, 0, none⟩ = some v0 ∧ w'.cell? ⟨q, 1, none⟩ = some v1 :=
  ⟨g, (g.cells.1 _ _ hp).trans h.1, (g.cells.1 _ _ hp).trans h.2.1, (g.cells.1 _ _ hq).trans h.2.2.1, (g.cells.1 _ _ hq).trans h.2.2.2⟩

end Go.Proofs.YtpdcgjkfilohcabGreat
