import Derived.Test.YtpdcgjkfilohcabGreatDoorSmallB
namespace Go.Proofs.YtpdcgjkfilohcabGreatDoor
open Go.RowKit
attribute [local go_sem ↓] Go.wp_at_zero Go.wp_at_succ

theorem two_pairs {w w1 : World} {u0 u1 v0 v1 : Value} {p q : TypeId} (g : Gr ((w.alloc (.cells #[u0, u1] p)).alloc (.cells #[v0, v1] q)) w1) :
    w.heap.size + 1 < w1.heap.size ∧ w1.cell? ⟨w.heap.size, 0, none⟩ = some u0 ∧ w1.cell? ⟨w.heap.size, 1, none⟩ = some u1 ∧ w1.cell? ⟨w.heap.size + 1, 0, none⟩ = some v0 ∧ w1.cell? ⟨w.heap.size + 1, 1, none⟩ = some v1 :=
  ⟨by have := g.size; simp at this; omega, (g.cells.1 _ _ (by simp <;> omega)).trans (by simp), (g.cells.1 _ _ (by simp <;> omega)).trans (by simp), (g.cells.1 _ _ (by simp <;> omega)).trans (by simp), (g.cells.1 _ _ (by simp <;> omega)).trans (by simp)⟩

theorem keepS {wr wq w' : World} {g o g' o' p : Nat} {c b : Bx} {u0 u1 v0 v1 : Value}
    (h : Six wq g o c ∧ Six wq g' o' b ∧ (wq.cell? ⟨p, 0, none⟩ = some u0 ∧ wq.cell? ⟨p, 1, none⟩ = some u1 ∧ wq.cell? ⟨p + 1, 0, none⟩ = some v0 ∧ wq.cell? ⟨p + 1, 1, none⟩ = some v1))
    (hg : g < wq.heap.size) (hg' : g' < wq.heap.size) (hp : p + 1 < wr.heap.size) (gq : Gr wr wq) (gr : Gr wq w') :
    Gr wq w' ∧ Six w' g o c ∧ Six w' g' o' b ∧ (w'.cell? ⟨p, 0, none⟩ = some u0 ∧ w'.cell? ⟨p, 1, none⟩ = some u1 ∧ w'.cell? ⟨p + 1, 0, none⟩ = some v0 ∧ w'.cell? ⟨p + 1, 1, none⟩ = some v1) :=
  have hs := gq.size
  ⟨gr, six_gr h.1 gr hg, six_gr h.2.1 gr hg', (gr.cells.1 _ _ (by omega)).trans h.2.2.1, (gr.cells.1 _ _ (by omega)).trans h.2.2.2.1, (gr.cells.1 _ _ (by omega)).trans h.2.2.2.2.1, (gr.cells.1 _ _ (by omega)).trans h.2.2.2.2.2⟩

/-- Some of the boxes covers box c. -/
def covB (bs : List Bx) (c : Bx) : Bool := bs.any fun b => coverB b c

end Go.Proofs.YtpdcgjkfilohcabGreatDoor
