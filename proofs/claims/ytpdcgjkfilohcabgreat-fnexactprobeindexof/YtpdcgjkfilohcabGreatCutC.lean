import Derived.Test.YtpdcgjkfilohcabGreatCutB
namespace Go.Proofs.YtpdcgjkfilohcabGreat
open Go.RowKit
attribute [local go_sem ↓] Go.wp_at_zero Go.wp_at_succ

/-- The variable 'out' of the specification's ProbeCut, and what it owns. -/
def OutIs (w wr : World) (s : ByteArray) (v : Value) (L : List Bx) : Prop :=
  wr.cell? ⟨w.heap.size + 1 + 1, 0, none⟩ = some (.string s) ∧ wr.cell? ⟨w.heap.size + 1 + 1, 1, none⟩ = some v ∧ wr.frozen? ⟨w.heap.size + 1 + 1, 1, none⟩ = false ∧ w.heap.size + 1 + 1 < wr.heap.size ∧ wr.ownsRow (w.heap.size + 1 + 1 + 1) 77 6 v L.length (flat L)

theorem out_alloc {w wr : World} {s : ByteArray} {v : Value} {L : List Bx} (h : OutIs w wr s v L) (o : Obj) (hl : w.heap.size + 1 + 1 < wr.heap.size) : OutIs w (wr.alloc o) s v L := by
  obtain ⟨h0, h1, h2, h3, h4⟩ := h
  exact ⟨(World.cell?_alloc_lt _ _ _ hl).trans h0, (World.cell?_alloc_lt _ _ _ hl).trans h1, (((Gr.refl wr).alloc o).cells.2 _ _ hl).trans h2, by simp; omega, h4.alloc o⟩

theorem owns_form {w : World} {base e size n : Nat} {v : Value} {xs : List Value} (h : w.ownsRow base e size v n xs) : ∃ a c, v = .slice a n c := by
  rcases h.2 with ⟨rfl, h0⟩ | ⟨g, cap, cur, rfl, _⟩
  · subst h0; exact ⟨_, _, rfl⟩
  · exact ⟨_, _, rfl⟩
theorem new_free {w w1 : World} {u v : Value} {t : TypeId} (g : Gr (w.alloc (.cells #[u, v] t)) w1) : w1.frozen? ⟨w.heap.size, 1, none⟩ = false := (g.cells.2 _ _ (by simp)).trans (by simp)

theorem out_next {w W w1 : World} {s : ByteArray} {v v' : Value} {L M : List Bx} {c : Bx} (h : OutIs w W s v L) (hM : M = L ++ [c]) (hown : w1.ownsRow (w.heap.size + 1 + 1 + 1) 77 6 v' (L.length + 1) (flat L ++ c.vals)) (hb : Below (w.heap.size + 1 + 1 + 1) W w1) :
    OutIs w (w1.setCell ⟨w.heap.size + 1 + 1, 1, none⟩ v') s v' M := by
  obtain ⟨h0, h1, h2, h3, h4⟩ := h
  have e1 : w1.cell? ⟨w.heap.size + 1 + 1, 1, none⟩ = some v := (hb.cell (p := ⟨w.heap.size + 1 + 1, 1, none⟩) (by simp)).trans h1
  refine ⟨?_, World.cell?_setCell_same _ _ _ e1, ?_, ?_, ?_⟩
  · rw [cell_off _ _ _ _ _ _ (by simp)]
    exact (hb.cell (p := ⟨w.heap.size + 1 + 1, 0, none⟩) (by simp)).trans h0
  · rw [World.frozen?_setCell]
    exact (hb.frozen (p := ⟨w.heap.size + 1 + 1, 1, none⟩) (by simp)).trans h2
  · rw [World.size_setCell]
    exact Nat.lt_of_lt_of_le h3 hb.size
  · subst hM
    rw [flat_snoc, List.length_append]
    exact ownsRow_setCell_below hown (by simp) _

end Go.Proofs.YtpdcgjkfilohcabGreat
