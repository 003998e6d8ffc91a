import Derived.Test.YtpdcgjkfilohcabGreatHapTV
namespace Go.Proofs.YtpdcgjkfilohcabGreat
open Go.RowKit

/-- The copies that the law makes. -/
def CopyQ (ts : List Tb) (lo : Nat) (e : Ending) (w' : World) : Prop := ∃ us : List Tb, e = .returned (.slice (some ⟨lo, 0, none⟩) us.length us.length) ∧ Like us ts ∧ OwnT lo w' (.slice (some ⟨lo, 0, none⟩) us.length us.length) us ∧ Made us
/-- An event in memory. -/
def TriAt (w : World) (b : Nat) (u v x : Value) : Prop := b < w.heap.size ∧ w.cell? ⟨b, 0, none⟩ = some u ∧ w.cell? ⟨b, 1, none⟩ = some v ∧ w.cell? ⟨b, 2, none⟩ = some x
theorem tri_gr {w w' : World} {b : Nat} {u v x : Value} (h : TriAt w b u v x) (g : Gr w w') : TriAt w' b u v x := ⟨Nat.lt_of_lt_of_le h.1 g.size, (g.cells.1 _ _ h.1).trans h.2.1, (g.cells.1 _ _ h.1).trans h.2.2.1, (g.cells.1 _ _ h.1).trans h.2.2.2⟩
theorem tri_rm {lo hi : Nat} {w w' : World} {b : Nat} {u v x : Value} (h : TriAt w b u v x) (g : RM lo hi w w') (ho : b < lo ∨ hi ≤ b) : TriAt w' b u v x := by
  have hc : ∀ o, w'.cell? ⟨b, o, none⟩ = w.cell? ⟨b, o, none⟩ := fun o => World.cell?_of_block (w := w) (g.2.2.2.2 b h.1 ho)
  exact ⟨Nat.lt_of_lt_of_le h.1 g.2.2.2.1, (hc 0).trans h.2.1, (hc 1).trans h.2.2.1, (hc 2).trans h.2.2.2⟩
theorem tri_make (w : World) (u v x : Value) (t : TypeId) : TriAt (w.alloc (.cells #[u, v, x] t)) w.heap.size u v x := ⟨by simp, by simp, by simp, by simp⟩

theorem owned_inT {w w' : World} {g cap : Nat} {s : ByteArray} {bs : List Bx} (h : Owned w w' g bs) : InT w.heap.size w' ⟨s, some ⟨g, 0, none⟩, cap, bs⟩ := by
  obtain ⟨h1, h2, h3, h4⟩ := h
  refine ⟨fun q o sp e => ?_, h4⟩
  simp only [Option.some.injEq, Addr.mk.injEq] at e
  obtain ⟨rfl, rfl, rfl⟩ := e
  exact ⟨rfl, rfl, h1, h2, h3⟩
theorem hid {p : Prop} (h : p) : Hid p := h
end Go.Proofs.YtpdcgjkfilohcabGreat
