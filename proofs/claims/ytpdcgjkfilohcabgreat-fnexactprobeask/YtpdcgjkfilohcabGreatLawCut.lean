import Derived.Test.YtpdcgjkfilohcabGreatMark
namespace Go.Proofs.YtpdcgjkfilohcabGreat
open Go.RowKit
attribute [local go_sem ↓] Go.wp_at_zero Go.wp_at_succ

theorem pair_gr {w w' : World} {b : Nat} {u v : Value} (h : b < w.heap.size ∧ w.cell? ⟨b, 0, none⟩ = some u ∧ w.cell? ⟨b, 1, none⟩ = some v) (g : Gr w w') : b < w'.heap.size ∧ w'.cell? ⟨b, 0, none⟩ = some u ∧ w'.cell? ⟨b, 1, none⟩ = some v :=
  ⟨Nat.lt_of_lt_of_le h.1 g.size, (g.cells.1 _ _ h.1).trans h.2.1, (g.cells.1 _ _ h.1).trans h.2.2⟩
theorem pair_mk {w w' : World} {a : Option Addr} {b : Nat} {u v : Value} (h : b < w.heap.size ∧ w.cell? ⟨b, 0, none⟩ = some u ∧ w.cell? ⟨b, 1, none⟩ = some v) (m : Mk a w w') (hne : ∀ g o sp, a = some ⟨g, o, sp⟩ → g ≠ b) : b < w'.heap.size ∧ w'.cell? ⟨b, 0, none⟩ = some u ∧ w'.cell? ⟨b, 1, none⟩ = some v :=
  ⟨Nat.lt_of_lt_of_le h.1 m.1, (m.2.1 _ _ h.1 (fun e => hne _ _ _ e rfl)).trans h.2.1, (m.2.1 _ _ h.1 (fun e => hne _ _ _ e rfl)).trans h.2.2⟩
theorem boxes_mk {w w' : World} {a a' : Option Addr} {bs : List Bx} (h : Boxes w a' bs) (m : Mk a w w') (hne : ∀ g o sp g' o' sp', a = some ⟨g, o, sp⟩ → a' = some ⟨g', o', sp'⟩ → g ≠ g') : Boxes w' a' bs := fun k hk => by
  obtain ⟨g, o, e, hg, hx⟩ := h k hk
  refine ⟨g, o, e, Nat.lt_of_lt_of_le hg m.1, ?_⟩
  have q : ∀ r, w'.cell? ⟨g, r, none⟩ = w.cell? ⟨g, r, none⟩ := fun r => m.2.1 g r hg (fun e' => hne _ _ _ _ _ _ e' e rfl)
  unfold Six at *
  simp only [q]
  exact hx
theorem rooms_mk {w w' : World} {a a' : Option Addr} {n : Nat} (h : Rooms w a' n) (m : Mk a w w') : Rooms w' a' n := fun j hj => by
  obtain ⟨g, e, hg, hr⟩ := h j hj
  exact ⟨g, e, Nat.lt_of_lt_of_le hg m.1, m.2.2.2.2 g _ hg hr⟩
theorem cutT_le (f : Int) (s : ByteArray) (bs : List Bx) : (cutT f s bs).length ≤ bs.length := by
  unfold cutT; split
  · exact cutL_le f bs
  · simp

end Go.Proofs.YtpdcgjkfilohcabGreat
