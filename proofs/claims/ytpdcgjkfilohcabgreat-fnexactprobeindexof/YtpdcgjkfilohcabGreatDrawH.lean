import Derived.Test.YtpdcgjkfilohcabGreatDrawG
namespace Go.Proofs.YtpdcgjkfilohcabGreat
open Go.RowKit
attribute [local go_sem ↓] Go.wp_at_zero Go.wp_at_succ

theorem bytes_gr {w w' : World} {a : Option Addr} {bs : List Int} (h : BytesAt w a bs) (g : Gr w w') : BytesAt w' a bs := fun k hk => by
  obtain ⟨q, o, e, hq, hc, r0, r1⟩ := h k hk
  exact ⟨q, o, e, Nat.lt_of_lt_of_le hq g.size, (g.cells.1 _ _ hq).trans hc, r0, r1⟩
theorem bytes_take {w : World} {a : Option Addr} {bs : List Int} (h : BytesAt w a bs) (n : Nat) : BytesAt w a (bs.take n) := fun k hk => by
  obtain ⟨q, o, e, hq, hc, r0, r1⟩ := h k (by simp at hk; omega)
  have e1 : (bs.take n).getD k 0 = bs.getD k 0 := by
    simp only [List.getD_eq_getElem?_getD]
    rw [List.getElem?_take_of_lt (by simp at hk; omega)]
  rw [e1]
  exact ⟨q, o, e, hq, hc, r0, r1⟩
theorem rd_new {w w1 : World} {a : Option Addr} {bs : List Int} {cap : Nat} {t : TypeId} (hb : BytesAt w a bs) (hl : bs.length ≤ 2000) (g : Gr (w.alloc (.cells #[.slice a bs.length cap, .int .i64 0] t)) w1) : Rd ⟨w.heap.size, a, cap, bs⟩ w1 0 := by
  have gg : Gr w w1 := ((Gr.refl w).alloc _).trans g
  refine ⟨bytes_gr hb gg, hl, (g.cells.1 _ _ (by simp)).trans (by simp), (g.cells.1 _ _ (by simp)).trans (by simp), (g.cells.2 _ _ (by simp)).trans (by simp), by have := g.size; simp at this; exact this, fun hne q o sp e => ?_⟩
  obtain ⟨q', o', e', hq, -⟩ := hb 0 (by cases bs with | nil => exact absurd rfl hne | cons x xs => simp)
  dsimp only at e
  rw [e] at e'
  cases e'
  exact hq

/-- Texts that lie one behind the other. -/
def StrsAt (w : World) (g : Nat) (ss : List ByteArray) : Prop := g < w.heap.size ∧ ∀ k, k < ss.length → w.cell? ⟨g, k, none⟩ = some (.string (ss.getD k ⟨#[]⟩))

end Go.Proofs.YtpdcgjkfilohcabGreat
