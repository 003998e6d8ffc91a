import Derived.Test.YtpdcgjkfilohcabDoorCloseB
namespace Go.Proofs.YtpdcgjkfilohcabDoor
open Go.RowKit
attribute [local go_sem ↓] Go.wp_at_zero Go.wp_at_succ

theorem sees_of {B W : World} (g : Gr B W) : Gr B W ∧ ∀ b o, b < B.heap.size → W.cell? ⟨b, o, none⟩ = B.cell? ⟨b, o, none⟩ := ⟨g, g.cells.1⟩
theorem Gr.lt_alloc {w w1 : World} {o : Obj} (g : Gr (w.alloc o) w1) : w.heap.size < w1.heap.size := by
  have := g.size; simp at this; omega
theorem Gr.lt_alloc_drew {w w1 : World} {o : Obj} (g : Gr (w.alloc o).drew w1) : w.heap.size < w1.heap.size := by
  have := g.size; simp at this; omega

theorem close_meets {a b : Bx} (ha : a.ok = true) (hb : b.ok = true) :
    closeB a b = (meetB a.x (a.x + 1) b.x (b.x + 1) && meetB a.y (a.y + 1) b.y (b.y + 1) && meetB a.l a.h b.l b.h && meetB a.i a.o b.i b.o) := by
  have h1 := ok_nums ha
  have h2 := ok_nums hb
  rw [closeB, ha, hb, Bool.eq_iff_iff]
  simp only [nearB, meetB, Bool.true_and, Bool.and_eq_true, decide_eq_true_eq]
  split <;> split <;> split <;> split <;> split <;> split <;> split <;> split <;> omega
theorem closeT_meets {a b : Bx} (h : closeB a b = true) (hm : meetB a.i a.o b.i b.o = true) : closeT a b = meetF a.i a.o b.i b.o := by
  simp only [closeT, h, meetF, hm, if_true]
  split <;> split <;> omega

end Go.Proofs.YtpdcgjkfilohcabDoor
