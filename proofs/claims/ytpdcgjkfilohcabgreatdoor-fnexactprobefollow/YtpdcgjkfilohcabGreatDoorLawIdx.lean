import Derived.Test.YtpdcgjkfilohcabGreatDoorIdxU
import Derived.Test.YtpdcgjkfilohcabGreatDoorIdxLS
import Derived.Test.YtpdcgjkfilohcabGreatDoorLawHap
namespace Go.Proofs.YtpdcgjkfilohcabGreatDoor
open Go.RowKit Go.Sort Go.Maps
set_option linter.unusedSimpArgs false
set_option linter.unusedVariables false

/-! The law of ProbeIndexOf. -/

theorem placed_like {us ts : List Tb} (h : Like us ts) : placed us = placed ts := by
  have e : us.map (fun t => (t.s, t.bs)) = ts.map (fun t => (t.s, t.bs)) := by
    apply List.ext_getElem
    · simp [h.1]
    · intro k h1 h2
      have hk : k < ts.length := by simpa using h2
      have hk' : k < us.length := by simpa using h1
      have := h.2 k hk
      simp only [nm, bx, List.getD_eq_getElem?_getD, List.getElem?_eq_getElem hk, List.getElem?_eq_getElem hk', Option.getD_some] at this
      simp [this.1, this.2]
  have f : ∀ l : List Tb, placed l = (l.map (fun t => (t.s, t.bs))).flatMap (fun x => (List.range x.2.length).map fun k => slotOf x.1 k (x.2.getD k Bx.nil)) := fun l => by
    rw [List.flatMap_map]
    rfl
  rw [f us, f ts, e]
theorem idxIs_like {us ts : List Tb} (h : Like us ts) {idx : List Cl} (hi : IdxIs us idx) : IdxIs ts idx := by
  unfold IdxIs at *
  rw [← sky_like h, ← placed_like h]
  exact hi
/-- What both answer of tubes. -/
def XQ (ts : List Tb) (lo : Nat) (e : Ending) (w' : World) : Prop := ∃ v cs, e = .returned (.agg #[v]) ∧ OwnX lo w' v cs ∧ IdxIs ts (idxOf cs)
/-- A box in memory. -/
def BX (w : World) (b : Nat) (v : Value) : Prop := b < w.heap.size ∧ w.cell? ⟨b, 0, none⟩ = some v
theorem bx_gr {w w' : World} {b : Nat} {v : Value} (h : BX w b v) (g : Gr w w') : BX w' b v := ⟨Nat.lt_of_lt_of_le h.1 g.size, (g.cells.1 _ _ h.1).trans h.2⟩
theorem bx_rm {lo hi : Nat} {w w' : World} {b : Nat} {v : Value} (h : BX w b v) (g : RM lo hi w w') (ho : b < lo ∨ hi ≤ b) : BX w' b v := ⟨Nat.lt_of_lt_of_le h.1 g.2.2.2.1, (World.cell?_of_block (g.2.2.2.2 b h.1 ho)).trans h.2⟩
theorem bx_make (w : World) (v : Value) (t : TypeId) : BX (w.alloc (.cells #[v] t)) w.heap.size v := ⟨by simp, by simp⟩

end Go.Proofs.YtpdcgjkfilohcabGreatDoor
