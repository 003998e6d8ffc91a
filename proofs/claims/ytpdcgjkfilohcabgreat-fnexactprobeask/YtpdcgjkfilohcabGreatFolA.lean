import Derived.Test.YtpdcgjkfilohcabGreatLawIdx
import Derived.Test.YtpdcgjkfilohcabGreatIdxVW
namespace Go.Proofs.YtpdcgjkfilohcabGreat
open Go.RowKit Go.Sort Go.Maps
attribute [local go_sem ↓] Go.wp_at_zero Go.wp_at_succ
set_option linter.unusedSimpArgs false
set_option linter.unusedVariables false

/-! The index behind an event. -/

theorem idxIs_nil : IdxIs [] [] := by
  have h : skyB [] = true := by decide
  unfold IdxIs
  rw [h]
  exact idx_nil
/-- How far the marks go. -/
def sumX (cs : List Cx) : Nat := (cs.map fun c => c.2.2.length).sum
theorem endX_sum : ∀ (k : Int) (cs : List Cx), endX k cs = k + 2 * cs.length + 6 * sumX cs
  | k, [] => by simp [endX, sumX]
  | k, c :: cs => by
    rw [endX, endX_sum]
    simp only [nextC, sumX, List.map_cons, List.sum_cons, List.length_cons]
    omega
theorem sumX_like {ds : List Cx} {cs : List Ce} (h : idxOf ds = ceIdx cs) : ds.length = cs.length ∧ sumX ds = sumTo cs cs.length := by
  refine ⟨by rw [← idx_len, h]; simp [ceIdx], ?_⟩
  have e1 : sumX ds = ((idxOf ds).map fun c => c.2.length).sum := by simp [sumX, idxOf, Function.comp_def]
  have e2 : sumTo cs cs.length = ((ceIdx cs).map fun c => c.2.length).sum := by simp [sumTo, ceIdx, Function.comp_def]
  rw [e1, e2, h]
theorem mem_sum : ∀ {l : List Nat} {x : Nat}, x ∈ l → x ≤ l.sum
  | y :: l, x, h => by
    rw [List.sum_cons]
    rcases List.mem_cons.1 h with rfl | h
    · omega
    · have := mem_sum h
      omega
theorem smallX_like {ds : List Cx} {cs : List Ce} (h : idxOf ds = ceIdx cs) (hS : SmallC cs) : SmallX ds ∧ endX 1 ds ≤ 100000000 ∧ 1 ≤ endX 1 ds := by
  obtain ⟨h1, h2⟩ := sumX_like h
  have h3 : ∀ c ∈ ds, c.2.2.length ≤ sumX ds := fun c hc => by
    unfold sumX
    exact mem_sum (List.mem_map.2 ⟨c, hc, rfl⟩)
  unfold SmallC at hS
  have h4 := endX_sum 1 ds
  exact ⟨⟨by omega, fun c hc => by have := h3 c hc; omega⟩, by omega, by omega⟩

end Go.Proofs.YtpdcgjkfilohcabGreat
