import Derived.Test.YtpdcgjkfilohcaaMeetG
import Derived.Test.YtpdcgjkfilohcaaEver
namespace Go.Proofs.Ytpdcgjkfilohcaa
open Go.RowKit

/-- The best of the pairs that have been looked at. -/
def Best (cs bs : List Bx) (P : Nat → Nat → Prop) : Option (Int × Nat × Nat) → Prop
  | none => ∀ i j, P i j → closeB (cs.getD i Bx.nil) (bs.getD j Bx.nil) = false
  | some (T, i, j) => P i j ∧ closeB (cs.getD i Bx.nil) (bs.getD j Bx.nil) = true ∧ T = closeT (cs.getD i Bx.nil) (bs.getD j Bx.nil) ∧ ∀ i' j', P i' j' → closeB (cs.getD i' Bx.nil) (bs.getD j' Bx.nil) = true → T ≤ closeT (cs.getD i' Bx.nil) (bs.getD j' Bx.nil)
theorem best_step {cs bs : List Bx} {P Q : Nat → Nat → Prop} {st : Option (Int × Nat × Nat)} {i j : Nat} (h : Best cs bs P st) (hQ : ∀ x y, Q x y ↔ P x y ∨ (x = i ∧ y = j)) : Best cs bs Q (meetStep cs bs i j st) := by
  cases hc : closeB (cs.getD i Bx.nil) (bs.getD j Bx.nil)
  · rw [step_far hc]
    rcases st with _ | ⟨T, i', j'⟩
    · intro x y hxy
      rcases (hQ x y).1 hxy with hp | ⟨rfl, rfl⟩
      · exact h x y hp
      · exact hc
    · obtain ⟨h1, h2, h3, h4⟩ := h
      refine ⟨(hQ _ _).2 (Or.inl h1), h2, h3, fun x y hxy hcl => ?_⟩
      rcases (hQ x y).1 hxy with hp | ⟨rfl, rfl⟩
      · exact h4 x y hp hcl
      · rw [hc] at hcl; cases hcl
  · rcases st with _ | ⟨T, i', j'⟩
    · rw [step_first hc]
      refine ⟨(hQ _ _).2 (Or.inr ⟨rfl, rfl⟩), hc, rfl, fun x y hxy hcl => ?_⟩
      rcases (hQ x y).1 hxy with hp | ⟨rfl, rfl⟩
      · rw [h x y hp] at hcl; cases hcl
      · exact Int.le_refl _
    · obtain ⟨h1, h2, h3, h4⟩ := h
      by_cases hl : closeT (cs.getD i Bx.nil) (bs.getD j Bx.nil) < T
      · rw [step_less hc hl]
        refine ⟨(hQ _ _).2 (Or.inr ⟨rfl, rfl⟩), hc, rfl, fun x y hxy hcl => ?_⟩
        rcases (hQ x y).1 hxy with hp | ⟨rfl, rfl⟩
        · have := h4 x y hp hcl; omega
        · exact Int.le_refl _
      · rw [step_more hc hl]
        refine ⟨(hQ _ _).2 (Or.inl h1), h2, h3, fun x y hxy hcl => ?_⟩
        rcases (hQ x y).1 hxy with hp | ⟨rfl, rfl⟩
        · exact h4 x y hp hcl
        · omega
theorem best_iff {cs bs : List Bx} {P Q : Nat → Nat → Prop} {st : Option (Int × Nat × Nat)} (h : Best cs bs P st) (hQ : ∀ x y, Q x y ↔ P x y) : Best cs bs Q st := by
  have : Q = P := funext fun x => funext fun y => propext (hQ x y)
  rw [this]; exact h
theorem best_row {cs bs : List Bx} {P : Nat → Nat → Prop} {st : Option (Int × Nat × Nat)} (i : Nat) (h : Best cs bs P st) : ∀ n, Best cs bs (fun x y => P x y ∨ (x = i ∧ y < n)) (meetRow cs bs i st n)
  | 0 => best_iff h (fun x y => by
      constructor
      · rintro (h | ⟨_, h⟩)
        · exact h
        · omega
      · exact Or.inl)
  | n + 1 => best_step (best_row i h n) (fun x y => by
      constructor
      · rintro (h | ⟨h1, h2⟩)
        · exact Or.inl (Or.inl h)
        · by_cases e : y = n
          · exact Or.inr ⟨h1, e⟩
          · exact Or.inl (Or.inr ⟨h1, by omega⟩)
      · rintro ((h | ⟨h1, h2⟩) | ⟨h1, h2⟩)
        · exact Or.inl h
        · exact Or.inr ⟨h1, by omega⟩
        · exact Or.inr ⟨h1, by omega⟩)
theorem best_all (cs bs : List Bx) : ∀ n, Best cs bs (fun x y => x < n ∧ y < bs.length) (meetAll cs bs n)
  | 0 => fun i j h => by omega
  | n + 1 => best_iff (best_row n (best_all cs bs n) bs.length) (fun x y => by omega)

theorem closeB_comm (a b : Bx) : closeB a b = closeB b a := by
  simp only [closeB, nearB]
  cases a.ok <;> cases b.ok <;> simp only [Bool.true_and, Bool.false_and, Bool.and_false, Bool.and_true]
  rw [Bool.eq_iff_iff]
  simp only [decide_eq_true_eq]
  omega
theorem closeT_comm (a b : Bx) : closeT a b = closeT b a := by
  unfold closeT
  rw [closeB_comm a b]
  split
  · split <;> split <;> omega
  · rfl
/-- Told the other way round it is the same tick. -/
theorem meet_back (cs bs : List Bx) : (meetAll cs bs cs.length).map (·.1) = (meetAll bs cs bs.length).map (·.1) := by
  have h1 := best_all cs bs cs.length
  have h2 := best_all bs cs bs.length
  generalize meetAll cs bs cs.length = u at *
  generalize meetAll bs cs bs.length = v at *
  rcases u with _ | ⟨T, i, j⟩ <;> rcases v with _ | ⟨T', i', j'⟩
  · rfl
  · obtain ⟨p, c, -, -⟩ := h2
    have := h1 j' i' (And.symm p)
    rw [closeB_comm, c] at this
    cases this
  · obtain ⟨p, c, -, -⟩ := h1
    have := h2 j i (And.symm p)
    rw [closeB_comm, c] at this
    cases this
  · obtain ⟨p, c, e, m⟩ := h1
    obtain ⟨p', c', e', m'⟩ := h2
    have k1 := m j' i' (And.symm p') (by rw [closeB_comm]; exact c')
    have k2 := m' j i (And.symm p) (by rw [closeB_comm]; exact c)
    rw [closeT_comm] at k1 k2
    simp only [Option.map_some, Option.some.injEq]
    omega
theorem wn_close {a b : Bx} {t : Int} (ha : a.ok = true) (hb : b.ok = true) (h : wnB a b t = true) : closeB a b = true ∧ closeT a b ≤ t := by
  simp only [wnB, timeB, Bool.and_eq_true, decide_eq_true_eq] at h
  have hc : closeB a b = true := by rw [closeB, ha, hb, h.2]; rfl
  refine ⟨hc, ?_⟩
  unfold closeT
  rw [if_pos hc]
  split <;> omega
theorem close_wn {a b : Bx} (h : closeB a b = true) : wnB a b (closeT a b) = true := by
  have hn : nearB a b = true := by
    simp only [closeB, Bool.and_eq_true] at h
    exact h.2
  have ho : a.ok = true ∧ b.ok = true := by
    simp only [closeB, Bool.and_eq_true] at h
    exact h.1
  have h1 := ok_nums ho.1
  have h2 := ok_nums ho.2
  rw [wnB, hn, Bool.and_true]
  simp only [nearB, decide_eq_true_eq] at hn
  unfold closeT
  rw [if_pos h]
  simp only [timeB, decide_eq_true_eq]
  split <;> omega
end Go.Proofs.Ytpdcgjkfilohcaa
