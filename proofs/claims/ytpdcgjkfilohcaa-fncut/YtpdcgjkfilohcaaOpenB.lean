import Derived.Test.YtpdcgjkfilohcaaOpenT
import Derived.Test.YtpdcgjkfilohcaaDraw
namespace Go.Proofs.Ytpdcgjkfilohcaa
open Go.ChangeShapes Go.WideShapes Go.ChangeAt Go.RowKit Go.Joins Go.Deep

theorem gatherI {n : Nat} {p : Nat → Int → Prop} (h : ∀ i, i < n → ∃ b, p i b) : ∃ bs : List Int, bs.length = n ∧ ∀ i, i < n → p i (bs.getD i 0) := by
  induction n with
  | zero => exact ⟨[], rfl, fun i hi => absurd hi (Nat.not_lt_zero _)⟩
  | succ n ih =>
    obtain ⟨bs, hl, hb⟩ := ih (fun i hi => h i (Nat.lt_succ_of_lt hi))
    obtain ⟨b, hp⟩ := h n (Nat.lt_succ_self n)
    refine ⟨bs ++ [b], by simp [hl], fun i hi => ?_⟩
    rcases Nat.lt_succ_iff_lt_or_eq.1 hi with hlt | rfl
    · have := hb i hlt
      simpa [List.getD, List.getElem?_append_left (show i < bs.length by omega)] using this
    · subst hl
      simpa [List.getD] using hp
theorem Try.cellsB : Try.prog.cellsOf 5 = 1 := by kernel_rfl

section
variable {H : Type} {enc : TypeId × Value → H} {w : World} {held : Bool}
/-- A slice of bytes, opened. -/
theorem open_bytes {fuel : Nat} {v : Value} {x : DataW H × List MemPlace} (h : DataW.trod enc Try.prog w 0 (fun _ => true) held fuel 22 [v] = some x) :
    ∃ a cap bs, v = .slice a (List.length (α := Int) bs) cap ∧ bs.length ≤ maxLen ∧ bs.length ≤ cap ∧ BytesAt w a bs := by
  rcases open_slice Try.underlying22 h with ⟨hcs, _⟩ | ⟨a, len, cap, m, n, D, Pl, hcs, _, hl, hm, hme, _, hel⟩
  · simp at hcs
    exact ⟨none, 0, [], by simpa using hcs, by simp [maxLen], by simp, fun k hk => by simp at hk⟩
  · simp at hcs hme
    subst hme
    rw [Try.cellsB] at hel
    have each : ∀ i, i < len → ∃ b : Int, w.cell? (a.add i) = some (.int .u8 b) ∧ 0 ≤ b ∧ b ≤ 255 := by
      intro i hi
      obtain ⟨cs', hc, hr⟩ := hel i (by omega)
      obtain ⟨_, hn, hget⟩ := World.cells?_some hc
      obtain ⟨b, rfl, _, hw⟩ := DataW.trod_int Try.underlying5 hr
      have q0 := hget 0 (by omega)
      have hr0 : 0 ≤ b ∧ b ≤ 255 := by
        simp only [Lit.wf, Bool.and_eq_true, decide_eq_true_eq] at hw
        exact hw
      simp at q0
      exact ⟨b, q0, hr0.1, hr0.2⟩
    obtain ⟨bs, hbl, hb⟩ := gatherI each
    refine ⟨some a, _, bs, by simpa [hbl] using hcs, by omega, by omega, fun k hk => ?_⟩
    obtain ⟨g, o, sp⟩ := a
    have q := (hb k (by omega))
    have hsp : sp = none := by
      have q0 := (hb 0 (by omega)).1
      simp [Addr.add] at q0
      exact World.cell?_spot q0
    subst hsp
    rw [add_addr] at q
    exact ⟨g, o, rfl, World.block_lt_of_cell? w _ q.1, q.1, q.2.1, q.2.2⟩
end
end Go.Proofs.Ytpdcgjkfilohcaa
