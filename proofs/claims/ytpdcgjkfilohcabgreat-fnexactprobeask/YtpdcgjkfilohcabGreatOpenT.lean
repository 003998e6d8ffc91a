import Derived.Test.YtpdcgjkfilohcabGreatOpen
import Derived.Test.YtpdcgjkfilohcabGreatMem
import Derived.Deep.Slices
namespace Go.Proofs.YtpdcgjkfilohcabGreat
open Go.ChangeShapes Go.WideShapes Go.ChangeAt Go.RowKit Go.Joins Go.Deep

theorem Tryz.cells35 : Tryz.prog.cellsOf 35 = 2 := by kernel_rfl

theorem add_addr (g o i : Nat) : (⟨g, o, none⟩ : Addr).add i = ⟨g, o + i, none⟩ := by unfold Addr.add; split <;> simp_all

theorem gather {n : Nat} {p : Nat → Bx → Prop} (h : ∀ i, i < n → ∃ b, p i b) : ∃ bs : List Bx, bs.length = n ∧ ∀ i, i < n → p i (bs.getD i Bx.nil) := by
  induction n with
  | zero => exact ⟨[], rfl, fun i hi => absurd hi (Nat.not_lt_zero _)⟩
  | succ n ih =>
    obtain ⟨bs, hl, hb⟩ := ih (fun i hi => h i (Nat.lt_succ_of_lt hi))
    obtain ⟨b, hp⟩ := h n (Nat.lt_succ_self n)
    refine ⟨bs ++ [b], by simp [hl], fun i hi => ?_⟩
    rcases Nat.lt_succ_iff_lt_or_eq.1 hi with hlt | rfl
    · have := hb i hlt
      simpa [List.getD, List.getElem?_append_left (show i < bs.length by omega)] using this
    · subst hl
      simpa [List.getD] using hp

section
variable {H : Type} {enc : TypeId × Value → H} {w : World} {held : Bool}

/-- A slice of boxes, opened. -/
theorem open_boxes {fuel : Nat} {v : Value} {x : DataW H × List MemPlace} (h : DataW.trod enc Tryz.prog w 0 (fun _ => true) held fuel 33 [v] = some x) :
    ∃ a cap bs, v = .slice a (List.length (α := Bx) bs) cap ∧ bs.length ≤ maxLen ∧ Boxes w a bs := by
  rcases open_slice Tryz.underlying33 h with ⟨hcs, _⟩ | ⟨a, len, cap, m, n, D, Pl, hcs, _, hl, hm, hme, _, hel⟩
  · simp at hcs
    exact ⟨none, 0, [], by simpa using hcs, by simp [maxLen], fun k hk => by simp at hk⟩
  · simp at hcs hme
    subst hme
    rw [Tryz.cells130] at hel
    have each : ∀ i, i < len → ∃ b : Bx, ∀ (g o : Nat), a = ⟨g, o, none⟩ → Six w g (o + i * 6) b ∧ g < w.heap.size := by
      intro i hi
      obtain ⟨cs', hc, hr⟩ := hel i (by omega)
      obtain ⟨_, hn, hget⟩ := World.cells?_some hc
      obtain ⟨c0, c1, c2, c3, c4, c5, rfl⟩ := list6 hn
      obtain ⟨x, y, l, h, i', o', rfl, rfl, rfl, rfl, rfl, rfl, _⟩ := box_cells hr
      refine ⟨⟨x, y, l, h, i', o'⟩, ?_⟩
      rintro g o rfl
      have q0 := hget 0 (by omega)
      have q1 := hget 1 (by omega)
      have q2 := hget 2 (by omega)
      have q3 := hget 3 (by omega)
      have q4 := hget 4 (by omega)
      have q5 := hget 5 (by omega)
      simp [add_addr] at q0 q1 q2 q3 q4 q5
      exact ⟨⟨q0, q1, q2, q3, q4, q5⟩, World.block_lt_of_cell? w _ q0⟩
    obtain ⟨bs, hbl, hb⟩ := gather each
    refine ⟨some a, _, bs, by simpa [hbl] using hcs, by omega, fun k hk => ?_⟩
    obtain ⟨g, o, sp⟩ := a
    obtain ⟨cs', hc, hr⟩ := hel 0 (by omega)
    obtain ⟨_, hn, hget⟩ := World.cells?_some hc
    obtain ⟨c0, c1, c2, c3, c4, c5, rfl⟩ := list6 hn
    have q0 := hget 0 (by omega)
    simp [Addr.add] at q0
    have hsp : sp = none := World.cell?_spot q0
    subst hsp
    obtain ⟨hx, hg⟩ := hb k (by omega) g o rfl
    exact ⟨g, o, rfl, hg, hx⟩

set_option maxRecDepth 100000 in
/-- A tube of the laws, by value, opened. -/
theorem open_tube {r : Reach} {b0 : Nat} {v : Value} {d : DataW H} {p : List MemPlace} (hv : Value.okWide Tryz.prog w r b0 35 v) (h : DataW.Trod enc Tryz.prog w 0 (fun _ => true) held 35 v d p) :
    ∃ (s : ByteArray) (a : Option Addr) (cap : Nat) (bs : List Bx), v = .agg #[.string s, .slice a bs.length cap] ∧ s.size ≤ maxLen ∧ bs.length ≤ maxLen ∧ Boxes w a bs := by
  obtain ⟨v0, v1, y0, y1, m, rfl, rfl, rfl, hy0, hy1⟩ := open_agg2 Tryz.underlying35 (by kernel_rfl) Tryz.cells35 hv h
  obtain ⟨s, e0, _, hs⟩ := DataW.trod_string Tryz.underlying9 hy0
  obtain ⟨a, cap, bs, rfl, hl, hb⟩ := open_boxes hy1
  simp at e0
  subst e0
  exact ⟨s, a, cap, bs, rfl, hs, hl, hb⟩
end
end Go.Proofs.YtpdcgjkfilohcabGreat
