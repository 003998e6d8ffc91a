import Derived.Test.YtpdcgjkfilohcabGreatOpenT
import Derived.Test.YtpdcgjkfilohcabGreatLawSky
namespace Go.Proofs.YtpdcgjkfilohcabGreat
open Go.ChangeShapes Go.WideShapes Go.ChangeAt Go.RowKit Go.Joins Go.Deep

theorem Tryz.cells9 : Tryz.prog.cellsOf 9 = 1 := by kernel_rfl
theorem Tryz.cells33 : Tryz.prog.cellsOf 33 = 1 := by kernel_rfl

theorem list2 {α : Type} {l : List α} (h : l.length = 2) : ∃ c0 c1, l = [c0, c1] := by
  match l, h with
  | [c0, c1], _ => exact ⟨c0, c1, rfl⟩
theorem gatherT {n : Nat} {p : Nat → Tb → Prop} (h : ∀ i, i < n → ∃ b, p i b) : ∃ bs : List Tb, bs.length = n ∧ ∀ i, i < n → p i (bs.getD i Tb.nil) := by
  induction n with
  | zero => exact ⟨[], rfl, fun i hi => absurd hi (Nat.not_lt_zero _)⟩
  | succ n ih =>
    obtain ⟨bs, hl, hb⟩ := ih (fun i hi => h i (Nat.lt_succ_of_lt hi))
    obtain ⟨b, hp⟩ := h n (Nat.lt_succ_self n)
    refine ⟨bs ++ [b], by simp [hl], fun i hi => ?_⟩
    rcases Nat.lt_succ_iff_lt_or_eq.1 hi with hlt | rfl
    · have := hb i hlt
      simpa [List.getD, List.getElem?_append_left (show i < bs.length by omega)] using this
    · subst hl
      simpa [List.getD] using hp

section
variable {H : Type} {enc : TypeId × Value → H} {w : World} {held : Bool}

/-- Two cells that read as a tube of the laws. -/
theorem tube_cells {fuel : Nat} {c0 c1 : Value} {x : DataW H × List MemPlace} (h : DataW.trod enc Tryz.prog w 0 (fun _ => true) held fuel 35 [c0, c1] = some x) :
    ∃ t : Tb, c0 = .string t.s ∧ c1 = .slice t.a t.bs.length t.cap ∧ t.s.size ≤ maxLen ∧ t.bs.length ≤ maxLen ∧ Boxes w t.a t.bs := by
  obtain ⟨xs, n, _, rfl, hl, hlen, hf⟩ := DataW.trod_struct Tryz.underlying35 h
  obtain ⟨y0, y1, rfl⟩ := list2 hlen
  have f0 := hf 0 _ rfl
  have f1 := hf 1 _ rfl
  simp [Tryz.cells9, Tryz.cells33] at f0 f1
  obtain ⟨s, e0, _, hs⟩ := DataW.trod_string Tryz.underlying9 f0
  obtain ⟨a, cap, bs, rfl, hbl, hb⟩ := open_boxes f1
  simp at e0
  subst e0
  exact ⟨⟨s, a, cap, bs⟩, rfl, rfl, hs, hbl, hb⟩

/-- A slice of tubes, opened. -/
theorem open_tubes {fuel : Nat} {v : Value} {x : DataW H × List MemPlace} (h : DataW.trod enc Tryz.prog w 0 (fun _ => true) held fuel 22 [v] = some x) :
    ∃ a cap ts, v = .slice a (List.length (α := Tb) ts) cap ∧ Tubes w a ts ∧ Fits ts := by
  rcases open_slice Tryz.underlying22 h with ⟨hcs, _⟩ | ⟨a, len, cap, m, n, D, Pl, hcs, _, hl, hm, hme, _, hel⟩
  · simp at hcs
    exact ⟨none, 0, [], by simpa using hcs, fun k hk => by simp at hk, by simp [maxLen], fun k hk => by simp at hk⟩
  · simp at hcs hme
    subst hme
    rw [Tryz.cells35] at hel
    have each : ∀ i, i < len → ∃ t : Tb, (∀ (g o : Nat), a = ⟨g, o, none⟩ → Two w g (o + i * 2) t ∧ g < w.heap.size) ∧ Boxes w t.a t.bs ∧ t.s.size ≤ maxLen ∧ t.bs.length ≤ maxLen := by
      intro i hi
      obtain ⟨cs', hc, hr⟩ := hel i (by omega)
      obtain ⟨_, hn, hget⟩ := World.cells?_some hc
      obtain ⟨c0, c1, rfl⟩ := list2 hn
      obtain ⟨t, rfl, rfl, hs, hbl, hb⟩ := tube_cells hr
      refine ⟨t, ?_, hb, hs, hbl⟩
      rintro g o rfl
      have q0 := hget 0 (by omega)
      have q1 := hget 1 (by omega)
      simp [add_addr] at q0 q1
      exact ⟨⟨q0, q1⟩, World.block_lt_of_cell? w _ q0⟩
    obtain ⟨ts, hbl, hb⟩ := gatherT each
    refine ⟨some a, _, ts, by simpa [hbl] using hcs, fun k hk => ?_, by omega, fun k hk => ?_⟩
    · obtain ⟨g, o, sp⟩ := a
      obtain ⟨cs', hc, hr⟩ := hel 0 (by omega)
      obtain ⟨_, hn, hget⟩ := World.cells?_some hc
      obtain ⟨c0, c1, rfl⟩ := list2 hn
      have q0 := hget 0 (by omega)
      simp [Addr.add] at q0
      have hsp : sp = none := World.cell?_spot q0
      subst hsp
      obtain ⟨hx, hbx, -, -⟩ := hb k (by omega)
      obtain ⟨hx1, hg⟩ := hx g o rfl
      exact ⟨g, o, rfl, hg, hx1, hbx⟩
    · obtain ⟨-, -, h3, h4⟩ := hb k (by omega)
      exact ⟨h3, h4⟩
end
end Go.Proofs.YtpdcgjkfilohcabGreat
