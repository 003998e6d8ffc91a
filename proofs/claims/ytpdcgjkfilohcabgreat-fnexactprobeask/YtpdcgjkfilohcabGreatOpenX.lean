import Derived.Test.YtpdcgjkfilohcabGreatOpenS
import Derived.Test.YtpdcgjkfilohcabGreatIdxVW
namespace Go.Proofs.YtpdcgjkfilohcabGreat
open Go.ChangeShapes Go.WideShapes Go.ChangeAt Go.RowKit Go.Joins Go.Deep
set_option linter.unusedSimpArgs false
set_option linter.unusedVariables false

/-! An index of the laws, opened. -/

theorem Tryz.cells241 : Tryz.prog.cellsOf 241 = 6 := by kernel_rfl
theorem Tryz.cells152 : Tryz.prog.cellsOf 152 = 3 := by kernel_rfl
theorem Tryz.cells54 : Tryz.prog.cellsOf 54 = 1 := by kernel_rfl
theorem Tryz.cells150 : Tryz.prog.cellsOf 150 = 1 := by kernel_rfl
theorem Tryz.cells52 : Tryz.prog.cellsOf 52 = 1 := by kernel_rfl
theorem list3 {α : Type} {l : List α} (h : l.length = 3) : ∃ c0 c1 c2, l = [c0, c1, c2] := by
  match l, h with
  | [c0, c1, c2], _ => exact ⟨c0, c1, c2, rfl⟩
theorem list1 {α : Type} {l : List α} (h : l.length = 1) : ∃ c0, l = [c0] := by
  match l, h with
  | [c0], _ => exact ⟨c0, rfl⟩
theorem gatherS {n : Nat} {p : Nat → Sl → Prop} (h : ∀ i, i < n → ∃ b, p i b) : ∃ bs : List Sl, bs.length = n ∧ ∀ i, i < n → p i (bs.getD i Sl.nil) := by
  induction n with
  | zero => exact ⟨[], rfl, fun i hi => absurd hi (Nat.not_lt_zero _)⟩
  | succ n ih =>
    obtain ⟨bs, hl, hb⟩ := ih (fun i hi => h i (Nat.lt_succ_of_lt hi))
    obtain ⟨b, hp⟩ := h n (Nat.lt_succ_self n)
    refine ⟨bs ++ [b], by simp [hl], fun i hi => ?_⟩
    rcases Nat.lt_succ_iff_lt_or_eq.1 hi with hlt | rfl
    · have := hb i hlt
      simpa [List.getD, List.getElem?_append_left (show i < bs.length by omega)] using this
    · subst hl
      simpa [List.getD] using hp
theorem gatherC {n : Nat} {p : Nat → Ce → Prop} (h : ∀ i, i < n → ∃ b, p i b) : ∃ bs : List Ce, bs.length = n ∧ ∀ i, i < n → p i (bs.getD i Ce.nil) := by
  induction n with
  | zero => exact ⟨[], rfl, fun i hi => absurd hi (Nat.not_lt_zero _)⟩
  | succ n ih =>
    obtain ⟨bs, hl, hb⟩ := ih (fun i hi => h i (Nat.lt_succ_of_lt hi))
    obtain ⟨b, hp⟩ := h n (Nat.lt_succ_self n)
    refine ⟨bs ++ [b], by simp [hl], fun i hi => ?_⟩
    rcases Nat.lt_succ_iff_lt_or_eq.1 hi with hlt | rfl
    · have := hb i hlt
      simpa [List.getD, List.getElem?_append_left (show i < bs.length by omega)] using this
    · subst hl
      simpa [List.getD] using hp

section
variable {H : Type} {enc : TypeId × Value → H} {w : World} {held : Bool}

/-- Six cells that read as a slot of the laws. -/
theorem slot_cells {fuel : Nat} {c0 c1 c2 c3 c4 c5 : Value} {x : DataW H × List MemPlace} (h : DataW.trod enc Tryz.prog w 0 (fun _ => true) held fuel 241 [c0, c1, c2, c3, c4, c5] = some x) :
    ∃ s : Sl, c0 = .int .i64 s.i ∧ c1 = .int .i64 s.o ∧ c2 = .int .i64 s.l ∧ c3 = .int .i64 s.h ∧ c4 = .string s.s ∧ c5 = .int .i64 s.p ∧ s.s.size ≤ maxLen := by
  obtain ⟨xs, n, _, rfl, hl, hlen, hf⟩ := DataW.trod_struct Tryz.underlying241 h
  obtain ⟨y0, y1, y2, y3, y4, y5, rfl⟩ := list6 hlen
  have f0 := hf 0 _ rfl
  have f1 := hf 1 _ rfl
  have f2 := hf 2 _ rfl
  have f3 := hf 3 _ rfl
  have f4 := hf 4 _ rfl
  have f5 := hf 5 _ rfl
  simp [Tryz.cells3, Tryz.cells9] at f0 f1 f2 f3 f4 f5
  obtain ⟨a0, e0, _, w0⟩ := DataW.trod_int Tryz.underlying3 f0
  obtain ⟨a1, e1, _, w1⟩ := DataW.trod_int Tryz.underlying3 f1
  obtain ⟨a2, e2, _, w2⟩ := DataW.trod_int Tryz.underlying3 f2
  obtain ⟨a3, e3, _, w3⟩ := DataW.trod_int Tryz.underlying3 f3
  obtain ⟨a4, e4, _, w4⟩ := DataW.trod_string Tryz.underlying9 f4
  obtain ⟨a5, e5, _, w5⟩ := DataW.trod_int Tryz.underlying3 f5
  simp at e0 e1 e2 e3 e4 e5
  exact ⟨⟨a0, a1, a2, a3, a4, a5⟩, e0, e1, e2, e3, e4, e5, w4⟩
/-- A slice of slots, opened. -/
theorem open_slots {fuel : Nat} {v : Value} {x : DataW H × List MemPlace} (h : DataW.trod enc Tryz.prog w 0 (fun _ => true) held fuel 150 [v] = some x) :
    ∃ a cap ss, v = .slice a (List.length (α := Sl) ss) cap ∧ ss.length ≤ maxLen ∧ Slots w a ss ∧ ∀ j, j < ss.length → (ss.getD j Sl.nil).s.size ≤ maxLen := by
  rcases open_slice Tryz.underlying150 h with ⟨hcs, _⟩ | ⟨a, len, cap, m, n, D, Pl, hcs, _, hl, hm, hme, _, hel⟩
  · simp at hcs
    exact ⟨none, 0, [], by simpa using hcs, by simp [maxLen], fun k hk => by simp at hk, fun j hj => by simp at hj⟩
  · simp at hcs hme
    subst hme
    rw [Tryz.cells241] at hel
    have each : ∀ i, i < len → ∃ b : Sl, (∀ (g o : Nat), a = ⟨g, o, none⟩ → SixS w g (o + i * 6) b ∧ g < w.heap.size) ∧ b.s.size ≤ maxLen := by
      intro i hi
      obtain ⟨cs', hc, hr⟩ := hel i (by omega)
      obtain ⟨_, hn, hget⟩ := World.cells?_some hc
      obtain ⟨c0, c1, c2, c3, c4, c5, rfl⟩ := list6 hn
      obtain ⟨s, rfl, rfl, rfl, rfl, rfl, rfl, hs⟩ := slot_cells hr
      refine ⟨s, ?_, hs⟩
      rintro g o rfl
      have q0 := hget 0 (by omega)
      have q1 := hget 1 (by omega)
      have q2 := hget 2 (by omega)
      have q3 := hget 3 (by omega)
      have q4 := hget 4 (by omega)
      have q5 := hget 5 (by omega)
      simp [add_addr] at q0 q1 q2 q3 q4 q5
      exact ⟨⟨q0, q1, q2, q3, q4, q5⟩, World.block_lt_of_cell? w _ q0⟩
    obtain ⟨bs, hbl, hb⟩ := gatherS each
    refine ⟨some a, _, bs, by simpa [hbl] using hcs, by omega, fun k hk => ?_, fun k hk => (hb k (by omega)).2⟩
    obtain ⟨g, o, sp⟩ := a
    obtain ⟨cs', hc, hr⟩ := hel 0 (by omega)
    obtain ⟨_, hn, hget⟩ := World.cells?_some hc
    obtain ⟨c0, c1, c2, c3, c4, c5, rfl⟩ := list6 hn
    have q0 := hget 0 (by omega)
    simp [Addr.add] at q0
    have hsp : sp = none := World.cell?_spot q0
    subst hsp
    obtain ⟨hx, hg⟩ := (hb k (by omega)).1 g o rfl
    exact ⟨g, o, rfl, hg, hx⟩
/-- Three cells that read as a cell of the laws. -/
theorem cell_cells {fuel : Nat} {c0 c1 c2 : Value} {x : DataW H × List MemPlace} (h : DataW.trod enc Tryz.prog w 0 (fun _ => true) held fuel 152 [c0, c1, c2] = some x) :
    ∃ c : Ce, c0 = .int .i64 c.x ∧ c1 = .int .i64 c.y ∧ c2 = .slice c.a c.ss.length c.cap ∧ Wk (c.x, c.y) ∧ c.ss.length ≤ maxLen ∧ Slots w c.a c.ss ∧ ∀ j, j < c.ss.length → (c.ss.getD j Sl.nil).s.size ≤ maxLen := by
  obtain ⟨xs, n, _, rfl, hl, hlen, hf⟩ := DataW.trod_struct Tryz.underlying152 h
  obtain ⟨y0, y1, y2, rfl⟩ := list3 hlen
  have f0 := hf 0 _ rfl
  have f1 := hf 1 _ rfl
  have f2 := hf 2 _ rfl
  simp [Tryz.cells3, Tryz.cells150] at f0 f1 f2
  obtain ⟨a0, e0, _, w0⟩ := DataW.trod_int Tryz.underlying3 f0
  obtain ⟨a1, e1, _, w1⟩ := DataW.trod_int Tryz.underlying3 f1
  obtain ⟨a, cap, ss, rfl, hsl, hsx, hss⟩ := open_slots f2
  simp at e0 e1
  subst e0 e1
  exact ⟨⟨a0, a1, a, cap, ss⟩, rfl, rfl, rfl, ⟨w0, w1⟩, hsl, hsx, hss⟩
/-- A slice of cells, opened. -/
theorem open_cells {fuel : Nat} {v : Value} {x : DataW H × List MemPlace} (h : DataW.trod enc Tryz.prog w 0 (fun _ => true) held fuel 52 [v] = some x) :
    ∃ a cap cs, v = .slice a (List.length (α := Ce) cs) cap ∧ Cells w a cs ∧ FitsX cs := by
  rcases open_slice Tryz.underlying52 h with ⟨hcs, _⟩ | ⟨a, len, cap, m, n, D, Pl, hcs, _, hl, hm, hme, _, hel⟩
  · simp at hcs
    exact ⟨none, 0, [], by simpa using hcs, fun k hk => by simp at hk, by simp [maxLen], fun k hk => by simp at hk⟩
  · simp at hcs hme
    subst hme
    rw [Tryz.cells152] at hel
    have each : ∀ i, i < len → ∃ c : Ce, (∀ (g o : Nat), a = ⟨g, o, none⟩ → CeAt w g (o + i * 3) c ∧ g < w.heap.size) ∧ Wk (c.x, c.y) ∧ c.ss.length ≤ maxLen ∧ Slots w c.a c.ss ∧ ∀ j, j < c.ss.length → (c.ss.getD j Sl.nil).s.size ≤ maxLen := by
      intro i hi
      obtain ⟨cs', hc, hr⟩ := hel i (by omega)
      obtain ⟨_, hn, hget⟩ := World.cells?_some hc
      obtain ⟨c0, c1, c2, rfl⟩ := list3 hn
      obtain ⟨c, rfl, rfl, rfl, h1, h2, h3, h4⟩ := cell_cells hr
      refine ⟨c, ?_, h1, h2, h3, h4⟩
      rintro g o rfl
      have q0 := hget 0 (by omega)
      have q1 := hget 1 (by omega)
      have q2 := hget 2 (by omega)
      simp [add_addr] at q0 q1 q2
      exact ⟨⟨q0, q1, q2⟩, World.block_lt_of_cell? w _ q0⟩
    obtain ⟨ts, hbl, hb⟩ := gatherC each
    refine ⟨some a, _, ts, by simpa [hbl] using hcs, fun k hk => ?_, by omega, fun k hk => ?_⟩
    · obtain ⟨g, o, sp⟩ := a
      obtain ⟨cs', hc, hr⟩ := hel 0 (by omega)
      obtain ⟨_, hn, hget⟩ := World.cells?_some hc
      obtain ⟨c0, c1, c2, rfl⟩ := list3 hn
      have q0 := hget 0 (by omega)
      simp [Addr.add] at q0
      have hsp : sp = none := World.cell?_spot q0
      subst hsp
      obtain ⟨hx, -, -, h3, -⟩ := hb k (by omega)
      obtain ⟨hx1, hg⟩ := hx g o rfl
      exact ⟨g, o, rfl, hg, hx1, h3⟩
    · obtain ⟨-, h1, h2, -, h4⟩ := hb k (by omega)
      exact ⟨h2, h1, h4⟩
set_option maxRecDepth 100000 in
/-- An index of the laws, by value, opened. -/
theorem open_index {r : Reach} {b0 : Nat} {v : Value} {d : DataW H} {p : List MemPlace} (hv : Value.okWide Tryz.prog w r b0 54 v) (h : DataW.Trod enc Tryz.prog w 0 (fun _ => true) held 54 v d p) :
    ∃ (a : Option Addr) (cap : Nat) (cs : List Ce), v = .agg #[.slice a cs.length cap] ∧ Cells w a cs ∧ FitsX cs := by
  obtain ⟨cs, rfl, hsz⟩ := okWide_struct Tryz.underlying54 hv
  rw [Tryz.cells54] at hsz
  obtain ⟨l⟩ := cs
  obtain ⟨c0, rfl⟩ := list1 hsz
  obtain ⟨fuel, hf⟩ := h
  obtain ⟨xs, n, _, _, hl, hlen, hf2⟩ := DataW.trod_struct Tryz.underlying54 hf
  obtain ⟨y0, rfl⟩ := list1 hlen
  have f0 := hf2 0 _ rfl
  simp [Value.cells, Tryz.cells52] at f0
  obtain ⟨a, cap, ces, rfl, hC, hF⟩ := open_cells f0
  exact ⟨a, cap, ces, rfl, hC, hF⟩
end
end Go.Proofs.YtpdcgjkfilohcabGreat
