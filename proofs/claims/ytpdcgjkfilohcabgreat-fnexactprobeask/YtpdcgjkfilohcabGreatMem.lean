import Derived.Test.YtpdcgjkfilohcabGreatCloseC
namespace Go.Proofs.YtpdcgjkfilohcabGreat
open Go.RowKit

/-- A box lies in six cells of block g from o on. -/
def Six (w : World) (g o : Nat) (b : Bx) : Prop :=
  w.cell? ⟨g, o, none⟩ = some (.int .i64 b.x) ∧ w.cell? ⟨g, o + 1, none⟩ = some (.int .i64 b.y) ∧ w.cell? ⟨g, o + 2, none⟩ = some (.int .i64 b.l) ∧
  w.cell? ⟨g, o + 3, none⟩ = some (.int .i64 b.h) ∧ w.cell? ⟨g, o + 4, none⟩ = some (.int .i64 b.i) ∧ w.cell? ⟨g, o + 5, none⟩ = some (.int .i64 b.o)
def Bx.nil : Bx := ⟨0, 0, 0, 0, 0, 0⟩
/-- The boxes bs lie one behind the other from an address on. -/
def Boxes (w : World) (a : Option Addr) (bs : List Bx) : Prop :=
  ∀ k, k < bs.length → ∃ g o, a = some ⟨g, o, none⟩ ∧ g < w.heap.size ∧ Six w g (o + k * 6) (bs.getD k Bx.nil)
/-- Six cells are there, and may be written. -/
def Room (w : World) (g o : Nat) : Prop :=
  ((∃ v, w.cell? ⟨g, o, none⟩ = some v) ∧ w.frozen? ⟨g, o, none⟩ = false) ∧ ((∃ v, w.cell? ⟨g, o + 1, none⟩ = some v) ∧ w.frozen? ⟨g, o + 1, none⟩ = false) ∧
  ((∃ v, w.cell? ⟨g, o + 2, none⟩ = some v) ∧ w.frozen? ⟨g, o + 2, none⟩ = false) ∧ ((∃ v, w.cell? ⟨g, o + 3, none⟩ = some v) ∧ w.frozen? ⟨g, o + 3, none⟩ = false) ∧
  ((∃ v, w.cell? ⟨g, o + 4, none⟩ = some v) ∧ w.frozen? ⟨g, o + 4, none⟩ = false) ∧ ((∃ v, w.cell? ⟨g, o + 5, none⟩ = some v) ∧ w.frozen? ⟨g, o + 5, none⟩ = false)

theorem six_gr {w wr : World} {g o : Nat} {b : Bx} (h : Six w g o b) (gr : Gr w wr) (hg : g < w.heap.size) : Six wr g o b := by
  obtain ⟨hc, _⟩ := gr.cells
  unfold Six at *
  simp only [hc g _ hg]
  exact h
theorem room_gr {w wr : World} {g o : Nat} (h : Room w g o) (gr : Gr w wr) (hg : g < w.heap.size) : Room wr g o := by
  obtain ⟨hc, hf⟩ := gr.cells
  unfold Room at *
  simp only [hc g _ hg, hf g _ hg]
  exact h
theorem cell_off (w : World) (g o : Nat) (v : Value) (h q : Nat) (hne : h ≠ g ∨ q ≠ o) : (w.setCell ⟨g, o, none⟩ v).cell? ⟨h, q, none⟩ = w.cell? ⟨h, q, none⟩ :=
  World.cell?_setCell_other w ⟨g, o, none⟩ ⟨h, q, none⟩ v (by simp; omega)
/-- A box stored into six cells. -/
def put6 (w : World) (g o : Nat) (b : Bx) : World :=
  (((((w.setCell ⟨g, o, none⟩ (.int .i64 b.x)).setCell ⟨g, o + 1, none⟩ (.int .i64 b.y)).setCell ⟨g, o + 2, none⟩ (.int .i64 b.l)).setCell ⟨g, o + 3, none⟩ (.int .i64 b.h)).setCell ⟨g, o + 4, none⟩ (.int .i64 b.i)).setCell ⟨g, o + 5, none⟩ (.int .i64 b.o)
theorem put6_size (w : World) (g o : Nat) (b : Bx) : (put6 w g o b).heap.size = w.heap.size := by simp [put6]
theorem put6_frozen (w : World) (g o : Nat) (b : Bx) (p : Addr) : (put6 w g o b).frozen? p = w.frozen? p := by simp [put6]
theorem put6_out (w : World) (g o : Nat) (b : Bx) (h q : Nat) (hq : h ≠ g ∨ q < o ∨ o + 5 < q) : (put6 w g o b).cell? ⟨h, q, none⟩ = w.cell? ⟨h, q, none⟩ := by
  unfold put6
  refine (cell_off _ _ _ _ _ _ (by omega)).trans ?_
  refine (cell_off _ _ _ _ _ _ (by omega)).trans ?_
  refine (cell_off _ _ _ _ _ _ (by omega)).trans ?_
  refine (cell_off _ _ _ _ _ _ (by omega)).trans ?_
  refine (cell_off _ _ _ _ _ _ (by omega)).trans ?_
  refine (cell_off _ _ _ _ _ _ (by omega)).trans ?_
  rfl
theorem put6_some (w : World) (g o : Nat) (b : Bx) (p : Addr) (h : ∃ v, w.cell? p = some v) : ∃ v, (put6 w g o b).cell? p = some v := by
  unfold put6
  obtain ⟨v, h⟩ := h
  obtain ⟨v, h⟩ := cell?_setCell_some (p := ⟨g, o, none⟩) (x := .int .i64 b.x) h
  obtain ⟨v, h⟩ := cell?_setCell_some (p := ⟨g, o + 1, none⟩) (x := .int .i64 b.y) h
  obtain ⟨v, h⟩ := cell?_setCell_some (p := ⟨g, o + 2, none⟩) (x := .int .i64 b.l) h
  obtain ⟨v, h⟩ := cell?_setCell_some (p := ⟨g, o + 3, none⟩) (x := .int .i64 b.h) h
  obtain ⟨v, h⟩ := cell?_setCell_some (p := ⟨g, o + 4, none⟩) (x := .int .i64 b.i) h
  exact cell?_setCell_some (p := ⟨g, o + 5, none⟩) (x := .int .i64 b.o) h
theorem put6_six {w : World} {g o : Nat} (b : Bx) (h : Room w g o) : Six (put6 w g o b) g o b := by
  obtain ⟨⟨h0, _⟩, ⟨h1, _⟩, ⟨h2, _⟩, ⟨h3, _⟩, ⟨h4, _⟩, ⟨h5, _⟩⟩ := h
  obtain ⟨v0, h0⟩ := h0
  obtain ⟨v1, h1⟩ := h1
  obtain ⟨v2, h2⟩ := h2
  obtain ⟨v3, h3⟩ := h3
  obtain ⟨v4, h4⟩ := h4
  obtain ⟨v5, h5⟩ := h5
  refine ⟨?_, ?_, ?_, ?_, ?_, ?_⟩ <;> unfold put6
  · refine (cell_off _ _ _ _ _ _ (by omega)).trans ?_
    refine (cell_off _ _ _ _ _ _ (by omega)).trans ?_
    refine (cell_off _ _ _ _ _ _ (by omega)).trans ?_
    refine (cell_off _ _ _ _ _ _ (by omega)).trans ?_
    refine (cell_off _ _ _ _ _ _ (by omega)).trans ?_
    exact World.cell?_setCell_same _ _ _ h0
  · refine (cell_off _ _ _ _ _ _ (by omega)).trans ?_
    refine (cell_off _ _ _ _ _ _ (by omega)).trans ?_
    refine (cell_off _ _ _ _ _ _ (by omega)).trans ?_
    refine (cell_off _ _ _ _ _ _ (by omega)).trans ?_
    refine World.cell?_setCell_same _ _ _ (u := v1) ?_
    refine (cell_off _ _ _ _ _ _ (by omega)).trans ?_
    exact h1
  · refine (cell_off _ _ _ _ _ _ (by omega)).trans ?_
    refine (cell_off _ _ _ _ _ _ (by omega)).trans ?_
    refine (cell_off _ _ _ _ _ _ (by omega)).trans ?_
    refine World.cell?_setCell_same _ _ _ (u := v2) ?_
    refine (cell_off _ _ _ _ _ _ (by omega)).trans ?_
    refine (cell_off _ _ _ _ _ _ (by omega)).trans ?_
    exact h2
  · refine (cell_off _ _ _ _ _ _ (by omega)).trans ?_
    refine (cell_off _ _ _ _ _ _ (by omega)).trans ?_
    refine World.cell?_setCell_same _ _ _ (u := v3) ?_
    refine (cell_off _ _ _ _ _ _ (by omega)).trans ?_
    refine (cell_off _ _ _ _ _ _ (by omega)).trans ?_
    refine (cell_off _ _ _ _ _ _ (by omega)).trans ?_
    exact h3
  · refine (cell_off _ _ _ _ _ _ (by omega)).trans ?_
    refine World.cell?_setCell_same _ _ _ (u := v4) ?_
    refine (cell_off _ _ _ _ _ _ (by omega)).trans ?_
    refine (cell_off _ _ _ _ _ _ (by omega)).trans ?_
    refine (cell_off _ _ _ _ _ _ (by omega)).trans ?_
    refine (cell_off _ _ _ _ _ _ (by omega)).trans ?_
    exact h4
  · refine World.cell?_setCell_same _ _ _ (u := v5) ?_
    refine (cell_off _ _ _ _ _ _ (by omega)).trans ?_
    refine (cell_off _ _ _ _ _ _ (by omega)).trans ?_
    refine (cell_off _ _ _ _ _ _ (by omega)).trans ?_
    refine (cell_off _ _ _ _ _ _ (by omega)).trans ?_
    refine (cell_off _ _ _ _ _ _ (by omega)).trans ?_
    exact h5
theorem put6_room {w : World} {g o : Nat} (b : Bx) {h q : Nat} (r : Room w h q) : Room (put6 w g o b) h q := by
  obtain ⟨⟨h0, f0⟩, ⟨h1, f1⟩, ⟨h2, f2⟩, ⟨h3, f3⟩, ⟨h4, f4⟩, ⟨h5, f5⟩⟩ := r
  exact ⟨⟨put6_some _ _ _ _ _ h0, by rw [put6_frozen]; exact f0⟩, ⟨put6_some _ _ _ _ _ h1, by rw [put6_frozen]; exact f1⟩, ⟨put6_some _ _ _ _ _ h2, by rw [put6_frozen]; exact f2⟩,
    ⟨put6_some _ _ _ _ _ h3, by rw [put6_frozen]; exact f3⟩, ⟨put6_some _ _ _ _ _ h4, by rw [put6_frozen]; exact f4⟩, ⟨put6_some _ _ _ _ _ h5, by rw [put6_frozen]; exact f5⟩⟩
theorem put6_other {w : World} {g o : Nat} (b c : Bx) {h q : Nat} (s : Six w h q c) (hq : h ≠ g ∨ q + 5 < o ∨ o + 5 < q) : Six (put6 w g o b) h q c := by
  obtain ⟨h0, h1, h2, h3, h4, h5⟩ := s
  exact ⟨(put6_out _ _ _ _ _ _ (by omega)).trans h0, (put6_out _ _ _ _ _ _ (by omega)).trans h1, (put6_out _ _ _ _ _ _ (by omega)).trans h2,
    (put6_out _ _ _ _ _ _ (by omega)).trans h3, (put6_out _ _ _ _ _ _ (by omega)).trans h4, (put6_out _ _ _ _ _ _ (by omega)).trans h5⟩
theorem put6_gr {a w : World} (h : Gr a w) {g o : Nat} (hg : a.heap.size ≤ g) (b : Bx) : Gr a (put6 w g o b) :=
  (((((h.setCell (p := ⟨g, o, none⟩) hg _).setCell (p := ⟨g, o + 1, none⟩) hg _).setCell (p := ⟨g, o + 2, none⟩) hg _).setCell (p := ⟨g, o + 3, none⟩) hg _).setCell (p := ⟨g, o + 4, none⟩) hg _).setCell (p := ⟨g, o + 5, none⟩) hg _

/-- Behind a round that has laid box number k. -/
theorem laid_next {w wr w2 : World} {bs : List Bx} {g k : Nat} {b : Bx} (hb : b = bs.getD k Bx.nil) (hk : k < bs.length) (gr : Gr w wr) (hg : w.heap.size ≤ g) (hl : g < wr.heap.size) (g2 : Gr wr w2)
    (hr : ∀ j, j < bs.length → Room wr g (j * 6)) (hs : ∀ j, j < k → Six wr g (j * 6) (bs.getD j Bx.nil)) :
    Gr w (put6 w2 g (k * 6) b) ∧ g < (put6 w2 g (k * 6) b).heap.size ∧ (∀ j, j < bs.length → Room (put6 w2 g (k * 6) b) g (j * 6)) ∧ ∀ j, j < k + 1 → Six (put6 w2 g (k * 6) b) g (j * 6) (bs.getD j Bx.nil) := by
  refine ⟨put6_gr (gr.trans g2) hg b, by rw [put6_size]; have := g2.size; omega, fun j hj => put6_room b (room_gr (hr j hj) g2 hl), fun j hj => ?_⟩
  by_cases e : j = k
  · subst e; rw [← hb]; exact put6_six b (room_gr (hr j hk) g2 hl)
  · exact put6_other b _ (six_gr (hs j (by omega)) g2 hl) (by omega)

/-- What is made by make([]impl.ProbeBox, n) has room. -/
theorem room_made {w : World} {base g n cap : Nat} {e : TypeId} {xs : List Value} (h : w.ownsRow base e 6 (.slice (some ⟨g, 0, none⟩) n cap) n xs) : g < w.heap.size ∧ base ≤ g ∧ ∀ k, k < n → Room w g (k * 6) := by
  have hlen := h.1
  have cell : ∀ q, q < n * 6 → (∃ v, w.cell? ⟨g, q, none⟩ = some v) ∧ w.frozen? ⟨g, q, none⟩ = false := fun q hq =>
    ⟨⟨_, (h.cellAt q hq).trans (List.getElem?_eq_getElem (by omega))⟩, h.frozenAt q⟩
  refine ⟨?_, ?_, fun k hk => ⟨cell _ (by omega), cell _ (by omega), cell _ (by omega), cell _ (by omega), cell _ (by omega), cell _ (by omega)⟩⟩
  · rcases h.2 with ⟨h', _⟩ | ⟨g', cap', cur, h', _, hg, _⟩
    · simp at h'
    · simp only [Value.slice.injEq, Option.some.injEq, Addr.mk.injEq, and_true, true_and] at h'
      obtain ⟨rfl, _⟩ := h'
      rcases Nat.lt_or_ge g w.heap.size with hlt | hge
      · exact hlt
      · rw [Array.getElem?_eq_none hge] at hg; simp at hg
  · rcases h.2 with ⟨h', _⟩ | ⟨g', cap', cur, h', hb, hg, _⟩
    · simp at h'
    · simp only [Value.slice.injEq, Option.some.injEq, Addr.mk.injEq, and_true, true_and] at h'
      obtain ⟨rfl, _⟩ := h'
      exact hb

theorem Tryz.info77 : (Tryz.prog.info? 77).map (fun i => (i.zero, i.size, i.bytes)) = some (some (.agg #[.int .i64 0, .int .i64 0, .int .i64 0, .int .i64 0, .int .i64 0, .int .i64 0]), 6, 48) := by kernel_rfl

set_option maxHeartbeats 1000000 in
theorem toBoxS_any (a : Option Addr) (cap : Nat) (bs : List Bx) (w : World) (ha : Boxes w a bs) (hn : bs.length ≤ 1048576) :
    Calls Tryz.prog 44 #[.slice a bs.length cap] w fun e w' => e = .returned (.slice (some ⟨w.heap.size, 0, none⟩) bs.length bs.length) ∧ Gr w w' ∧ w.heap.size < w'.heap.size ∧ (∀ j, j < bs.length → Room w' w.heap.size (j * 6)) ∧ Boxes w' (some ⟨w.heap.size, 0, none⟩) bs := by
  obtain ⟨i0, hi, hz0, hz1, hz2⟩ := info_parts Tryz.info77
  go_enter Tryz.func44, Tryz.ntmps44
  go_wp2_with (first
    | (at_make; refine wpList_make_full _ rfl _ _ 38 rfl w.heap.size 77 i0 _ 6 Tryz.underlying38 hi hz0 hz1 .i64 .i64 _ _ bs.length rfl rfl rfl rfl (by rw [hz2]; omega) (by unfold maxLen; omega) (Nat.le_refl _) ?_; intro w1 hown hgrow))
  have g0 : Gr w w1 := Below.grown (Below.refl _ _) hgrow (Nat.le_refl _) (fun k hk => by cases hk)
  obtain ⟨hlt, -, hroom⟩ := room_made hown
  clear hown hgrow hi hz0 hz1 hz2
  go_loopw [4] (fun i wr => ∃ k : Nat, k ≤ bs.length ∧ i = .int .i64 k ∧ Gr w wr ∧ w.heap.size < wr.heap.size ∧ (∀ j, j < bs.length → Room wr w.heap.size (j * 6)) ∧ ∀ j, j < k → Six wr w.heap.size (j * 6) (bs.getD j Bx.nil)) (fun i _ => bs.length - (intOf i).toNat)
  case atStart => exact ⟨0, Nat.zero_le _, rfl, g0, hlt, hroom, fun j hj => by omega⟩
  case round =>
    obtain ⟨k, hk, rfl, gr, hl, hr, hs⟩ := hrel
    by_cases hkl : k < bs.length
    · obtain ⟨g, o, rfl, hg, hx⟩ := ha k hkl
      have hrk := hr k hkl
      obtain ⟨b, hb⟩ : ∃ b, b = bs.getD k Bx.nil := ⟨_, rfl⟩
      rw [← hb] at hx
      have HB : Hid (b = bs.getD k Bx.nil) := hb
      have HR : Hid (∀ j, j < bs.length → Room wr w.heap.size (j * 6)) := hr
      have HS : Hid (∀ j, j < k → Six wr w.heap.size (j * 6) (bs.getD j Bx.nil)) := hs
      obtain ⟨c0, c1, c2, c3, c4, c5⟩ := six_gr hx gr hg
      obtain ⟨⟨⟨u0, r0⟩, f0⟩, ⟨⟨u1, r1⟩, f1⟩, ⟨⟨u2, r2⟩, f2⟩, ⟨⟨u3, r3⟩, f3⟩, ⟨⟨u4, r4⟩, f4⟩, ⟨⟨u5, r5⟩, f5⟩⟩ := hrk
      clear hb hr hs hx
      go_wp2_with (first
        | (go_at_call 76; refine (toBox_any _ _ _ _ _ _ _).mono ?_; rintro e w2 ⟨rfl, g2⟩; obtain ⟨hc, hf⟩ := g2.cells))
      have R := laid_next HB.out hkl gr (Nat.le_refl _) hl g2 HR.out HS.out
      go_roundw
      case rel => exact ⟨k + 1, by omega, by go_num, R.1, R.2.1, R.2.2.1, R.2.2.2⟩
      case measure => simp [intOf]; omega
    · go_wp2
      go_ret
      refine ⟨rfl, gr, hl, hr, fun j hj => ⟨_, _, rfl, hl, ?_⟩⟩
      rw [Nat.zero_add]
      exact hs j (by omega)
end Go.Proofs.YtpdcgjkfilohcabGreat
