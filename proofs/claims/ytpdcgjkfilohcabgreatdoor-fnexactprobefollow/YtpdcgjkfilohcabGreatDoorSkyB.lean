import Derived.Test.YtpdcgjkfilohcabGreatDoorSky
import Derived.Test.YtpdcgjkfilohcabGreatDoorLawTubeOk
namespace Go.Proofs.YtpdcgjkfilohcabGreatDoor
open Go.RowKit
attribute [local go_sem ↓] Go.wp_at_zero Go.wp_at_succ

/-- Names and boxes as they may come in. -/
def Fits (ts : List Tb) : Prop := ts.length ≤ maxLen ∧ ∀ k, k < ts.length → (ts.getD k Tb.nil).s.size ≤ maxLen ∧ (ts.getD k Tb.nil).bs.length ≤ maxLen

set_option maxHeartbeats 1000000 in
theorem szTubeS_any (a : Option Addr) (cap : Nat) (ts : List Tb) (w : World) (ha : Tubes w a ts) (hF : Fits ts) :
    Calls Tryz.prog 6 #[.slice a ts.length cap, .int .i64 1048576] w fun e w' => (∃ v : Int, e = .returned (.int .i64 v) ∧ (¬ v < 0 → Small ts)) ∧ Gr w w' := by
  have hl : ts.length ≤ 2 ^ 63 - 1 := hF.1
  by_cases h : (1048576 : Int) - ts.length < 0
  · go_enter Tryz.func6, Tryz.ntmps6
    go_wp2
    go_ret
    exact ⟨⟨-1, rfl, fun h => by exfalso; omega⟩, Gr.refl _⟩
  have hn : ts.length ≤ 1048576 := by omega
  go_enter Tryz.func6, Tryz.ntmps6
  go_wp2
  go_loopw [1, 5] (fun q i wr => ∃ (k : Nat) (v : Int), k ≤ ts.length ∧ i = .int .i64 k ∧ q = .int .i64 v ∧ 0 ≤ v ∧ v ≤ 1048576 ∧ Gr w wr ∧ Hid (∀ j, j < k → (ts.getD j Tb.nil).s.size ≤ maxLen ∧ (ts.getD j Tb.nil).bs.length ≤ 1048576)) (fun _ i _ => ts.length - (intOf i).toNat)
  case atStart => exact ⟨0, _, Nat.zero_le _, rfl, rfl, by omega, by omega, Gr.refl _, fun j hj => by omega⟩
  case round =>
    obtain ⟨k, v, hk, rfl, rfl, hv0, hv1, gr, hq⟩ := hrel
    by_cases hkl : k < ts.length
    · obtain ⟨g, o, rfl, hg, hx, hb⟩ := ha k hkl
      obtain ⟨hs, hbn⟩ := hF.2 k hkl
      have HN : Hid (¬ szT v (ts.getD k Tb.nil).s.size (ts.getD k Tb.nil).bs.length < 0 → ∀ j, j < k + 1 → (ts.getD j Tb.nil).s.size ≤ maxLen ∧ (ts.getD j Tb.nil).bs.length ≤ 1048576) := fun h j hj => by
        by_cases e : j = k
        · subst e; exact ⟨hs, (szT_le hv1 h).2.1⟩
        · exact hq.out j (by omega)
      generalize ts.getD k Tb.nil = t at *
      obtain ⟨c0, c1⟩ := two_gr hx gr hg
      clear hx hq
      by_cases hz : szT v t.s.size t.bs.length < 0
      · clear HN
        go_wp2_with (go_at_call 23; refine (szTube_any _ _ _ _ _ _ hs (by omega) (by omega) hbn).mono ?_; rintro e w1 ⟨rfl, g1⟩)
        go_ret
        exact ⟨⟨-1, rfl, fun h => by exfalso; omega⟩, gr.trans g1⟩
      · have HR : Hid (∀ j, j < k + 1 → (ts.getD j Tb.nil).s.size ≤ maxLen ∧ (ts.getD j Tb.nil).bs.length ≤ 1048576) := HN.out hz
        obtain ⟨-, -, z0, z1⟩ := szT_le hv1 hz
        clear HN
        go_wp2_with (go_at_call 23; refine (szTube_any _ _ _ _ _ _ hs (by omega) (by omega) hbn).mono ?_; rintro e w1 ⟨rfl, g1⟩)
        go_roundw
        case rel => exact ⟨k + 1, _, by omega, by go_num, rfl, z0, z1, gr.trans g1, HR⟩
        case measure => simp [intOf]; omega
    · go_wp2
      go_ret
      exact ⟨⟨v, rfl, fun _ => ⟨hn, fun j hj => hq.out j (by omega)⟩⟩, gr⟩

/-- Two cells are there, and may be written. -/
def Room2 (w : World) (g o : Nat) : Prop :=
  ((∃ v, w.cell? ⟨g, o, none⟩ = some v) ∧ w.frozen? ⟨g, o, none⟩ = false) ∧ ((∃ v, w.cell? ⟨g, o + 1, none⟩ = some v) ∧ w.frozen? ⟨g, o + 1, none⟩ = false)
theorem room2_gr {w wr : World} {g o : Nat} (h : Room2 w g o) (gr : Gr w wr) (hg : g < w.heap.size) : Room2 wr g o := by
  obtain ⟨hc, hf⟩ := gr.cells
  unfold Room2 at *
  simp only [hc g _ hg, hf g _ hg]
  exact h
def put2 (w : World) (g o : Nat) (t : Tb) : World := (w.setCell ⟨g, o, none⟩ (.string t.s)).setCell ⟨g, o + 1, none⟩ (.slice t.a t.bs.length t.cap)
theorem put2_size (w : World) (g o : Nat) (t : Tb) : (put2 w g o t).heap.size = w.heap.size := by simp [put2]
theorem put2_out (w : World) (g o : Nat) (t : Tb) (h q : Nat) (hq : h ≠ g ∨ q < o ∨ o + 1 < q) : (put2 w g o t).cell? ⟨h, q, none⟩ = w.cell? ⟨h, q, none⟩ := by
  unfold put2
  refine (cell_off _ _ _ _ _ _ (by omega)).trans ?_
  refine (cell_off _ _ _ _ _ _ (by omega)).trans ?_
  rfl
theorem put2_room {w : World} {g o : Nat} (t : Tb) {h q : Nat} (r : Room2 w h q) : Room2 (put2 w g o t) h q := by
  obtain ⟨⟨⟨v0, h0⟩, f0⟩, ⟨⟨v1, h1⟩, f1⟩⟩ := r
  have k : ∀ p : Addr, ∀ v : Value, w.cell? p = some v → ∃ v', (put2 w g o t).cell? p = some v' := fun p v hp => by
    obtain ⟨v, hp⟩ := cell?_setCell_some (p := ⟨g, o, none⟩) (x := .string t.s) hp
    exact cell?_setCell_some (p := ⟨g, o + 1, none⟩) (x := .slice t.a t.bs.length t.cap) hp
  exact ⟨⟨k _ _ h0, by simpa [put2] using f0⟩, ⟨k _ _ h1, by simpa [put2] using f1⟩⟩
theorem put2_two {w : World} {g o : Nat} (t : Tb) (r : Room2 w g o) : Two (put2 w g o t) g o t := by
  obtain ⟨⟨⟨v0, h0⟩, f0⟩, ⟨⟨v1, h1⟩, f1⟩⟩ := r
  refine ⟨?_, ?_⟩ <;> unfold put2
  · refine (cell_off _ _ _ _ _ _ (by omega)).trans ?_
    exact World.cell?_setCell_same _ _ _ h0
  · refine World.cell?_setCell_same _ _ _ (u := v1) ?_
    refine (cell_off _ _ _ _ _ _ (by omega)).trans ?_
    exact h1
theorem put2_gr {a w : World} (h : Gr a w) {g o : Nat} (hg : a.heap.size ≤ g) (t : Tb) : Gr a (put2 w g o t) :=
  (h.setCell (p := ⟨g, o, none⟩) hg _).setCell (p := ⟨g, o + 1, none⟩) hg _
theorem boxes_put2 {w : World} {g o : Nat} {t : Tb} {a : Option Addr} {bs : List Bx} (h : Boxes w a bs) (hne : ∀ q r sp, a = some ⟨q, r, sp⟩ → g < q) : Boxes (put2 w g o t) a bs := fun k hk => by
  obtain ⟨q, r, e, hq, hx⟩ := h k hk
  have hgq := hne _ _ _ e
  refine ⟨q, r, e, by rw [put2_size]; exact hq, ?_⟩
  have c : ∀ x, (put2 w g o t).cell? ⟨q, x, none⟩ = w.cell? ⟨q, x, none⟩ := fun x => put2_out _ _ _ _ _ _ (Or.inl (by omega))
  unfold Six at *
  simp only [c]
  exact hx

theorem room2_made {w : World} {base g n cap : Nat} {e : TypeId} {xs : List Value} (h : w.ownsRow base e 2 (.slice (some ⟨g, 0, none⟩) n cap) n xs) : g < w.heap.size ∧ ∀ k, k < n → Room2 w g (k * 2) := by
  have hlen := h.1
  have cell : ∀ q, q < n * 2 → (∃ v, w.cell? ⟨g, q, none⟩ = some v) ∧ w.frozen? ⟨g, q, none⟩ = false := fun q hq =>
    ⟨⟨_, (h.cellAt q hq).trans (List.getElem?_eq_getElem (by omega))⟩, h.frozenAt q⟩
  refine ⟨?_, fun k hk => ⟨cell _ (by omega), cell _ (by omega)⟩⟩
  rcases h.2 with ⟨h', _⟩ | ⟨g', cap', cur, h', _, hg, _⟩
  · simp at h'
  · simp only [Value.slice.injEq, Option.some.injEq, Addr.mk.injEq, and_true, true_and] at h'
    obtain ⟨rfl, _⟩ := h'
    rcases Nat.lt_or_ge g w.heap.size with hlt | hge
    · exact hlt
    · rw [Array.getElem?_eq_none hge] at hg; simp at hg

theorem Tryz.info43 : (Tryz.prog.info? 43).map (fun i => (i.zero, i.size, i.bytes)) = some (some (.agg #[.string ⟨#[]⟩, .slice none 0 0]), 2, 40) := by kernel_rfl

/-- Copies of the first tubes lie in block g. -/
def Copied (wr : World) (g : Nat) (ts us : List Tb) : Prop :=
  ∀ j, j < us.length → Two wr g (j * 2) (us.getD j Tb.nil) ∧ Boxes wr (us.getD j Tb.nil).a (us.getD j Tb.nil).bs ∧ (us.getD j Tb.nil).s = (ts.getD j Tb.nil).s ∧ (us.getD j Tb.nil).bs = (ts.getD j Tb.nil).bs ∧ ∀ q r sp, (us.getD j Tb.nil).a = some ⟨q, r, sp⟩ → g < q

theorem copied_next {w wr w2 : World} {ts us : List Tb} {g n : Nat} {u : Tb} (gr : Gr w wr) (hg : w.heap.size ≤ g) (hl : g < wr.heap.size) (g2 : Gr wr w2) (hr : ∀ j, j < n → Room2 wr g (j * 2)) (hk : us.length < n) (hc : Copied wr g ts us)
    (hu : Boxes w2 u.a u.bs) (hs : u.s = (ts.getD us.length Tb.nil).s) (hb : u.bs = (ts.getD us.length Tb.nil).bs) (ho : ∀ q r sp, u.a = some ⟨q, r, sp⟩ → g < q) :
    Gr w (put2 w2 g (us.length * 2) u) ∧ g < (put2 w2 g (us.length * 2) u).heap.size ∧ (∀ j, j < n → Room2 (put2 w2 g (us.length * 2) u) g (j * 2)) ∧ Copied (put2 w2 g (us.length * 2) u) g ts (us ++ [u]) := by
  refine ⟨put2_gr (gr.trans g2) hg u, by rw [put2_size]; have := g2.size; omega, fun j hj => put2_room u (room2_gr (hr j hj) g2 hl), fun j hj => ?_⟩
  rw [List.length_append] at hj
  simp only [List.length_cons, List.length_nil] at hj
  by_cases e : j = us.length
  · subst e
    have e1 : (us ++ [u]).getD us.length Tb.nil = u := by simp [List.getD]
    rw [e1]
    exact ⟨put2_two u (room2_gr (hr _ hk) g2 hl), boxes_put2 hu ho, hs, hb, ho⟩
  · have e1 : (us ++ [u]).getD j Tb.nil = us.getD j Tb.nil := by simp [List.getD, List.getElem?_append_left (show j < us.length by omega)]
    rw [e1]
    obtain ⟨h1, h2, h3, h4, h5⟩ := hc j (by omega)
    have h1' := two_gr h1 g2 hl
    exact ⟨⟨(put2_out _ _ _ _ _ _ (by omega)).trans h1'.1, (put2_out _ _ _ _ _ _ (by omega)).trans h1'.2⟩, boxes_put2 (boxes_gr h2 g2) h5, h3, h4, h5⟩

set_option maxHeartbeats 2000000 in
theorem toTubeS_any (a : Option Addr) (cap : Nat) (ts : List Tb) (w : World) (ha : Tubes w a ts) (hS : Small ts) :
    Calls Tryz.prog 10 #[.slice a ts.length cap] w fun e w' => (∃ g us, e = .returned (.slice (some ⟨g, 0, none⟩) (List.length (α := Tb) us) us.length) ∧ Like us ts ∧ Tubes w' (some ⟨g, 0, none⟩) us ∧ w.heap.size ≤ g) ∧ Gr w w' := by
  obtain ⟨i0, hi, hz0, hz1, hz2⟩ := info_parts Tryz.info43
  have hn := hS.1
  go_enter Tryz.func10, Tryz.ntmps10
  go_wp2_with (first
    | (at_make; refine wpList_make_full _ rfl _ _ 39 rfl w.heap.size 43 i0 _ 2 Tryz.underlying39 hi hz0 hz1 .i64 .i64 _ _ ts.length rfl rfl rfl rfl (by rw [hz2]; omega) (by unfold maxLen; omega) (Nat.le_refl _) ?_; intro w1 hown hgrow))
  have g0 : Gr w w1 := Below.grown (Below.refl _ _) hgrow (Nat.le_refl _) (fun k hk => by cases hk)
  obtain ⟨hlt, hroom⟩ := room2_made hown
  clear hown hgrow hi hz0 hz1 hz2
  go_loopw [4] (fun i wr => ∃ us : List Tb, us.length ≤ ts.length ∧ i = .int .i64 us.length ∧ Gr w wr ∧ w.heap.size < wr.heap.size ∧ (∀ j, j < ts.length → Room2 wr w.heap.size (j * 2)) ∧ Hid (Copied wr w.heap.size ts us)) (fun i _ => ts.length - (intOf i).toNat)
  case atStart => exact ⟨[], Nat.zero_le _, rfl, g0, hlt, hroom, fun j hj => by simp at hj⟩
  case round =>
    obtain ⟨us, hk, rfl, gr, hl, hr, hq⟩ := hrel
    by_cases hkl : us.length < ts.length
    · obtain ⟨g, o, rfl, hg, hx, hb⟩ := ha us.length hkl
      obtain ⟨hs, hbn⟩ := hS.2 us.length hkl
      have hrk := hr us.length hkl
      obtain ⟨t, ht⟩ : ∃ t, t = ts.getD us.length Tb.nil := ⟨_, rfl⟩
      rw [← ht] at hx hb hs hbn
      have HT : Hid (t = ts.getD us.length Tb.nil) := ht
      have HR : Hid (∀ j, j < ts.length → Room2 wr w.heap.size (j * 2)) := hr
      obtain ⟨c0, c1⟩ := two_gr hx gr hg
      obtain ⟨⟨⟨u0, r0⟩, f0⟩, ⟨⟨u1, r1⟩, f1⟩⟩ := hrk
      clear ht hr hx
      go_wp2_with (first
        | (go_at_call 27; refine (toTube_any _ _ _ t.bs _ (boxes_gr hb gr) hbn).mono ?_; rintro e w2 ⟨⟨gq, rfl, hO⟩, g2⟩; obtain ⟨hc, hf⟩ := g2.cells))
      have R := copied_next (u := ⟨t.s, some ⟨gq, 0, none⟩, t.bs.length, t.bs⟩) gr (Nat.le_refl _) hl g2 HR.out hkl hq.out hO.2.2.2 (by rw [← HT.out]) (by rw [← HT.out]) (fun q r sp e => by simp at e; have := hO.1; omega)
      go_roundw
      case rel => exact ⟨us ++ [(⟨t.s, some ⟨gq, 0, none⟩, t.bs.length, t.bs⟩ : Tb)], by rw [List.length_append]; simp only [List.length_cons, List.length_nil]; omega, congrArg (Value.int .i64) (by rw [List.length_append]; simp), R.1, R.2.1, R.2.2.1, R.2.2.2⟩
      case measure => simp [intOf]; omega
    · have e : us.length = ts.length := by omega
      go_wp2
      go_ret
      refine ⟨⟨w.heap.size, us, by rw [e]; rfl, ⟨e, fun k hk => ?_⟩, fun k hk => ?_, Nat.le_refl _⟩, gr⟩
      · obtain ⟨-, -, h3, h4, -⟩ := hq.out k (by omega)
        exact ⟨h3, h4⟩
      · obtain ⟨h1, h2, -, -, -⟩ := hq.out k hk
        exact ⟨_, _, rfl, hl, by rw [Nat.zero_add]; exact h1, h2⟩

end Go.Proofs.YtpdcgjkfilohcabGreatDoor
