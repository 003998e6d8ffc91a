import Derived.Test.YtpdcgjkfilohcabGreatDrawE
namespace Go.Proofs.YtpdcgjkfilohcabGreat
open Go.RowKit

/-- Two cells that may be written. -/
def PairAt (w : World) (q : Nat) : Prop := q < w.heap.size ∧ (∃ u, w.cell? ⟨q, 0, none⟩ = some u) ∧ (∃ u, w.cell? ⟨q, 1, none⟩ = some u) ∧ w.frozen? ⟨q, 0, none⟩ = false ∧ w.frozen? ⟨q, 1, none⟩ = false
/-- A tube that is a variable of the call's own: its name, and the boxes that it owns. -/
def TubV (w : World) (q base : Nat) (s : ByteArray) (v : Value) (L : List Bx) : Prop :=
  w.cell? ⟨q, 0, none⟩ = some (.string s) ∧ w.cell? ⟨q, 1, none⟩ = some v ∧ w.frozen? ⟨q, 0, none⟩ = false ∧ w.frozen? ⟨q, 1, none⟩ = false ∧ q < w.heap.size ∧ w.ownsRow base 77 6 v L.length (flat L)
theorem pair_but {r q : Nat} {w w' : World} (h : PairAt w q) (m : But r w w') (hne : q ≠ r) : PairAt w' q := by
  obtain ⟨h1, ⟨u, hu⟩, ⟨v, hv⟩, f0, f1⟩ := h
  exact ⟨Nat.lt_of_lt_of_le h1 m.size, ⟨u, (m.cell h1 hne _).trans hu⟩, ⟨v, (m.cell h1 hne _).trans hv⟩, (m.frozen h1 hne _).trans f0, (m.frozen h1 hne _).trans f1⟩
theorem pair_set {q x c : Nat} {w : World} (h : PairAt w q) (hne : q ≠ x) (u : Value) : PairAt (w.setCell ⟨x, c, none⟩ u) q := by
  obtain ⟨h1, ⟨u', hu⟩, ⟨v, hv⟩, f0, f1⟩ := h
  exact ⟨by rw [World.size_setCell]; exact h1, ⟨u', (cell_off _ _ _ _ _ _ (Or.inl hne)).trans hu⟩, ⟨v, (cell_off _ _ _ _ _ _ (Or.inl hne)).trans hv⟩, by rw [World.frozen?_setCell]; exact f0, by rw [World.frozen?_setCell]; exact f1⟩
theorem pair_new {w w1 : World} {u v : Value} {t : TypeId} (g : Gr (w.alloc (.cells #[u, v] t)) w1) : PairAt w1 w.heap.size :=
  ⟨by have := g.size; simp at this; omega, ⟨u, (g.cells.1 _ _ (by simp)).trans (by simp)⟩, ⟨v, (g.cells.1 _ _ (by simp)).trans (by simp)⟩, (g.cells.2 _ _ (by simp)).trans (by simp), (g.cells.2 _ _ (by simp)).trans (by simp)⟩
theorem owns_but {r base e size n : Nat} {w w' : World} {v : Value} {xs : List Value} (h : w.ownsRow base e size v n xs) (m : But r w w') (hb : r < base) : w'.ownsRow base e size v n xs :=
  h.kept m (Or.inr (fun e => by have := owns_block h r e; omega))
theorem tubV_but {r q base : Nat} {w w' : World} {s : ByteArray} {v : Value} {L : List Bx} (h : TubV w q base s v L) (m : But r w w') (hne : q ≠ r) (hb : r < base) : TubV w' q base s v L := by
  obtain ⟨h0, h1, f0, f1, hl, ho⟩ := h
  exact ⟨(m.cell hl hne _).trans h0, (m.cell hl hne _).trans h1, (m.frozen hl hne _).trans f0, (m.frozen hl hne _).trans f1, Nat.lt_of_lt_of_le hl m.size, owns_but ho m hb⟩
theorem tubV_set {q base x c : Nat} {w : World} {s : ByteArray} {v : Value} {L : List Bx} (h : TubV w q base s v L) (hne : q ≠ x) (hb : x < base) (u : Value) : TubV (w.setCell ⟨x, c, none⟩ u) q base s v L := by
  obtain ⟨h0, h1, f0, f1, hl, ho⟩ := h
  exact ⟨(cell_off _ _ _ _ _ _ (Or.inl hne)).trans h0, (cell_off _ _ _ _ _ _ (Or.inl hne)).trans h1, by rw [World.frozen?_setCell]; exact f0, by rw [World.frozen?_setCell]; exact f1, by rw [World.size_setCell]; exact hl, ownsRow_setCell_below ho (by exact hb) _⟩
/-- A box is put behind. -/
theorem tubV_next {q base : Nat} {w w1 : World} {s : ByteArray} {v v' : Value} {L : List Bx} {c : Bx} (h : TubV w q base s v L) (hq : q < base) (hown : w1.ownsRow base 77 6 v' (L.length + 1) (flat L ++ c.vals)) (hb : Below base w w1) : TubV (w1.setCell ⟨q, 1, none⟩ v') q base s v' (L ++ [c]) := by
  obtain ⟨h0, h1, f0, f1, hl, -⟩ := h
  refine ⟨(cell_off _ _ _ _ _ _ (by simp)).trans ((hb.cell (p := ⟨q, 0, none⟩) hq).trans h0), World.cell?_setCell_same _ _ _ ((hb.cell (p := ⟨q, 1, none⟩) hq).trans h1), by rw [World.frozen?_setCell]; exact (hb.frozen (p := ⟨q, 0, none⟩) hq).trans f0, by rw [World.frozen?_setCell]; exact (hb.frozen (p := ⟨q, 1, none⟩) hq).trans f1, by rw [World.size_setCell]; exact Nat.lt_of_lt_of_le hl hb.size, ?_⟩
  rw [flat_snoc, List.length_append]
  exact ownsRow_setCell_below hown (by exact hq) _

/-- Where the drawing of a tube stands: reader, variable b at q, result, the tube itself. -/
def TA (d : Rdr) (w : World) (s : ByteArray) (q P N : Nat) (wx : World) : Prop :=
  (∃ p, p ≤ P ∧ Rd d wx p) ∧ But d.r w wx ∧ (∃ b, Var wx q b) ∧ PairAt wx w.heap.size ∧ (∃ v L, TubV wx (w.heap.size + 1) (q + 1) s v L ∧ L.length = N) ∧ w.heap.size + 1 < q ∧ d.r < w.heap.size
theorem ta_but {d : Rdr} {w : World} {s : ByteArray} {q P N p P' : Nat} {wx w' : World} (h : TA d w s q P N wx) (hR : Rd d w' p) (hM : But d.r wx w') (hp : p ≤ P') : TA d w s q P' N w' := by
  obtain ⟨-, hM0, ⟨b, hV⟩, hP, ⟨v, L, hT, hN⟩, hq, hr⟩ := h
  exact ⟨⟨p, hp, hR⟩, hM0.trans hM, ⟨b, var_but hV hM (by omega)⟩, pair_but hP hM (by omega), ⟨v, L, tubV_but hT hM (by omega) (by omega), hN⟩, hq, hr⟩
theorem ta_gr {d : Rdr} {w : World} {s : ByteArray} {q P N : Nat} {wx w' : World} (h : TA d w s q P N wx) (g : Gr wx w') : TA d w s q P N w' := by
  obtain ⟨p, hp, hR⟩ := h.1
  exact ta_but h (rd_gr hR g) (But.of_gr g) hp
theorem ta_le {d : Rdr} {w : World} {s : ByteArray} {q P N P' : Nat} {wx : World} (h : TA d w s q P N wx) (hP : P ≤ P') : TA d w s q P' N wx := by
  obtain ⟨⟨p, hp, hR⟩, hM0, hV, hQ, ⟨v, L, hT, hL⟩, hq, hr⟩ := h
  exact ⟨⟨p, by omega, hR⟩, hM0, hV, hQ, ⟨v, L, hT, hL⟩, hq, hr⟩
theorem ta_set {d : Rdr} {w : World} {s : ByteArray} {q P N : Nat} {wx : World} (c : Nat) (x : Int) (h : TA d w s q P N wx) (hc : c < 6) : TA d w s q P N (wx.setCell ⟨q, c, none⟩ (.int .i64 x)) := by
  obtain ⟨⟨p, hp, hR⟩, hM0, ⟨b, hV⟩, hQ, ⟨v, L, hT, hL⟩, hq, hr⟩ := h
  obtain ⟨b', hV'⟩ := var_set x hV hc
  exact ⟨⟨p, hp, rd_set hR _ _ (by dsimp only; omega)⟩, but_set _ hM0 (by omega), ⟨b', hV'⟩, pair_set hQ (by omega) _, ⟨v, L, tubV_set hT (by omega) (by omega) _, hL⟩, hq, hr⟩
theorem ta_put6 {d : Rdr} {w : World} {s : ByteArray} {q P N : Nat} {wx : World} (b : Bx) (h : TA d w s q P N wx) : TA d w s q P N ((((((wx.setCell ⟨q, 0, none⟩ (.int .i64 b.x)).setCell ⟨q, 1, none⟩ (.int .i64 b.y)).setCell ⟨q, 2, none⟩ (.int .i64 b.l)).setCell ⟨q, 3, none⟩ (.int .i64 b.h)).setCell ⟨q, 4, none⟩ (.int .i64 b.i)).setCell ⟨q, 5, none⟩ (.int .i64 b.o)) :=
  ta_set 5 _ (ta_set 4 _ (ta_set 3 _ (ta_set 2 _ (ta_set 1 _ (ta_set 0 _ h (by omega)) (by omega)) (by omega)) (by omega)) (by omega)) (by omega)
theorem ta_q {d : Rdr} {w : World} {s : ByteArray} {q P N : Nat} {wx : World} (h : TA d w s q P N wx) : ∃ b : Bx, q < wx.heap.size ∧ wx.cell? ⟨q, 0, none⟩ = some (.int .i64 b.x) ∧ wx.cell? ⟨q, 1, none⟩ = some (.int .i64 b.y) ∧ wx.cell? ⟨q, 2, none⟩ = some (.int .i64 b.l) ∧ wx.cell? ⟨q, 3, none⟩ = some (.int .i64 b.h) ∧ wx.cell? ⟨q, 4, none⟩ = some (.int .i64 b.i) ∧ wx.cell? ⟨q, 5, none⟩ = some (.int .i64 b.o) ∧ wx.frozen? ⟨q, 0, none⟩ = false ∧ wx.frozen? ⟨q, 1, none⟩ = false ∧ wx.frozen? ⟨q, 2, none⟩ = false ∧ wx.frozen? ⟨q, 3, none⟩ = false ∧ wx.frozen? ⟨q, 4, none⟩ = false ∧ wx.frozen? ⟨q, 5, none⟩ = false := by
  obtain ⟨b, h1⟩ := h.2.2.1
  exact ⟨b, h1.1, h1.2.1.1, h1.2.1.2.1, h1.2.1.2.2.1, h1.2.1.2.2.2.1, h1.2.1.2.2.2.2.1, h1.2.1.2.2.2.2.2, h1.2.2⟩
theorem but_grow {r : Nat} {w wx w1 : World} {row : Option Nat} (h : But r w wx) (hg : wx.grownBy w1 row) (hrow : ∀ k, row = some k → w.heap.size ≤ k) : But r w w1 :=
  ⟨hg.os.trans h.os, hg.tape.trans h.tape, hg.output.trans h.output, Nat.le_trans h.size hg.size, fun k hk hne => (hg.block k (Nat.lt_of_lt_of_le hk h.size) (fun e => by have := hrow k e.symm; omega)).trans (h.block k hk hne)⟩
theorem ownL_but {r : Nat} {w w' w'' : World} {v : Value} {bs : List Bx} (h : OwnL w w' v bs) (m : But r w' w'') (hr : r < w.heap.size) : OwnL w w'' v bs := by
  obtain ⟨a, cap, e, h1, h2⟩ := h
  have hk : ∀ g o sp, a = some ⟨g, o, sp⟩ → w.heap.size ≤ g ∧ g < w'.heap.size := fun g o sp ea => ⟨(h1 g o sp ea).2.2.1, (h1 g o sp ea).2.2.2.1⟩
  refine ⟨a, cap, e, fun g o sp ea => ?_, fun k hkl => ?_⟩
  · obtain ⟨e0, e1, e2, e3, e4⟩ := h1 g o sp ea
    refine ⟨e0, e1, e2, Nat.lt_of_lt_of_le e3 m.size, fun k hkl => ?_⟩
    have c := fun o => m.cell e3 (by omega : g ≠ r) o
    have f := fun o => m.frozen e3 (by omega : g ≠ r) o
    have hR := e4 k hkl
    unfold Room at *
    simp only [c, f]
    exact hR
  · obtain ⟨g, o, ea, hg, hx⟩ := h2 k hkl
    have hg2 := hk g o none ea
    refine ⟨g, o, ea, Nat.lt_of_lt_of_le hg m.size, ?_⟩
    have c := fun o => m.cell hg (by omega : g ≠ r) o
    unfold Six at *
    simp only [c]
    exact hx
/-- Behind an append to the tube, and the store of it. -/
theorem ta_next {d : Rdr} {w : World} {s : ByteArray} {q P N : Nat} {wx w1 : World} {v v' : Value} {L : List Bx} {c : Bx} (h : TA d w s q P N wx) (hT : TubV wx (w.heap.size + 1) (q + 1) s v L) (hL : L.length = N) (hown : w1.ownsRow (q + 1) 77 6 v' (L.length + 1) (flat L ++ c.vals)) (hb : Below (q + 1) wx w1) (hm : But d.r w w1) : TA d w s q P (N + 1) (w1.setCell ⟨w.heap.size + 1, 1, none⟩ v') := by
  obtain ⟨⟨p, hp, hR⟩, hM0, ⟨b, hV⟩, hQ, -, hq, hr⟩ := h
  have hc : ∀ x o, x < q + 1 → w1.cell? ⟨x, o, none⟩ = wx.cell? ⟨x, o, none⟩ := fun x o hx => hb.cell (p := ⟨x, o, none⟩) hx
  have hf : ∀ x o, x < q + 1 → w1.frozen? ⟨x, o, none⟩ = wx.frozen? ⟨x, o, none⟩ := fun x o hx => hb.frozen (p := ⟨x, o, none⟩) hx
  have hsz := hb.size
  have R1 : Rd d w1 p := by
    obtain ⟨h1, h2, h3, h4, h5, h6, h7⟩ := hR
    refine ⟨fun k hk => ?_, h2, (hc _ _ (by omega)).trans h3, (hc _ _ (by omega)).trans h4, (hf _ _ (by omega)).trans h5, by omega, h7⟩
    obtain ⟨g, o, e, hgl, hcc, r0, r1⟩ := h1 k hk
    have h8 := h7 (fun e0 => by rw [e0] at hk; simp at hk) _ _ _ e
    exact ⟨g, o, e, by omega, (hc _ _ (by omega)).trans hcc, r0, r1⟩
  have V1 : Var w1 q b := by
    obtain ⟨h1, ⟨c0, c1, c2, c3, c4, c5⟩, f0, f1, f2, f3, f4, f5⟩ := hV
    exact ⟨by omega, ⟨(hc _ _ (by omega)).trans c0, (hc _ _ (by omega)).trans c1, (hc _ _ (by omega)).trans c2, (hc _ _ (by omega)).trans c3, (hc _ _ (by omega)).trans c4, (hc _ _ (by omega)).trans c5⟩, (hf _ _ (by omega)).trans f0, (hf _ _ (by omega)).trans f1, (hf _ _ (by omega)).trans f2, (hf _ _ (by omega)).trans f3, (hf _ _ (by omega)).trans f4, (hf _ _ (by omega)).trans f5⟩
  have Q1 : PairAt w1 w.heap.size := by
    obtain ⟨h1, ⟨u, hu⟩, ⟨v, hv⟩, f0, f1⟩ := hQ
    exact ⟨by omega, ⟨u, (hc _ _ (by omega)).trans hu⟩, ⟨v, (hc _ _ (by omega)).trans hv⟩, (hf _ _ (by omega)).trans f0, (hf _ _ (by omega)).trans f1⟩
  refine ⟨⟨p, hp, rd_set R1 _ _ (by dsimp only; omega)⟩, but_set _ hm (by omega), ⟨b, var_other _ V1 (by omega)⟩, pair_set Q1 (by omega) _, ⟨v', L ++ [c], tubV_next hT (by omega) hown hb, by simp; omega⟩, hq, hr⟩
end Go.Proofs.YtpdcgjkfilohcabGreat
