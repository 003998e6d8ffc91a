import Derived.Test.YtpdcgjkfilohcabGreatDrawAC
import Derived.Deep.LoopGhost
import Derived.Deep.CutRange
import Derived.Deep.RegionLaw
namespace Go.Proofs.YtpdcgjkfilohcabGreat
open Go.RowKit
attribute [local go_sem ↓] Go.wp_at_zero Go.wp_at_succ

/-- But for one block nothing has turned. -/
abbrev But (r : Nat) (w w' : World) : Prop := w.grownBy w' (some r)
theorem But.of_gr {r : Nat} {w w' : World} (g : Gr w w') : But r w w' := ⟨Below.os g, Below.tape g, Below.output g, Below.size g, fun k hk _ => Below.block g k hk⟩
theorem But.trans {r : Nat} {w w' w'' : World} (h : But r w w') (k : But r w' w'') : But r w w'' :=
  ⟨k.os.trans h.os, k.tape.trans h.tape, k.output.trans h.output, Nat.le_trans h.size k.size, fun q hq hne => (k.block q (Nat.lt_of_lt_of_le hq h.size) hne).trans (h.block q hq hne)⟩
theorem But.cell {r : Nat} {w w' : World} (h : But r w w') {q : Nat} (hq : q < w.heap.size) (hne : q ≠ r) (o : Nat) : w'.cell? ⟨q, o, none⟩ = w.cell? ⟨q, o, none⟩ := World.cell?_of_block (w := w) (h.block q hq (by simpa using hne))
theorem But.frozen {r : Nat} {w w' : World} (h : But r w w') {q : Nat} (hq : q < w.heap.size) (hne : q ≠ r) (o : Nat) : w'.frozen? ⟨q, o, none⟩ = w.frozen? ⟨q, o, none⟩ := World.frozen?_of_block (w := w) (h.block q hq (by simpa using hne))
theorem But.gr {r : Nat} {B w w' : World} (h : But r w w') (hB : Gr B w) (hr : B.heap.size ≤ r) : Gr B w' := Below.grown hB h hB.size (fun k e => by cases e; exact hr)
theorem but_set {r : Nat} {w wx : World} {q c : Nat} (v : Value) (hM : But r w wx) (hq : w.heap.size ≤ q) : But r w (wx.setCell ⟨q, c, none⟩ v) :=
  ⟨hM.os, hM.tape, hM.output, by rw [World.size_setCell]; exact hM.size, fun k hk hne => (Below.heap_setCell wx ⟨q, c, none⟩ v k (by dsimp only; omega)).trans (hM.block k hk hne)⟩
theorem but_pick {r : Nat} {w : World} (v : Value) (m : Nat) : But r w ((w.setCell ⟨r, 1, none⟩ v).drewN m) := by
  have h0 : ((w.setCell ⟨r, 1, none⟩ v).drewN m).heap = (w.setCell ⟨r, 1, none⟩ v).heap := rfl
  refine ⟨rfl, rfl, rfl, by rw [h0]; simp [World.setCell], fun k hk hne => ?_⟩
  rw [h0]
  exact Below.heap_setCell w ⟨r, 1, none⟩ v k (fun e => hne (by rw [e]))
theorem var_but {r : Nat} {w w' : World} {q : Nat} {b : Bx} (h : Var w q b) (m : But r w w') (hne : q ≠ r) : Var w' q b := by
  obtain ⟨h1, ⟨c0, c1, c2, c3, c4, c5⟩, f0, f1, f2, f3, f4, f5⟩ := h
  have c := fun o => m.cell h1 hne o
  have f := fun o => m.frozen h1 hne o
  exact ⟨Nat.lt_of_lt_of_le h1 m.size, ⟨(c _).trans c0, (c _).trans c1, (c _).trans c2, (c _).trans c3, (c _).trans c4, (c _).trans c5⟩, (f _).trans f0, (f _).trans f1, (f _).trans f2, (f _).trans f3, (f _).trans f4, (f _).trans f5⟩

/-- Where a drawing call stands that has a variable q and a result t. -/
def At3 (d : Rdr) (w : World) (q t : Nat) (P : Nat) (b : Bx) (wx : World) : Prop :=
  (∃ p, p ≤ P ∧ Rd d wx p) ∧ But d.r w wx ∧ Var wx q b ∧ (∃ b0, Var wx t b0) ∧ w.heap.size ≤ q ∧ w.heap.size ≤ t ∧ q ≠ t

theorem at3_set {d : Rdr} {w : World} {q t : Nat} {P : Nat} {b : Bx} {wx : World} (c : Nat) (x : Int) (h : At3 d w q t P b wx) (hr : d.r < w.heap.size) (hc : c < 6) : ∃ b', At3 d w q t P b' (wx.setCell ⟨q, c, none⟩ (.int .i64 x)) := by
  obtain ⟨⟨p, hp, hR⟩, hM, hV, ⟨b0, hT⟩, hq, ht, hne⟩ := h
  obtain ⟨b', hV'⟩ := var_set x hV hc
  exact ⟨b', ⟨p, hp, rd_set hR _ _ (by dsimp only; omega)⟩, but_set _ hM hq, hV', ⟨b0, var_other _ hT (fun e => hne e.symm)⟩, hq, ht, hne⟩
theorem at3_pick {d : Rdr} {w : World} {q t : Nat} {P p : Nat} {b : Bx} {wx w' : World} (h : At3 d w q t P b wx) (hR : Rd d w' p) (hM : But d.r wx w') (hr : d.r < w.heap.size) (hp : p ≤ P + 1) : At3 d w q t (P + 1) b w' := by
  obtain ⟨-, hM0, hV, ⟨b0, hT⟩, hq, ht, hne⟩ := h
  exact ⟨⟨p, hp, hR⟩, hM0.trans hM, var_but hV hM (by omega), ⟨b0, var_but hT hM (by omega)⟩, hq, ht, hne⟩
theorem at3_gr {d : Rdr} {w : World} {q t : Nat} {P : Nat} {b : Bx} {wx w' : World} (h : At3 d w q t P b wx) (g : Gr wx w') : At3 d w q t P b w' := by
  obtain ⟨⟨p, hp, hR⟩, hM0, hV, ⟨b0, hT⟩, hq, ht, hne⟩ := h
  exact ⟨⟨p, hp, rd_gr hR g⟩, hM0.trans (But.of_gr g), var_gr hV g, ⟨b0, var_gr hT g⟩, hq, ht, hne⟩
theorem at3_q {d : Rdr} {w : World} {q t : Nat} {P : Nat} {b : Bx} {wx : World} (h : At3 d w q t P b wx) : q < wx.heap.size ∧ wx.cell? ⟨q, 0, none⟩ = some (.int .i64 b.x) ∧ wx.cell? ⟨q, 1, none⟩ = some (.int .i64 b.y) ∧ wx.cell? ⟨q, 2, none⟩ = some (.int .i64 b.l) ∧ wx.cell? ⟨q, 3, none⟩ = some (.int .i64 b.h) ∧ wx.cell? ⟨q, 4, none⟩ = some (.int .i64 b.i) ∧ wx.cell? ⟨q, 5, none⟩ = some (.int .i64 b.o) ∧ wx.frozen? ⟨q, 0, none⟩ = false ∧ wx.frozen? ⟨q, 1, none⟩ = false ∧ wx.frozen? ⟨q, 2, none⟩ = false ∧ wx.frozen? ⟨q, 3, none⟩ = false ∧ wx.frozen? ⟨q, 4, none⟩ = false ∧ wx.frozen? ⟨q, 5, none⟩ = false :=
  ⟨h.2.2.1.1, h.2.2.1.2.1.1, h.2.2.1.2.1.2.1, h.2.2.1.2.1.2.2.1, h.2.2.1.2.1.2.2.2.1, h.2.2.1.2.1.2.2.2.2.1, h.2.2.1.2.1.2.2.2.2.2, h.2.2.1.2.2⟩

theorem at3_t {d : Rdr} {w : World} {q t : Nat} {P : Nat} {b : Bx} {wx : World} (h : At3 d w q t P b wx) : ∃ c : Bx, t < wx.heap.size ∧ wx.cell? ⟨t, 0, none⟩ = some (.int .i64 c.x) ∧ wx.cell? ⟨t, 1, none⟩ = some (.int .i64 c.y) ∧ wx.cell? ⟨t, 2, none⟩ = some (.int .i64 c.l) ∧ wx.cell? ⟨t, 3, none⟩ = some (.int .i64 c.h) ∧ wx.cell? ⟨t, 4, none⟩ = some (.int .i64 c.i) ∧ wx.cell? ⟨t, 5, none⟩ = some (.int .i64 c.o) ∧ wx.frozen? ⟨t, 0, none⟩ = false ∧ wx.frozen? ⟨t, 1, none⟩ = false ∧ wx.frozen? ⟨t, 2, none⟩ = false ∧ wx.frozen? ⟨t, 3, none⟩ = false ∧ wx.frozen? ⟨t, 4, none⟩ = false ∧ wx.frozen? ⟨t, 5, none⟩ = false := by
  obtain ⟨b0, h1⟩ := h.2.2.2.1
  exact ⟨b0, h1.1, h1.2.1.1, h1.2.1.2.1, h1.2.1.2.2.1, h1.2.1.2.2.2.1, h1.2.1.2.2.2.2.1, h1.2.1.2.2.2.2.2, h1.2.2⟩
theorem at3_fin {d : Rdr} {w : World} {q t : Nat} {P : Nat} {b : Bx} {wx : World} (v0 v1 v2 v3 v4 v5 : Value) (h : At3 d w q t P b wx) (hr : d.r < w.heap.size) : (∃ p, Rd d ((((((wx.setCell ⟨t, 0, none⟩ v0).setCell ⟨t, 1, none⟩ v1).setCell ⟨t, 2, none⟩ v2).setCell ⟨t, 3, none⟩ v3).setCell ⟨t, 4, none⟩ v4).setCell ⟨t, 5, none⟩ v5) p ∧ p ≤ P) ∧ But d.r w ((((((wx.setCell ⟨t, 0, none⟩ v0).setCell ⟨t, 1, none⟩ v1).setCell ⟨t, 2, none⟩ v2).setCell ⟨t, 3, none⟩ v3).setCell ⟨t, 4, none⟩ v4).setCell ⟨t, 5, none⟩ v5) := by
  obtain ⟨⟨p, hp, hR⟩, hM, -, -, -, ht, -⟩ := h
  exact ⟨⟨p, rd_set (rd_set (rd_set (rd_set (rd_set (rd_set hR _ _ (by dsimp only; omega)) _ _ (by dsimp only; omega)) _ _ (by dsimp only; omega)) _ _ (by dsimp only; omega)) _ _ (by dsimp only; omega)) _ _ (by dsimp only; omega), hp⟩,
    but_set _ (but_set _ (but_set _ (but_set _ (but_set _ (but_set _ hM ht) ht) ht) ht) ht) ht⟩

end Go.Proofs.YtpdcgjkfilohcabGreat

namespace Go.Proofs.YtpdcgjkfilohcabGreat
open Go.RowKit

/-- Two cells that may be written. -/
def PairAt (w : World) (q : Nat) : Prop := q < w.heap.size ∧ (∃ u, w.cell? ⟨q, 0, none⟩ = some u) ∧ (∃ u, w.cell? ⟨q, 1, none⟩ = some u) ∧ w.frozen? ⟨q, 0, none⟩ = false ∧ w.frozen? ⟨q, 1, none⟩ = false
/-- A tube that is a variable of the call's own: its name, and the boxes that it owns. -/
def TubV (w : World) (q base : Nat) (s : ByteArray) (v : Value) (L : List Bx) : Prop :=
  w.cell? ⟨q, 0, none⟩ = some (.string s) ∧ w.cell? ⟨q, 1, none⟩ = some v ∧ w.frozen? ⟨q, 0, none⟩ = false ∧ w.frozen? ⟨q, 1, none⟩ = false ∧ q < w.heap.size ∧ w.ownsRow base 77 6 v L.length (flat L)
theorem pair_but {r q : Nat} {w w' : World} (h : PairAt w q) (m : But r w w') (hne : q ≠ r) : PairAt w' q := by
  obtain ⟨h1, ⟨u, hu⟩, ⟨v, hv⟩, f0, f1⟩ := h
  exact ⟨Nat.lt_of_lt_of_le h1 m.size, ⟨u, (m.cell h1 hne _).trans hu⟩, ⟨v, (m.cell h1 hne _).trans hv⟩, (m.frozen h1 hne _).trans f0, (m.frozen h1 hne _).trans f1⟩
theorem pair_set {q x c : Nat} {w : World} (h : PairAt w q) (hne : q ≠ x) (u : Value) : PairAt (w.setCell ⟨x, c, none⟩ u) q := by
  obtain ⟨h1, ⟨u', hu⟩, ⟨v, hv⟩, f0, f1⟩ := h
  exact ⟨by rw [World.size_setCell]; exact h1, ⟨u', (cell_off _ _ _ _ _ _ (Or.inl hne)).trans hu⟩, ⟨v, (cell_off _ _ _ _ _ _ (Or.inl hne)).trans hv⟩, by rw [World.frozen?_setCell]; exact f0, by rw [World.frozen?_setCell]; exact f1⟩
theorem pair_new {w w1 : World} {u v : Value} {t : TypeId} (g : Gr (w.alloc (.cells #[u, v] t)) w1) : PairAt w1 w.heap.size :=
  ⟨by have := g.size; simp at this; omega, ⟨u, (g.cells.1 _ _ (by simp)).trans (by simp)⟩, ⟨v, (g.cells.1 _ _ (by simp)).trans (by simp)⟩, (g.cells.2 _ _ (by simp)).trans (by simp), (g.cells.2 _ _ (by simp)).trans (by simp)⟩
theorem owns_but {r base e size n : Nat} {w w' : World} {v : Value} {xs : List Value} (h : w.ownsRow base e size v n xs) (m : But r w w') (hb : r < base) : w'.ownsRow base e size v n xs :=
  h.kept m (Or.inr (fun e => by have := owns_block h r e; omega))
theorem tubV_but {r q base : Nat} {w w' : World} {s : ByteArray} {v : Value} {L : List Bx} (h : TubV w q base s v L) (m : But r w w') (hne : q ≠ r) (hb : r < base) : TubV w' q base s v L := by
  obtain ⟨h0, h1, f0, f1, hl, ho⟩ := h
  exact ⟨(m.cell hl hne _).trans h0, (m.cell hl hne _).trans h1, (m.frozen hl hne _).trans f0, (m.frozen hl hne _).trans f1, Nat.lt_of_lt_of_le hl m.size, owns_but ho m hb⟩
theorem tubV_set {q base x c : Nat} {w : World} {s : ByteArray} {v : Value} {L : List Bx} (h : TubV w q base s v L) (hne : q ≠ x) (hb : x < base) (u : Value) : TubV (w.setCell ⟨x, c, none⟩ u) q base s v L := by
  obtain ⟨h0, h1, f0, f1, hl, ho⟩ := h
  exact ⟨(cell_off _ _ _ _ _ _ (Or.inl hne)).trans h0, (cell_off _ _ _ _ _ _ (Or.inl hne)).trans h1, by rw [World.frozen?_setCell]; exact f0, by rw [World.frozen?_setCell]; exact f1, by rw [World.size_setCell]; exact hl, ownsRow_setCell_below ho (by exact hb) _⟩
/-- A box is put behind. -/
theorem tubV_next {q base : Nat} {w w1 : World} {s : ByteArray} {v v' : Value} {L : List Bx} {c : Bx} (h : TubV w q base s v L) (hq : q < base) (hown : w1.ownsRow base 77 6 v' (L.length + 1) (flat L ++ c.vals)) (hb : Below base w w1) : TubV (w1.setCell ⟨q, 1, none⟩ v') q base s v' (L ++ [c]) := by
  obtain ⟨h0, h1, f0, f1, hl, -⟩ := h
  refine ⟨(cell_off _ _ _ _ _ _ (by simp)).trans ((hb.cell (p := ⟨q, 0, none⟩) hq).trans h0), World.cell?_setCell_same _ _ _ ((hb.cell (p := ⟨q, 1, none⟩) hq).trans h1), by rw [World.frozen?_setCell]; exact (hb.frozen (p := ⟨q, 0, none⟩) hq).trans f0, by rw [World.frozen?_setCell]; exact (hb.frozen (p := ⟨q, 1, none⟩) hq).trans f1, by rw [World.size_setCell]; exact Nat.lt_of_lt_of_le hl hb.size, ?_⟩
  rw [flat_snoc, List.length_append]
  exact ownsRow_setCell_below hown (by exact hq) _

/-- Where the drawing of a tube stands: reader, variable b at q, result, the tube itself. -/
def TA (d : Rdr) (w : World) (s : ByteArray) (q P N : Nat) (wx : World) : Prop :=
  (∃ p, p ≤ P ∧ Rd d wx p) ∧ But d.r w wx ∧ (∃ b, Var wx q b) ∧ PairAt wx w.heap.size ∧ (∃ v L, TubV wx (w.heap.size + 1) (q + 1) s v L ∧ L.length = N) ∧ w.heap.size + 1 < q ∧ d.r < w.heap.size
theorem ta_but {d : Rdr} {w : World} {s : ByteArray} {q P N p P' : Nat} {wx w' : World} (h : TA d w s q P N wx) (hR : Rd d w' p) (hM : But d.r wx w') (hp : p ≤ P') : TA d w s q P' N w' := by
  obtain ⟨-, hM0, ⟨b, hV⟩, hP, ⟨v, L, hT, hN⟩, hq, hr⟩ := h
  exact ⟨⟨p, hp, hR⟩, hM0.trans hM, ⟨b, var_but hV hM (by omega)⟩, pair_but hP hM (by omega), ⟨v, L, tubV_but hT hM (by omega) (by omega), hN⟩, hq, hr⟩
theorem ta_gr {d : Rdr} {w : World} {s : ByteArray} {q P N : Nat} {wx w' : World} (h : TA d w s q P N wx) (g : Gr wx w') : TA d w s q P N w' := by
  obtain ⟨p, hp, hR⟩ := h.1
  exact ta_but h (rd_gr hR g) (But.of_gr g) hp
theorem ta_le {d : Rdr} {w : World} {s : ByteArray} {q P N P' : Nat} {wx : World} (h : TA d w s q P N wx) (hP : P ≤ P') : TA d w s q P' N wx := by
  obtain ⟨⟨p, hp, hR⟩, hM0, hV, hQ, ⟨v, L, hT, hL⟩, hq, hr⟩ := h
  exact ⟨⟨p, by omega, hR⟩, hM0, hV, hQ, ⟨v, L, hT, hL⟩, hq, hr⟩
theorem ta_set {d : Rdr} {w : World} {s : ByteArray} {q P N : Nat} {wx : World} (c : Nat) (x : Int) (h : TA d w s q P N wx) (hc : c < 6) : TA d w s q P N (wx.setCell ⟨q, c, none⟩ (.int .i64 x)) := by
  obtain ⟨⟨p, hp, hR⟩, hM0, ⟨b, hV⟩, hQ, ⟨v, L, hT, hL⟩, hq, hr⟩ := h
  obtain ⟨b', hV'⟩ := var_set x hV hc
  exact ⟨⟨p, hp, rd_set hR _ _ (by dsimp only; omega)⟩, but_set _ hM0 (by omega), ⟨b', hV'⟩, pair_set hQ (by omega) _, ⟨v, L, tubV_set hT (by omega) (by omega) _, hL⟩, hq, hr⟩
theorem ta_put6 {d : Rdr} {w : World} {s : ByteArray} {q P N : Nat} {wx : World} (b : Bx) (h : TA d w s q P N wx) : TA d w s q P N ((((((wx.setCell ⟨q, 0, none⟩ (.int .i64 b.x)).setCell ⟨q, 1, none⟩ (.int .i64 b.y)).setCell ⟨q, 2, none⟩ (.int .i64 b.l)).setCell ⟨q, 3, none⟩ (.int .i64 b.h)).setCell ⟨q, 4, none⟩ (.int .i64 b.i)).setCell ⟨q, 5, none⟩ (.int .i64 b.o)) :=
  ta_set 5 _ (ta_set 4 _ (ta_set 3 _ (ta_set 2 _ (ta_set 1 _ (ta_set 0 _ h (by omega)) (by omega)) (by omega)) (by omega)) (by omega)) (by omega)
theorem ta_q {d : Rdr} {w : World} {s : ByteArray} {q P N : Nat} {wx : World} (h : TA d w s q P N wx) : ∃ b : Bx, q < wx.heap.size ∧ wx.cell? ⟨q, 0, none⟩ = some (.int .i64 b.x) ∧ wx.cell? ⟨q, 1, none⟩ = some (.int .i64 b.y) ∧ wx.cell? ⟨q, 2, none⟩ = some (.int .i64 b.l) ∧ wx.cell? ⟨q, 3, none⟩ = some (.int .i64 b.h) ∧ wx.cell? ⟨q, 4, none⟩ = some (.int .i64 b.i) ∧ wx.cell? ⟨q, 5, none⟩ = some (.int .i64 b.o) ∧ wx.frozen? ⟨q, 0, none⟩ = false ∧ wx.frozen? ⟨q, 1, none⟩ = false ∧ wx.frozen? ⟨q, 2, none⟩ = false ∧ wx.frozen? ⟨q, 3, none⟩ = false ∧ wx.frozen? ⟨q, 4, none⟩ = false ∧ wx.frozen? ⟨q, 5, none⟩ = false := by
  obtain ⟨b, h1⟩ := h.2.2.1
  exact ⟨b, h1.1, h1.2.1.1, h1.2.1.2.1, h1.2.1.2.2.1, h1.2.1.2.2.2.1, h1.2.1.2.2.2.2.1, h1.2.1.2.2.2.2.2, h1.2.2⟩
theorem but_grow {r : Nat} {w wx w1 : World} {row : Option Nat} (h : But r w wx) (hg : wx.grownBy w1 row) (hrow : ∀ k, row = some k → w.heap.size ≤ k) : But r w w1 :=
  ⟨hg.os.trans h.os, hg.tape.trans h.tape, hg.output.trans h.output, Nat.le_trans h.size hg.size, fun k hk hne => (hg.block k (Nat.lt_of_lt_of_le hk h.size) (fun e => by have := hrow k e.symm; omega)).trans (h.block k hk hne)⟩
theorem ownL_but {r : Nat} {w w' w'' : World} {v : Value} {bs : List Bx} (h : OwnL w w' v bs) (m : But r w' w'') (hr : r < w.heap.size) : OwnL w w'' v bs := by
  obtain ⟨a, cap, e, h1, h2⟩ := h
  have hk : ∀ g o sp, a = some ⟨g, o, sp⟩ → w.heap.size ≤ g ∧ g < w'.heap.size := fun g o sp ea => ⟨(h1 g o sp ea).2.2.1, (h1 g o sp ea).2.2.2.1⟩
  refine ⟨a, cap, e, fun g o sp ea => ?_, fun k hkl => ?_⟩
  · obtain ⟨e0, e1, e2, e3, e4⟩ := h1 g o sp ea
    refine ⟨e0, e1, e2, Nat.lt_of_lt_of_le e3 m.size, fun k hkl => ?_⟩
    have c := fun o => m.cell e3 (by omega : g ≠ r) o
    have f := fun o => m.frozen e3 (by omega : g ≠ r) o
    have hR := e4 k hkl
    unfold Room at *
    simp only [c, f]
    exact hR
  · obtain ⟨g, o, ea, hg, hx⟩ := h2 k hkl
    have hg2 := hk g o none ea
    refine ⟨g, o, ea, Nat.lt_of_lt_of_le hg m.size, ?_⟩
    have c := fun o => m.cell hg (by omega : g ≠ r) o
    unfold Six at *
    simp only [c]
    exact hx
/-- Behind an append to the tube, and the store of it. -/
theorem ta_next {d : Rdr} {w : World} {s : ByteArray} {q P N : Nat} {wx w1 : World} {v v' : Value} {L : List Bx} {c : Bx} (h : TA d w s q P N wx) (hT : TubV wx (w.heap.size + 1) (q + 1) s v L) (hL : L.length = N) (hown : w1.ownsRow (q + 1) 77 6 v' (L.length + 1) (flat L ++ c.vals)) (hb : Below (q + 1) wx w1) (hm : But d.r w w1) : TA d w s q P (N + 1) (w1.setCell ⟨w.heap.size + 1, 1, none⟩ v') := by
  obtain ⟨⟨p, hp, hR⟩, hM0, ⟨b, hV⟩, hQ, -, hq, hr⟩ := h
  have hc : ∀ x o, x < q + 1 → w1.cell? ⟨x, o, none⟩ = wx.cell? ⟨x, o, none⟩ := fun x o hx => hb.cell (p := ⟨x, o, none⟩) hx
  have hf : ∀ x o, x < q + 1 → w1.frozen? ⟨x, o, none⟩ = wx.frozen? ⟨x, o, none⟩ := fun x o hx => hb.frozen (p := ⟨x, o, none⟩) hx
  have hsz := hb.size
  have R1 : Rd d w1 p := by
    obtain ⟨h1, h2, h3, h4, h5, h6, h7⟩ := hR
    refine ⟨fun k hk => ?_, h2, (hc _ _ (by omega)).trans h3, (hc _ _ (by omega)).trans h4, (hf _ _ (by omega)).trans h5, by omega, h7⟩
    obtain ⟨g, o, e, hgl, hcc, r0, r1⟩ := h1 k hk
    have h8 := h7 (fun e0 => by rw [e0] at hk; simp at hk) _ _ _ e
    exact ⟨g, o, e, by omega, (hc _ _ (by omega)).trans hcc, r0, r1⟩
  have V1 : Var w1 q b := by
    obtain ⟨h1, ⟨c0, c1, c2, c3, c4, c5⟩, f0, f1, f2, f3, f4, f5⟩ := hV
    exact ⟨by omega, ⟨(hc _ _ (by omega)).trans c0, (hc _ _ (by omega)).trans c1, (hc _ _ (by omega)).trans c2, (hc _ _ (by omega)).trans c3, (hc _ _ (by omega)).trans c4, (hc _ _ (by omega)).trans c5⟩, (hf _ _ (by omega)).trans f0, (hf _ _ (by omega)).trans f1, (hf _ _ (by omega)).trans f2, (hf _ _ (by omega)).trans f3, (hf _ _ (by omega)).trans f4, (hf _ _ (by omega)).trans f5⟩
  have Q1 : PairAt w1 w.heap.size := by
    obtain ⟨h1, ⟨u, hu⟩, ⟨v, hv⟩, f0, f1⟩ := hQ
    exact ⟨by omega, ⟨u, (hc _ _ (by omega)).trans hu⟩, ⟨v, (hc _ _ (by omega)).trans hv⟩, (hf _ _ (by omega)).trans f0, (hf _ _ (by omega)).trans f1⟩
  refine ⟨⟨p, hp, rd_set R1 _ _ (by dsimp only; omega)⟩, but_set _ hm (by omega), ⟨b, var_other _ V1 (by omega)⟩, pair_set Q1 (by omega) _, ⟨v', L ++ [c], tubV_next hT (by omega) hown hb, by simp; omega⟩, hq, hr⟩
end Go.Proofs.YtpdcgjkfilohcabGreat

namespace Go.Proofs.YtpdcgjkfilohcabGreat
open Go.RowKit
attribute [local go_sem ↓] Go.wp_at_zero Go.wp_at_succ

theorem step_append_own {P : Program} {ops : Array Oper} {o : Oper} {a : Act} {w : World} {K : Act → World → Prop} {Q : Exit → Act → World → Prop} {E : Prop}
    (hg : o.guard = none) (s x : Operand) (t : TypeId) (hop : o.op = Op.call { callee := Callee.builtin Builtin.append, args := #[s, x], argTypes := #[t, t] })
    (base : Nat) (e : TypeId) (i : TypeInfo) (z : Value) (size bytes : Nat) (h1 : P.underlying t = some (.slice e)) (h2 : P.info? e = some i) (h3 : i.zero = some z) (h4 : i.size = size) (h5 : i.bytes = bytes) (h6 : z.cells.size = size) (h7 : 0 < size)
    (v : Value) (n : Nat) (xs : List Value) (hs : a.eval s = v) (hown : w.ownsRow base e size v n xs)
    (ad : Addr) (m c : Nat) (news : List Value) (hx : a.eval x = .slice (some ad) m c) (hn : news.length = m * size) (hc : ∀ j u, news[j]? = some u → w.cell? (ad.add j) = some u) (h1c : ∀ u ∈ news, u.oneCell' = true)
    (b1 : n + m ≤ maxLen) (b2 : (n + m) * bytes ≤ 140737488355328) (hb : base ≤ w.heap.size)
    (hK : ∀ v' w', w'.ownsRow base e size v' (n + m) (xs ++ news) → w.grownBy w' v.ownBlock → K (a.put o.dst v') w') :
    if Region.wanted o (yielded ops a.tmps) = true then Oper.wp P o a w K Q else E := by
  have hw : Region.wanted o (yielded ops a.tmps) = true := by simp [Region.wanted, hg]
  rw [if_pos hw]
  obtain ⟨v', w', hrun, r1, r2, _⟩ := run_append_own (P := P) w base t o.type e i z size bytes h1 h2 h3 h4 h5 h6 h7 v n xs hown ad m c news hn hc h1c b1 b2 hb
  unfold Oper.wp
  simp [execOp, hop, resolve, invoke, builtin, hs, hx, hrun, Result.andThen]
  exact hK v' w' r1 r2
theorem step_call {P : Program} {ops : Array Oper} {o : Oper} {a : Act} {w : World} {K : Act → World → Prop} {Q : Exit → Act → World → Prop} {E : Prop} {R : Ending → World → Prop}
    (hg : o.guard = none) (f : Nat) (args : Array Value) (hop : (execOp a.eval o).run P w = .ok (.enter f args) w) (h : Calls P f args w R) (hR : ∀ e w', R e w' → ∃ v, e = .returned v ∧ K (a.put o.dst v) w') :
    if Region.wanted o (yielded ops a.tmps) = true then Oper.wp P o a w K Q else E := by
  have hw : Region.wanted o (yielded ops a.tmps) = true := by simp [Region.wanted, hg]
  rw [if_pos hw]
  unfold Oper.wp
  rw [hop, Oper.upon_enter]
  refine h.mono fun e w' he => ?_
  obtain ⟨v, rfl, hk⟩ := hR e w' he
  exact hk
theorem fin_pair {d : Rdr} {w B : World} {s : ByteArray} {q P N : Nat} {wx : World} {v : Value} {L : List Bx} (u0 u1 : Value) (h : TA d w s q P N wx) (hL : OwnL B wx v L) (hB : w.heap.size < B.heap.size) : (∃ p, Rd d ((wx.setCell ⟨w.heap.size, 0, none⟩ u0).setCell ⟨w.heap.size, 1, none⟩ u1) p ∧ p ≤ P) ∧ But d.r w ((wx.setCell ⟨w.heap.size, 0, none⟩ u0).setCell ⟨w.heap.size, 1, none⟩ u1) ∧ OwnL w ((wx.setCell ⟨w.heap.size, 0, none⟩ u0).setCell ⟨w.heap.size, 1, none⟩ u1) v L := by
  obtain ⟨⟨p, hp, hR⟩, hM, -, -, -, -, hr⟩ := h
  exact ⟨⟨p, rd_set (rd_set hR _ _ (by dsimp only; omega)) _ _ (by dsimp only; omega), hp⟩, but_set _ (but_set _ hM (by omega)) (by omega), ownL_old (ownL_set (ownL_set hL _ _ (by dsimp only; omega)) _ _ (by dsimp only; omega)) (by omega)⟩

end Go.Proofs.YtpdcgjkfilohcabGreat

namespace Go.Proofs.YtpdcgjkfilohcabGreat
open Go.RowKit
attribute [local go_sem ↓] Go.wp_at_zero Go.wp_at_succ

theorem bytes_gr {w w' : World} {a : Option Addr} {bs : List Int} (h : BytesAt w a bs) (g : Gr w w') : BytesAt w' a bs := fun k hk => by
  obtain ⟨q, o, e, hq, hc, r0, r1⟩ := h k hk
  exact ⟨q, o, e, Nat.lt_of_lt_of_le hq g.size, (g.cells.1 _ _ hq).trans hc, r0, r1⟩
theorem bytes_take {w : World} {a : Option Addr} {bs : List Int} (h : BytesAt w a bs) (n : Nat) : BytesAt w a (bs.take n) := fun k hk => by
  obtain ⟨q, o, e, hq, hc, r0, r1⟩ := h k (by simp at hk; omega)
  have e1 : (bs.take n).getD k 0 = bs.getD k 0 := by
    simp only [List.getD_eq_getElem?_getD]
    rw [List.getElem?_take_of_lt (by simp at hk; omega)]
  rw [e1]
  exact ⟨q, o, e, hq, hc, r0, r1⟩
theorem rd_new {w w1 : World} {a : Option Addr} {bs : List Int} {cap : Nat} {t : TypeId} (hb : BytesAt w a bs) (hl : bs.length ≤ 2000) (g : Gr (w.alloc (.cells #[.slice a bs.length cap, .int .i64 0] t)) w1) : Rd ⟨w.heap.size, a, cap, bs⟩ w1 0 := by
  have gg : Gr w w1 := ((Gr.refl w).alloc _).trans g
  refine ⟨bytes_gr hb gg, hl, (g.cells.1 _ _ (by simp)).trans (by simp), (g.cells.1 _ _ (by simp)).trans (by simp), (g.cells.2 _ _ (by simp)).trans (by simp), by have := g.size; simp at this; exact this, fun hne q o sp e => ?_⟩
  obtain ⟨q', o', e', hq, -⟩ := hb 0 (by cases bs with | nil => exact absurd rfl hne | cons x xs => simp)
  dsimp only at e
  rw [e] at e'
  cases e'
  exact hq

/-- Texts that lie one behind the other. -/
def StrsAt (w : World) (g : Nat) (ss : List ByteArray) : Prop := g < w.heap.size ∧ ∀ k, k < ss.length → w.cell? ⟨g, k, none⟩ = some (.string (ss.getD k ⟨#[]⟩))

end Go.Proofs.YtpdcgjkfilohcabGreat

namespace Go.Proofs.YtpdcgjkfilohcabGreat
open Go.RowKit
attribute [local go_sem ↓] Go.wp_at_zero Go.wp_at_succ

theorem boxes_flat {w : World} {g o : Nat} {bs : List Bx} (h : Boxes w (some ⟨g, o, none⟩) bs) : ∀ j u, (flat bs)[j]? = some u → w.cell? ((⟨g, o, none⟩ : Addr).add j) = some u := by
  intro j u hu
  have hl : (flat bs).length = bs.length * 6 := by
    clear h hu
    induction bs with
    | nil => rfl
    | cons b bs ih => simp only [flat, List.flatMap_cons, List.length_append] at *; rw [ih]; simp [Bx.vals]; omega
  have hj : j < bs.length * 6 := by rw [← hl]; exact (List.getElem?_eq_some_iff.1 hu).1
  have e : (⟨g, o, none⟩ : Addr).add j = ⟨g, o + j, none⟩ := by unfold Addr.add; split <;> simp_all
  rw [e]
  obtain ⟨g', o', e', -, hx⟩ := h (j / 6) (by omega)
  cases e'
  have hd : j / 6 * 6 + j % 6 = j := by omega
  have hf := flat_get bs (j / 6) (j % 6) (by omega) (by omega)
  rw [hd, hu] at hf
  obtain ⟨c0, c1, c2, c3, c4, c5⟩ := hx
  rcases (by omega : j % 6 = 0 ∨ j % 6 = 1 ∨ j % 6 = 2 ∨ j % 6 = 3 ∨ j % 6 = 4 ∨ j % 6 = 5) with h6 | h6 | h6 | h6 | h6 | h6 <;> (rw [h6] at hf; simp [Bx.vals] at hf; subst hf)
  · rw [show o + j = o + j / 6 * 6 by omega]; exact c0
  · rw [show o + j = o + j / 6 * 6 + 1 by omega]; exact c1
  · rw [show o + j = o + j / 6 * 6 + 2 by omega]; exact c2
  · rw [show o + j = o + j / 6 * 6 + 3 by omega]; exact c3
  · rw [show o + j = o + j / 6 * 6 + 4 by omega]; exact c4
  · rw [show o + j = o + j / 6 * 6 + 5 by omega]; exact c5
theorem flat_one (bs : List Bx) : ∀ u ∈ flat bs, u.oneCell' = true := fun u hu => by
  simp only [flat, List.mem_flatMap] at hu
  obtain ⟨b, -, hb⟩ := hu
  exact vals_one b u hb
theorem flat_len (bs : List Bx) : (flat bs).length = bs.length * 6 := by
  induction bs with
  | nil => rfl
  | cons b bs ih => simp only [flat, List.flatMap_cons, List.length_append] at *; rw [ih]; simp [Bx.vals]; omega

end Go.Proofs.YtpdcgjkfilohcabGreat
