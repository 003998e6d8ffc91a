import Derived.Test.YtpdcgjkfilohcabGreatDrawC
namespace Go.Proofs.YtpdcgjkfilohcabGreat
open Go.RowKit
attribute [local go_sem ↓] Go.wp_at_zero Go.wp_at_succ

/-- But for one block nothing has turned. -/
abbrev But (r : Nat) (w w' : World) : Prop := w.grownBy w' (some r)
theorem But.of_gr {r : Nat} {w w' : World} (g : Gr w w') : But r w w' := ⟨Below.os g, Below.tape g, Below.output g, Below.size g, fun k hk _ => Below.block g k hk⟩
theorem But.trans {r : Nat} {w w' w'' : World} (h : But r w w') (k : But r w' w'') : But r w w'' :=
  ⟨k.os.trans h.os, k.tape.trans h.tape, k.output.trans h.output, Nat.le_trans h.size k.size, fun q hq hne => (k.block q (Nat.lt_of_lt_of_le hq h.size) hne).trans (h.block q hq hne)⟩
theorem But.cell {r : Nat} {w w' : World} (h : But r w w') {q : Nat} (hq : q < w.heap.size) (hne : q ≠ r) (o : Nat) : w'.cell? ⟨q, o, none⟩ = w.cell? ⟨q, o, none⟩ := World.cell?_of_block (w := w) (h.block q hq (by simpa using hne))
theorem But.frozen {r : Nat} {w w' : World} (h : But r w w') {q : Nat} (hq : q < w.heap.size) (hne : q ≠ r) (o : Nat) : w'.frozen? ⟨q, o, none⟩ = w.frozen? ⟨q, o, none⟩ := World.frozen?_of_block (w := w) (h.block q hq (by simpa using hne))
theorem But.gr {r : Nat} {B w w' : World} (h : But r w w') (hB : Gr B w) (hr : B.heap.size ≤ r) : Gr B w' := Below.grown hB h hB.size (fun k e => by cases e; exact hr)
theorem but_set {r : Nat} {w wx : World} {q c : Nat} (v : Value) (hM : But r w wx) (hq : w.heap.size ≤ q) : But r w (wx.setCell ⟨q, c, none⟩ v) :=
  ⟨hM.os, hM.tape, hM.output, by rw [World.size_setCell]; exact hM.size, fun k hk hne => (Below.heap_setCell wx ⟨q, c, none⟩ v k (by dsimp only; omega)).trans (hM.block k hk hne)⟩
theorem but_pick {r : Nat} {w : World} (v : Value) (m : Nat) : But r w ((w.setCell ⟨r, 1, none⟩ v).drewN m) := by
  have h0 : ((w.setCell ⟨r, 1, none⟩ v).drewN m).heap = (w.setCell ⟨r, 1, none⟩ v).heap := rfl
  refine ⟨rfl, rfl, rfl, by rw [h0]; simp [World.setCell], fun k hk hne => ?_⟩
  rw [h0]
  exact Below.heap_setCell w ⟨r, 1, none⟩ v k (fun e => hne (by rw [e]))
theorem var_but {r : Nat} {w w' : World} {q : Nat} {b : Bx} (h : Var w q b) (m : But r w w') (hne : q ≠ r) : Var w' q b := by
  obtain ⟨h1, ⟨c0, c1, c2, c3, c4, c5⟩, f0, f1, f2, f3, f4, f5⟩ := h
  have c := fun o => m.cell h1 hne o
  have f := fun o => m.frozen h1 hne o
  exact ⟨Nat.lt_of_lt_of_le h1 m.size, ⟨(c _).trans c0, (c _).trans c1, (c _).trans c2, (c _).trans c3, (c _).trans c4, (c _).trans c5⟩, (f _).trans f0, (f _).trans f1, (f _).trans f2, (f _).trans f3, (f _).trans f4, (f _).trans f5⟩

/-- Where a drawing call stands that has a variable q and a result t. -/
def At3 (d : Rdr) (w : World) (q t : Nat) (P : Nat) (b : Bx) (wx : World) : Prop :=
  (∃ p, p ≤ P ∧ Rd d wx p) ∧ But d.r w wx ∧ Var wx q b ∧ (∃ b0, Var wx t b0) ∧ w.heap.size ≤ q ∧ w.heap.size ≤ t ∧ q ≠ t

theorem at3_set {d : Rdr} {w : World} {q t : Nat} {P : Nat} {b : Bx} {wx : World} (c : Nat) (x : Int) (h : At3 d w q t P b wx) (hr : d.r < w.heap.size) (hc : c < 6) : ∃ b', At3 d w q t P b' (wx.setCell ⟨q, c, none⟩ (.int .i64 x)) := by
  obtain ⟨⟨p, hp, hR⟩, hM, hV, ⟨b0, hT⟩, hq, ht, hne⟩ := h
  obtain ⟨b', hV'⟩ := var_set x hV hc
  exact ⟨b', ⟨p, hp, rd_set hR _ _ (by dsimp only; omega)⟩, but_set _ hM hq, hV', ⟨b0, var_other _ hT (fun e => hne e.symm)⟩, hq, ht, hne⟩
theorem at3_pick {d : Rdr} {w : World} {q t : Nat} {P p : Nat} {b : Bx} {wx w' : World} (h : At3 d w q t P b wx) (hR : Rd d w' p) (hM : But d.r wx w') (hr : d.r < w.heap.size) (hp : p ≤ P + 1) : At3 d w q t (P + 1) b w' := by
  obtain ⟨-, hM0, hV, ⟨b0, hT⟩, hq, ht, hne⟩ := h
  exact ⟨⟨p, hp, hR⟩, hM0.trans hM, var_but hV hM (by omega), ⟨b0, var_but hT hM (by omega)⟩, hq, ht, hne⟩
theorem at3_gr {d : Rdr} {w : World} {q t : Nat} {P : Nat} {b : Bx} {wx w' : World} (h : At3 d w q t P b wx) (g : Gr wx w') : At3 d w q t P b w' := by
  obtain ⟨⟨p, hp, hR⟩, hM0, hV, ⟨b0, hT⟩, hq, ht, hne⟩ := h
  exact ⟨⟨p, hp, rd_gr hR g⟩, hM0.trans (But.of_gr g), var_gr hV g, ⟨b0, var_gr hT g⟩, hq, ht, hne⟩
theorem at3_q {d : Rdr} {w : World} {q t : Nat} {P : Nat} {b : Bx} {wx : World} (h : At3 d w q t P b wx) : q < wx.heap.size ∧ wx.cell? ⟨q, 0, none⟩ = some (.int .i64 b.x) ∧ wx.cell? ⟨q, 1, none⟩ = some (.int .i64 b.y) ∧ wx.cell? ⟨q, 2, none⟩ = some (.int .i64 b.l) ∧ wx.cell? ⟨q, 3, none⟩ = some (.int .i64 b.h) ∧ wx.cell? ⟨q, 4, none⟩ = some (.int .i64 b.i) ∧ wx.cell? ⟨q, 5, none⟩ = some (.int .i64 b.o) ∧ wx.frozen? ⟨q, 0, none⟩ = false ∧ wx.frozen? ⟨q, 1, none⟩ = false ∧ wx.frozen? ⟨q, 2, none⟩ = false ∧ wx.frozen? ⟨q, 3, none⟩ = false ∧ wx.frozen? ⟨q, 4, none⟩ = false ∧ wx.frozen? ⟨q, 5, none⟩ = false :=
  ⟨h.2.2.1.1, h.2.2.1.2.1.1, h.2.2.1.2.1.2.1, h.2.2.1.2.1.2.2.1, h.2.2.1.2.1.2.2.2.1, h.2.2.1.2.1.2.2.2.2.1, h.2.2.1.2.1.2.2.2.2.2, h.2.2.1.2.2⟩

theorem at3_t {d : Rdr} {w : World} {q t : Nat} {P : Nat} {b : Bx} {wx : World} (h : At3 d w q t P b wx) : ∃ c : Bx, t < wx.heap.size ∧ wx.cell? ⟨t, 0, none⟩ = some (.int .i64 c.x) ∧ wx.cell? ⟨t, 1, none⟩ = some (.int .i64 c.y) ∧ wx.cell? ⟨t, 2, none⟩ = some (.int .i64 c.l) ∧ wx.cell? ⟨t, 3, none⟩ = some (.int .i64 c.h) ∧ wx.cell? ⟨t, 4, none⟩ = some (.int .i64 c.i) ∧ wx.cell? ⟨t, 5, none⟩ = some (.int .i64 c.o) ∧ wx.frozen? ⟨t, 0, none⟩ = false ∧ wx.frozen? ⟨t, 1, none⟩ = false ∧ wx.frozen? ⟨t, 2, none⟩ = false ∧ wx.frozen? ⟨t, 3, none⟩ = false ∧ wx.frozen? ⟨t, 4, none⟩ = false ∧ wx.frozen? ⟨t, 5, none⟩ = false := by
  obtain ⟨b0, h1⟩ := h.2.2.2.1
  exact ⟨b0, h1.1, h1.2.1.1, h1.2.1.2.1, h1.2.1.2.2.1, h1.2.1.2.2.2.1, h1.2.1.2.2.2.2.1, h1.2.1.2.2.2.2.2, h1.2.2⟩
theorem at3_fin {d : Rdr} {w : World} {q t : Nat} {P : Nat} {b : Bx} {wx : World} (v0 v1 v2 v3 v4 v5 : Value) (h : At3 d w q t P b wx) (hr : d.r < w.heap.size) : (∃ p, Rd d ((((((wx.setCell ⟨t, 0, none⟩ v0).setCell ⟨t, 1, none⟩ v1).setCell ⟨t, 2, none⟩ v2).setCell ⟨t, 3, none⟩ v3).setCell ⟨t, 4, none⟩ v4).setCell ⟨t, 5, none⟩ v5) p ∧ p ≤ P) ∧ But d.r w ((((((wx.setCell ⟨t, 0, none⟩ v0).setCell ⟨t, 1, none⟩ v1).setCell ⟨t, 2, none⟩ v2).setCell ⟨t, 3, none⟩ v3).setCell ⟨t, 4, none⟩ v4).setCell ⟨t, 5, none⟩ v5) := by
  obtain ⟨⟨p, hp, hR⟩, hM, -, -, -, ht, -⟩ := h
  exact ⟨⟨p, rd_set (rd_set (rd_set (rd_set (rd_set (rd_set hR _ _ (by dsimp only; omega)) _ _ (by dsimp only; omega)) _ _ (by dsimp only; omega)) _ _ (by dsimp only; omega)) _ _ (by dsimp only; omega)) _ _ (by dsimp only; omega), hp⟩,
    but_set _ (but_set _ (but_set _ (but_set _ (but_set _ (but_set _ hM ht) ht) ht) ht) ht) ht⟩

end Go.Proofs.YtpdcgjkfilohcabGreat
