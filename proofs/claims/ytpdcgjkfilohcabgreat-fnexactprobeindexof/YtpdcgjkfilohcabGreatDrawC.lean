import Derived.Test.YtpdcgjkfilohcabGreatDrawB
namespace Go.Proofs.YtpdcgjkfilohcabGreat
open Go.RowKit
attribute [local go_sem ↓] Go.wp_at_zero Go.wp_at_succ

/-- Where a drawing call stands that has a variable q and a result t. -/
def At2 (d : Rdr) (w : World) (q t : Nat) (P : Nat) (b : Bx) (wx : World) : Prop :=
  (∃ p, p ≤ P ∧ Rd d wx p) ∧ Mk d.at w wx ∧ Var wx q b ∧ (∃ b0, Var wx t b0) ∧ w.heap.size ≤ q ∧ w.heap.size ≤ t ∧ q ≠ t

theorem var_other {w : World} {q t c : Nat} {b : Bx} (v : Value) (h : Var w t b) (hne : t ≠ q) : Var (w.setCell ⟨q, c, none⟩ v) t b := by
  obtain ⟨h1, ⟨c0, c1, c2, c3, c4, c5⟩, f⟩ := h
  have k : ∀ r, (w.setCell ⟨q, c, none⟩ v).cell? ⟨t, r, none⟩ = w.cell? ⟨t, r, none⟩ := fun r => cell_off _ _ _ _ _ _ (Or.inl hne)
  have hf : ∀ p, (w.setCell ⟨q, c, none⟩ v).frozen? p = w.frozen? p := fun p => World.frozen?_setCell _ _ _ _
  refine ⟨by rw [World.size_setCell]; exact h1, ⟨(k _).trans c0, (k _).trans c1, (k _).trans c2, (k _).trans c3, (k _).trans c4, (k _).trans c5⟩, ?_⟩
  simp only [hf]
  exact f
theorem mk_set {d : Rdr} {w wx : World} {q c : Nat} (v : Value) (hM : Mk d.at w wx) (hq : w.heap.size ≤ q) : Mk d.at w (wx.setCell ⟨q, c, none⟩ v) := by
  obtain ⟨m1, m2, m3, m4, m5⟩ := hM
  refine ⟨by rw [World.size_setCell]; exact m1, fun z r hz hne => ?_, fun z r hz => ?_, fun B hB hg => ?_, fun z o hz hr' => ?_⟩
  · rw [cell_off _ _ _ _ _ _ (Or.inl (by omega))]; exact m2 z r hz hne
  · rw [World.frozen?_setCell]; exact m3 z r hz
  · have h1 := hB.size
    exact (m4 B hB hg).setCell (by dsimp only; omega) _
  · exact room_set (m5 z o hz hr') _ _ (by dsimp only; omega)

theorem at2_set {d : Rdr} {w : World} {q t : Nat} {P : Nat} {b : Bx} {wx : World} (c : Nat) (x : Int) (h : At2 d w q t P b wx) (hr : d.r < w.heap.size) (hc : c < 6) : ∃ b', At2 d w q t P b' (wx.setCell ⟨q, c, none⟩ (.int .i64 x)) := by
  obtain ⟨⟨p, hp, hR⟩, hM, hV, ⟨b0, hT⟩, hq, ht, hne⟩ := h
  obtain ⟨b', hV'⟩ := var_set x hV hc
  exact ⟨b', ⟨p, hp, rd_set hR _ _ (by dsimp only; omega)⟩, mk_set _ hM hq, hV', ⟨b0, var_other _ hT (fun e => hne e.symm)⟩, hq, ht, hne⟩
theorem at2_pick {d : Rdr} {w : World} {q t : Nat} {P p : Nat} {b : Bx} {wx w' : World} (h : At2 d w q t P b wx) (hR : Rd d w' p) (hM : Mk d.at wx w') (hr : d.r < w.heap.size) (hp : p ≤ P + 1) : At2 d w q t (P + 1) b w' := by
  obtain ⟨-, hM0, hV, ⟨b0, hT⟩, hq, ht, hne⟩ := h
  refine ⟨⟨p, hp, hR⟩, hM0.trans hM, var_mk hV hM (fun g o sp e => ?_), ⟨b0, var_mk hT hM (fun g o sp e => ?_)⟩, hq, ht, hne⟩
  all_goals
    simp only [Rdr.at, Option.some.injEq, Addr.mk.injEq] at e
    obtain ⟨rfl, -, -⟩ := e
    omega
theorem at2_gr {d : Rdr} {w : World} {q t : Nat} {P : Nat} {b : Bx} {wx w' : World} (h : At2 d w q t P b wx) (g : Gr wx w') : At2 d w q t P b w' := by
  obtain ⟨⟨p, hp, hR⟩, hM0, hV, ⟨b0, hT⟩, hq, ht, hne⟩ := h
  exact ⟨⟨p, hp, rd_gr hR g⟩, hM0.trans (Mk.of_gr g), var_gr hV g, ⟨b0, var_gr hT g⟩, hq, ht, hne⟩
theorem at2_q {d : Rdr} {w : World} {q t : Nat} {P : Nat} {b : Bx} {wx : World} (h : At2 d w q t P b wx) : q < wx.heap.size ∧ wx.cell? ⟨q, 0, none⟩ = some (.int .i64 b.x) ∧ wx.cell? ⟨q, 1, none⟩ = some (.int .i64 b.y) ∧ wx.cell? ⟨q, 2, none⟩ = some (.int .i64 b.l) ∧ wx.cell? ⟨q, 3, none⟩ = some (.int .i64 b.h) ∧ wx.cell? ⟨q, 4, none⟩ = some (.int .i64 b.i) ∧ wx.cell? ⟨q, 5, none⟩ = some (.int .i64 b.o) ∧ wx.frozen? ⟨q, 0, none⟩ = false ∧ wx.frozen? ⟨q, 1, none⟩ = false ∧ wx.frozen? ⟨q, 2, none⟩ = false ∧ wx.frozen? ⟨q, 3, none⟩ = false ∧ wx.frozen? ⟨q, 4, none⟩ = false ∧ wx.frozen? ⟨q, 5, none⟩ = false :=
  ⟨h.2.2.1.1, h.2.2.1.2.1.1, h.2.2.1.2.1.2.1, h.2.2.1.2.1.2.2.1, h.2.2.1.2.1.2.2.2.1, h.2.2.1.2.1.2.2.2.2.1, h.2.2.1.2.1.2.2.2.2.2, h.2.2.1.2.2⟩

theorem at2_t {d : Rdr} {w : World} {q t : Nat} {P : Nat} {b : Bx} {wx : World} (h : At2 d w q t P b wx) : ∃ c : Bx, t < wx.heap.size ∧ wx.cell? ⟨t, 0, none⟩ = some (.int .i64 c.x) ∧ wx.cell? ⟨t, 1, none⟩ = some (.int .i64 c.y) ∧ wx.cell? ⟨t, 2, none⟩ = some (.int .i64 c.l) ∧ wx.cell? ⟨t, 3, none⟩ = some (.int .i64 c.h) ∧ wx.cell? ⟨t, 4, none⟩ = some (.int .i64 c.i) ∧ wx.cell? ⟨t, 5, none⟩ = some (.int .i64 c.o) ∧ wx.frozen? ⟨t, 0, none⟩ = false ∧ wx.frozen? ⟨t, 1, none⟩ = false ∧ wx.frozen? ⟨t, 2, none⟩ = false ∧ wx.frozen? ⟨t, 3, none⟩ = false ∧ wx.frozen? ⟨t, 4, none⟩ = false ∧ wx.frozen? ⟨t, 5, none⟩ = false := by
  obtain ⟨b0, h1⟩ := h.2.2.2.1
  exact ⟨b0, h1.1, h1.2.1.1, h1.2.1.2.1, h1.2.1.2.2.1, h1.2.1.2.2.2.1, h1.2.1.2.2.2.2.1, h1.2.1.2.2.2.2.2, h1.2.2⟩
theorem at2_fin {d : Rdr} {w : World} {q t : Nat} {P : Nat} {b : Bx} {wx : World} (v0 v1 v2 v3 v4 v5 : Value) (h : At2 d w q t P b wx) (hr : d.r < w.heap.size) : (∃ p, Rd d ((((((wx.setCell ⟨t, 0, none⟩ v0).setCell ⟨t, 1, none⟩ v1).setCell ⟨t, 2, none⟩ v2).setCell ⟨t, 3, none⟩ v3).setCell ⟨t, 4, none⟩ v4).setCell ⟨t, 5, none⟩ v5) p ∧ p ≤ P) ∧ Mk d.at w ((((((wx.setCell ⟨t, 0, none⟩ v0).setCell ⟨t, 1, none⟩ v1).setCell ⟨t, 2, none⟩ v2).setCell ⟨t, 3, none⟩ v3).setCell ⟨t, 4, none⟩ v4).setCell ⟨t, 5, none⟩ v5) := by
  obtain ⟨⟨p, hp, hR⟩, hM, -, -, -, ht, -⟩ := h
  exact ⟨⟨p, rd_set (rd_set (rd_set (rd_set (rd_set (rd_set hR _ _ (by dsimp only; omega)) _ _ (by dsimp only; omega)) _ _ (by dsimp only; omega)) _ _ (by dsimp only; omega)) _ _ (by dsimp only; omega)) _ _ (by dsimp only; omega), hp⟩,
    mk_set _ (mk_set _ (mk_set _ (mk_set _ (mk_set _ (mk_set _ hM ht) ht) ht) ht) ht) ht⟩

end Go.Proofs.YtpdcgjkfilohcabGreat
