import Derived.Test.YtpdcgjkfilohcabGreatSmallAD
import Derived.Test.YtpdcgjkfilohcabGreatLawCut
namespace Go.Proofs.YtpdcgjkfilohcabGreat
open Go.RowKit
attribute [local go_sem ↓] Go.wp_at_zero Go.wp_at_succ

/-- The bytes bs lie from an address on. -/
def BytesAt (w : World) (a : Option Addr) (bs : List Int) : Prop :=
  ∀ k, k < bs.length → ∃ g o, a = some ⟨g, o, none⟩ ∧ g < w.heap.size ∧ w.cell? ⟨g, o + k, none⟩ = some (.int .u8 (bs.getD k 0)) ∧ 0 ≤ bs.getD k 0 ∧ bs.getD k 0 ≤ 255

theorem xor_nonneg (x y : Int) (h0 : 0 ≤ x) (h1 : x < 4611686018427387904) (h2 : 0 ≤ y) (h3 : y < 4611686018427387904) : 0 ≤ bits .xor .i64 x y := by
  obtain ⟨a, rfl⟩ := Int.eq_ofNat_of_zero_le h0
  obtain ⟨b, rfl⟩ := Int.eq_ofNat_of_zero_le h2
  have hx : a ^^^ b < 2 ^ 62 := Nat.xor_lt_two_pow (by omega) (by omega)
  have e1 : (BitVec.ofInt 64 (a : Int)).toNat = a := by
    rw [BitVec.ofInt_natCast, BitVec.toNat_ofNat]; exact Nat.mod_eq_of_lt (by omega)
  have e2 : (BitVec.ofInt 64 (b : Int)).toNat = b := by
    rw [BitVec.ofInt_natCast, BitVec.toNat_ofNat]; exact Nat.mod_eq_of_lt (by omega)
  show 0 ≤ IntKind.i64.wrap ((BitVec.ofInt 64 (a : Int) ^^^ BitVec.ofInt 64 (b : Int)).toNat : Int)
  rw [BitVec.toNat_xor, e1, e2, IntKind.wrap_i64]
  omega

theorem pick_fin (b b' P d n : Int) (h0 : 0 ≤ b) (h1 : b ≤ 255) (h2 : 0 ≤ b') (h3 : b' ≤ 255) (h4 : 0 ≤ P) (h5 : P ≤ 1000000) (h6 : 0 ≤ d) (h7 : d ≤ 1000000) (hn : 1 ≤ n) :
    0 ≤ (bits .xor .i64 (wrap64 (b * 131 + b' * 1117 + P * 29 + wrap64 (wrap64 d * 53))) (wrap64 ((wrap64 (b * 131 + b' * 1117 + P * 29 + wrap64 (wrap64 d * 53))).tdiv 64))).tmod n ∧
    (bits .xor .i64 (wrap64 (b * 131 + b' * 1117 + P * 29 + wrap64 (wrap64 d * 53))) (wrap64 ((wrap64 (b * 131 + b' * 1117 + P * 29 + wrap64 (wrap64 d * 53))).tdiv 64))).tmod n < n := by
  have e1 : wrap64 d = d := IntWalk.wrap64_in _ (by omega)
  have e2 : wrap64 (d * 53) = d * 53 := IntWalk.wrap64_in _ (by omega)
  have e3 : wrap64 (b * 131 + b' * 1117 + P * 29 + d * 53) = b * 131 + b' * 1117 + P * 29 + d * 53 := IntWalk.wrap64_in _ (by omega)
  rw [e1, e2, e3]
  have x0 : 0 ≤ b * 131 + b' * 1117 + P * 29 + d * 53 := by omega
  have x1 : b * 131 + b' * 1117 + P * 29 + d * 53 ≤ 1000000000 := by omega
  generalize b * 131 + b' * 1117 + P * 29 + d * 53 = X at *
  have e4 : X.tdiv 64 = X / 64 := Int.tdiv_eq_ediv_of_nonneg x0
  have e5 : wrap64 (X / 64) = X / 64 := IntWalk.wrap64_in _ (by omega)
  rw [e4, e5]
  have hx := xor_nonneg X (X / 64) x0 (by omega) (by omega) (by omega)
  exact ⟨Int.tmod_nonneg n hx, Int.tmod_lt_of_pos _ (by omega)⟩

end Go.Proofs.YtpdcgjkfilohcabGreat

namespace Go.Proofs.YtpdcgjkfilohcabGreat
open Go.RowKit
attribute [local go_sem ↓] Go.wp_at_zero Go.wp_at_succ

theorem Mk.of_gr {a : Option Addr} {w w' : World} (g : Gr w w') : Mk a w w' :=
  ⟨g.size, fun q r hq _ => g.cells.1 q r hq, fun q r hq => g.cells.2 q r hq, fun _ hB _ => hB.trans g, fun _ _ hq hr => room_gr hr g hq⟩
theorem Mk.trans {a : Option Addr} {w w' w'' : World} (h : Mk a w w') (k : Mk a w' w'') : Mk a w w'' := by
  obtain ⟨h1, h2, h3, h4, h5⟩ := h
  obtain ⟨k1, k2, k3, k4, k5⟩ := k
  exact ⟨by omega, fun q r hq hne => (k2 q r (by omega) hne).trans (h2 q r hq hne), fun q r hq => (k3 q r (by omega)).trans (h3 q r hq), fun B hB hg => k4 B (h4 B hB hg) hg, fun q o hq hr => k5 q o (by omega) (h5 q o hq hr)⟩

/-- A reader: its bytes, and how far it is. -/
structure Rdr where
  r : Nat
  a : Option Addr
  cap : Nat
  bs : List Int
def Rd (d : Rdr) (w : World) (p : Nat) : Prop :=
  BytesAt w d.a d.bs ∧ d.bs.length ≤ 2000 ∧ w.cell? ⟨d.r, 0, none⟩ = some (.slice d.a d.bs.length d.cap) ∧ w.cell? ⟨d.r, 1, none⟩ = some (.int .i64 p) ∧ w.frozen? ⟨d.r, 1, none⟩ = false ∧ d.r < w.heap.size ∧ (d.bs ≠ [] → ∀ g o sp, d.a = some ⟨g, o, sp⟩ → g < d.r)
/-- The reader's own step. -/
abbrev Rdr.at (d : Rdr) : Option Addr := some ⟨d.r, 0, none⟩

theorem rd_gr {d : Rdr} {w w' : World} {p : Nat} (h : Rd d w p) (g : Gr w w') : Rd d w' p := by
  obtain ⟨h1, h2, h3, h4, h5, h6, h7⟩ := h
  refine ⟨fun k hk => ?_, h2, (g.cells.1 _ _ h6).trans h3, (g.cells.1 _ _ h6).trans h4, (g.cells.2 _ _ h6).trans h5, Nat.lt_of_lt_of_le h6 g.size, h7⟩
  obtain ⟨q, o, e, hq, hc, r0, r1⟩ := h1 k hk
  exact ⟨q, o, e, Nat.lt_of_lt_of_le hq g.size, (g.cells.1 _ _ hq).trans hc, r0, r1⟩
/-- Behind a store into another block that is new. -/
theorem rd_set {d : Rdr} {w : World} {p : Nat} (h : Rd d w p) (x : Addr) (v : Value) (hx : d.r < x.block) : Rd d (w.setCell x v) p := by
  obtain ⟨h1, h2, h3, h4, h5, h6, h7⟩ := h
  refine ⟨fun k hk => ?_, h2, (World.cell?_setCell_far w x _ v (by dsimp only; omega)).trans h3, (World.cell?_setCell_far w x _ v (by dsimp only; omega)).trans h4, by rw [World.frozen?_setCell]; exact h5, by rw [World.size_setCell]; exact h6, h7⟩
  obtain ⟨q, o, e, hq, hc, r0, r1⟩ := h1 k hk
  exact ⟨q, o, e, by rw [World.size_setCell]; exact hq, (World.cell?_setCell_far w x _ v (by have := h7 (fun e0 => by rw [e0] at hk; simp at hk) _ _ _ e; dsimp only; omega)).trans hc, r0, r1⟩

theorem rd_step {d : Rdr} {w : World} {p m : Nat} (h : Rd d w p) : Rd d ((w.setCell ⟨d.r, 1, none⟩ (.int .i64 ((p : Int) + 1))).drewN m) (p + 1) ∧ Mk d.at w ((w.setCell ⟨d.r, 1, none⟩ (.int .i64 ((p : Int) + 1))).drewN m) := by
  obtain ⟨h1, h2, h3, h4, h5, h6, h7⟩ := h
  refine ⟨⟨fun k hk => ?_, h2, ?_, ?_, ?_, ?_, h7⟩, ?_, fun q o hq hne => ?_, fun q o hq => ?_, fun B hB hg => ?_, fun q o hq hr => ?_⟩
  · obtain ⟨q, o, e, hq, hc, r0, r1⟩ := h1 k hk
    refine ⟨q, o, e, by simpa using hq, ?_, r0, r1⟩
    have h8 := h7 (fun e0 => by rw [e0] at hk; simp at hk) _ _ _ e
    rw [World.cell?_drewN, cell_off _ _ _ _ _ _ (Or.inl (by omega))]
    exact hc
  · rw [World.cell?_drewN, cell_off _ _ _ _ _ _ (Or.inr (by omega))]; exact h3
  · rw [World.cell?_drewN]; exact World.cell?_setCell_same _ _ _ h4
  · rw [World.frozen?_drewN, World.frozen?_setCell]; exact h5
  · simpa using h6
  · simp
  · rw [World.cell?_drewN]
    exact cell_off _ _ _ _ _ _ (Or.inl (fun e => hne (by rw [e])))
  · rw [World.frozen?_drewN, World.frozen?_setCell]
  · exact (hB.setCell (p := ⟨d.r, 1, none⟩) (hg _ rfl) _).drewN m
  · obtain ⟨⟨⟨v0, c0⟩, f0⟩, ⟨⟨v1, c1⟩, f1⟩, ⟨⟨v2, c2⟩, f2⟩, ⟨⟨v3, c3⟩, f3⟩, ⟨⟨v4, c4⟩, f4⟩, ⟨⟨v5, c5⟩, f5⟩⟩ := hr
    have k : ∀ x : Addr, ∀ v : Value, w.cell? x = some v → ∃ v', ((w.setCell ⟨d.r, 1, none⟩ (.int .i64 ((p : Int) + 1))).drewN m).cell? x = some v' := fun x v hx => by
      rw [World.cell?_drewN]; exact cell?_setCell_some hx
    have f : ∀ x : Addr, ((w.setCell ⟨d.r, 1, none⟩ (.int .i64 ((p : Int) + 1))).drewN m).frozen? x = w.frozen? x := fun x => by rw [World.frozen?_drewN, World.frozen?_setCell]
    exact ⟨⟨k _ _ c0, (f _).trans f0⟩, ⟨k _ _ c1, (f _).trans f1⟩, ⟨k _ _ c2, (f _).trans f2⟩, ⟨k _ _ c3, (f _).trans f3⟩, ⟨k _ _ c4, (f _).trans f4⟩, ⟨k _ _ c5, (f _).trans f5⟩⟩

/-- A box that is a variable of the call's own. -/
def Var (w : World) (q : Nat) (b : Bx) : Prop := q < w.heap.size ∧ (w.cell? ⟨q, 0, none⟩ = some (.int .i64 b.x) ∧ w.cell? ⟨q, 1, none⟩ = some (.int .i64 b.y) ∧ w.cell? ⟨q, 2, none⟩ = some (.int .i64 b.l) ∧ w.cell? ⟨q, 3, none⟩ = some (.int .i64 b.h) ∧ w.cell? ⟨q, 4, none⟩ = some (.int .i64 b.i) ∧ w.cell? ⟨q, 5, none⟩ = some (.int .i64 b.o)) ∧ (w.frozen? ⟨q, 0, none⟩ = false ∧ w.frozen? ⟨q, 1, none⟩ = false ∧ w.frozen? ⟨q, 2, none⟩ = false ∧ w.frozen? ⟨q, 3, none⟩ = false ∧ w.frozen? ⟨q, 4, none⟩ = false ∧ w.frozen? ⟨q, 5, none⟩ = false)
theorem var_mk {a : Option Addr} {w w' : World} {q : Nat} {b : Bx} (h : Var w q b) (m : Mk a w w') (hne : ∀ g o sp, a = some ⟨g, o, sp⟩ → g ≠ q) : Var w' q b := by
  obtain ⟨h1, ⟨c0, c1, c2, c3, c4, c5⟩, f0, f1, f2, f3, f4, f5⟩ := h
  have c : ∀ r, w'.cell? ⟨q, r, none⟩ = w.cell? ⟨q, r, none⟩ := fun r => m.2.1 q r h1 (fun e => hne _ _ _ e rfl)
  have f : ∀ r, w'.frozen? ⟨q, r, none⟩ = w.frozen? ⟨q, r, none⟩ := fun r => m.2.2.1 q r h1
  exact ⟨Nat.lt_of_lt_of_le h1 m.1, ⟨(c _).trans c0, (c _).trans c1, (c _).trans c2, (c _).trans c3, (c _).trans c4, (c _).trans c5⟩, (f _).trans f0, (f _).trans f1, (f _).trans f2, (f _).trans f3, (f _).trans f4, (f _).trans f5⟩
theorem var_new {w w1 : World} {b : Bx} {t : TypeId} (g : Gr (w.alloc (.cells #[.int .i64 b.x, .int .i64 b.y, .int .i64 b.l, .int .i64 b.h, .int .i64 b.i, .int .i64 b.o] t)) w1) : Var w1 w.heap.size b := by
  have h := new_six g
  refine ⟨h.1, h.2, ?_⟩
  exact ⟨(g.cells.2 _ _ (by simp)).trans (by simp), (g.cells.2 _ _ (by simp)).trans (by simp), (g.cells.2 _ _ (by simp)).trans (by simp), (g.cells.2 _ _ (by simp)).trans (by simp), (g.cells.2 _ _ (by simp)).trans (by simp), (g.cells.2 _ _ (by simp)).trans (by simp)⟩
theorem var_gr {w w' : World} {q : Nat} {b : Bx} (h : Var w q b) (g : Gr w w') : Var w' q b := var_mk (a := none) h (Mk.of_gr g) (fun g o sp e => by simp at e)
/-- One cell of a variable, stored. -/
theorem var_set {w : World} {q c : Nat} {b : Bx} (x : Int) (h : Var w q b) (hc : c < 6) : ∃ b', Var (w.setCell ⟨q, c, none⟩ (.int .i64 x)) q b' := by
  obtain ⟨h1, ⟨c0, c1, c2, c3, c4, c5⟩, f⟩ := h
  have hf : ∀ p, (w.setCell ⟨q, c, none⟩ (.int .i64 x)).frozen? p = w.frozen? p := fun p => World.frozen?_setCell _ _ _ _
  have hs : q < (w.setCell ⟨q, c, none⟩ (.int .i64 x)).heap.size := by rw [World.size_setCell]; exact h1
  have k : ∀ (c' : Nat) (v : Int), w.cell? ⟨q, c', none⟩ = some (.int .i64 v) → ∃ v' : Int, (w.setCell ⟨q, c, none⟩ (.int .i64 x)).cell? ⟨q, c', none⟩ = some (.int .i64 v') := fun c' v hv => by
    by_cases e : c' = c
    · subst e; exact ⟨x, World.cell?_setCell_same _ _ _ hv⟩
    · exact ⟨v, (cell_off _ _ _ _ _ _ (Or.inr e)).trans hv⟩
  obtain ⟨v0, k0⟩ := k 0 _ c0
  obtain ⟨v1, k1⟩ := k 1 _ c1
  obtain ⟨v2, k2⟩ := k 2 _ c2
  obtain ⟨v3, k3⟩ := k 3 _ c3
  obtain ⟨v4, k4⟩ := k 4 _ c4
  obtain ⟨v5, k5⟩ := k 5 _ c5
  refine ⟨⟨v0, v1, v2, v3, v4, v5⟩, hs, ⟨k0, k1, k2, k3, k4, k5⟩, ?_⟩
  simp only [hf]
  exact f

/-- Where a drawing call stands: its reader, its world, its variable. -/
def At (d : Rdr) (w : World) (P q : Nat) (wx : World) : Prop := ∃ p b, p ≤ P ∧ Rd d wx p ∧ Mk d.at w wx ∧ Var wx q b

theorem at_set {d : Rdr} {w wx : World} {P q c : Nat} (x : Int) (h : At d w P q wx) (hq : w.heap.size ≤ q) (hr : d.r < w.heap.size) (hc : c < 6) : At d w P q (wx.setCell ⟨q, c, none⟩ (.int .i64 x)) := by
  obtain ⟨p, b, hp, hR, hM, hV⟩ := h
  obtain ⟨b', hV'⟩ := var_set x hV hc
  refine ⟨p, b', hp, rd_set hR _ _ (by dsimp only; omega), ?_, hV'⟩
  obtain ⟨m1, m2, m3, m4, m5⟩ := hM
  refine ⟨by rw [World.size_setCell]; exact m1, fun z r hz hne => ?_, fun z r hz => ?_, fun B hB hg => ?_, fun z o hz hr' => ?_⟩
  · rw [cell_off _ _ _ _ _ _ (Or.inl (by omega))]; exact m2 z r hz hne
  · rw [World.frozen?_setCell]; exact m3 z r hz
  · have hh := m4 B hB hg
    have h1 := hB.size
    exact hh.setCell (by dsimp only; omega) _
  · exact room_set (m5 z o hz hr') _ _ (by dsimp only; omega)

end Go.Proofs.YtpdcgjkfilohcabGreat

namespace Go.Proofs.YtpdcgjkfilohcabGreat
open Go.RowKit
attribute [local go_sem ↓] Go.wp_at_zero Go.wp_at_succ

/-- Where a drawing call stands that has a variable q and a result t. -/
def At2 (d : Rdr) (w : World) (q t : Nat) (P : Nat) (b : Bx) (wx : World) : Prop :=
  (∃ p, p ≤ P ∧ Rd d wx p) ∧ Mk d.at w wx ∧ Var wx q b ∧ (∃ b0, Var wx t b0) ∧ w.heap.size ≤ q ∧ w.heap.size ≤ t ∧ q ≠ t

theorem var_other {w : World} {q t c : Nat} {b : Bx} (v : Value) (h : Var w t b) (hne : t ≠ q) : Var (w.setCell ⟨q, c, none⟩ v) t b := by
  obtain ⟨h1, ⟨c0, c1, c2, c3, c4, c5⟩, f⟩ := h
  have k : ∀ r, (w.setCell ⟨q, c, none⟩ v).cell? ⟨t, r, none⟩ = w.cell? ⟨t, r, none⟩ := fun r => cell_off _ _ _ _ _ _ (Or.inl hne)
  have hf : ∀ p, (w.setCell ⟨q, c, none⟩ v).frozen? p = w.frozen? p := fun p => World.frozen?_setCell _ _ _ _
  refine ⟨by rw [World.size_setCell]; exact h1, ⟨(k _).trans c0, (k _).trans c1, (k _).trans c2, (k _).trans c3, (k _).trans c4, (k _).trans c5⟩, ?_⟩
  simp only [hf]
  exact f
theorem mk_set {d : Rdr} {w wx : World} {q c : Nat} (v : Value) (hM : Mk d.at w wx) (hq : w.heap.size ≤ q) : Mk d.at w (wx.setCell ⟨q, c, none⟩ v) := by
  obtain ⟨m1, m2, m3, m4, m5⟩ := hM
  refine ⟨by rw [World.size_setCell]; exact m1, fun z r hz hne => ?_, fun z r hz => ?_, fun B hB hg => ?_, fun z o hz hr' => ?_⟩
  · rw [cell_off _ _ _ _ _ _ (Or.inl (by omega))]; exact m2 z r hz hne
  · rw [World.frozen?_setCell]; exact m3 z r hz
  · have h1 := hB.size
    exact (m4 B hB hg).setCell (by dsimp only; omega) _
  · exact room_set (m5 z o hz hr') _ _ (by dsimp only; omega)

theorem at2_set {d : Rdr} {w : World} {q t : Nat} {P : Nat} {b : Bx} {wx : World} (c : Nat) (x : Int) (h : At2 d w q t P b wx) (hr : d.r < w.heap.size) (hc : c < 6) : ∃ b', At2 d w q t P b' (wx.setCell ⟨q, c, none⟩ (.int .i64 x)) := by
  obtain ⟨⟨p, hp, hR⟩, hM, hV, ⟨b0, hT⟩, hq, ht, hne⟩ := h
  obtain ⟨b', hV'⟩ := var_set x hV hc
  exact ⟨b', ⟨p, hp, rd_set hR _ _ (by dsimp only; omega)⟩, mk_set _ hM hq, hV', ⟨b0, var_other _ hT (fun e => hne e.symm)⟩, hq, ht, hne⟩
theorem at2_pick {d : Rdr} {w : World} {q t : Nat} {P p : Nat} {b : Bx} {wx w' : World} (h : At2 d w q t P b wx) (hR : Rd d w' p) (hM : Mk d.at wx w') (hr : d.r < w.heap.size) (hp : p ≤ P + 1) : At2 d w q t (P + 1) b w' := by
  obtain ⟨-, hM0, hV, ⟨b0, hT⟩, hq, ht, hne⟩ := h
  refine ⟨⟨p, hp, hR⟩, hM0.trans hM, var_mk hV hM (fun g o sp e => ?_), ⟨b0, var_mk hT hM (fun g o sp e => ?_)⟩, hq, ht, hne⟩
  all_goals
    simp only [Rdr.at, Option.some.injEq, Addr.mk.injEq] at e
    obtain ⟨rfl, -, -⟩ := e
    omega
theorem at2_gr {d : Rdr} {w : World} {q t : Nat} {P : Nat} {b : Bx} {wx w' : World} (h : At2 d w q t P b wx) (g : Gr wx w') : At2 d w q t P b w' := by
  obtain ⟨⟨p, hp, hR⟩, hM0, hV, ⟨b0, hT⟩, hq, ht, hne⟩ := h
  exact ⟨⟨p, hp, rd_gr hR g⟩, hM0.trans (Mk.of_gr g), var_gr hV g, ⟨b0, var_gr hT g⟩, hq, ht, hne⟩
theorem at2_q {d : Rdr} {w : World} {q t : Nat} {P : Nat} {b : Bx} {wx : World} (h : At2 d w q t P b wx) : q < wx.heap.size ∧ wx.cell? ⟨q, 0, none⟩ = some (.int .i64 b.x) ∧ wx.cell? ⟨q, 1, none⟩ = some (.int .i64 b.y) ∧ wx.cell? ⟨q, 2, none⟩ = some (.int .i64 b.l) ∧ wx.cell? ⟨q, 3, none⟩ = some (.int .i64 b.h) ∧ wx.cell? ⟨q, 4, none⟩ = some (.int .i64 b.i) ∧ wx.cell? ⟨q, 5, none⟩ = some (.int .i64 b.o) ∧ wx.frozen? ⟨q, 0, none⟩ = false ∧ wx.frozen? ⟨q, 1, none⟩ = false ∧ wx.frozen? ⟨q, 2, none⟩ = false ∧ wx.frozen? ⟨q, 3, none⟩ = false ∧ wx.frozen? ⟨q, 4, none⟩ = false ∧ wx.frozen? ⟨q, 5, none⟩ = false :=
  ⟨h.2.2.1.1, h.2.2.1.2.1.1, h.2.2.1.2.1.2.1, h.2.2.1.2.1.2.2.1, h.2.2.1.2.1.2.2.2.1, h.2.2.1.2.1.2.2.2.2.1, h.2.2.1.2.1.2.2.2.2.2, h.2.2.1.2.2⟩

theorem at2_t {d : Rdr} {w : World} {q t : Nat} {P : Nat} {b : Bx} {wx : World} (h : At2 d w q t P b wx) : ∃ c : Bx, t < wx.heap.size ∧ wx.cell? ⟨t, 0, none⟩ = some (.int .i64 c.x) ∧ wx.cell? ⟨t, 1, none⟩ = some (.int .i64 c.y) ∧ wx.cell? ⟨t, 2, none⟩ = some (.int .i64 c.l) ∧ wx.cell? ⟨t, 3, none⟩ = some (.int .i64 c.h) ∧ wx.cell? ⟨t, 4, none⟩ = some (.int .i64 c.i) ∧ wx.cell? ⟨t, 5, none⟩ = some (.int .i64 c.o) ∧ wx.frozen? ⟨t, 0, none⟩ = false ∧ wx.frozen? ⟨t, 1, none⟩ = false ∧ wx.frozen? ⟨t, 2, none⟩ = false ∧ wx.frozen? ⟨t, 3, none⟩ = false ∧ wx.frozen? ⟨t, 4, none⟩ = false ∧ wx.frozen? ⟨t, 5, none⟩ = false := by
  obtain ⟨b0, h1⟩ := h.2.2.2.1
  exact ⟨b0, h1.1, h1.2.1.1, h1.2.1.2.1, h1.2.1.2.2.1, h1.2.1.2.2.2.1, h1.2.1.2.2.2.2.1, h1.2.1.2.2.2.2.2, h1.2.2⟩
theorem at2_fin {d : Rdr} {w : World} {q t : Nat} {P : Nat} {b : Bx} {wx : World} (v0 v1 v2 v3 v4 v5 : Value) (h : At2 d w q t P b wx) (hr : d.r < w.heap.size) : (∃ p, Rd d ((((((wx.setCell ⟨t, 0, none⟩ v0).setCell ⟨t, 1, none⟩ v1).setCell ⟨t, 2, none⟩ v2).setCell ⟨t, 3, none⟩ v3).setCell ⟨t, 4, none⟩ v4).setCell ⟨t, 5, none⟩ v5) p ∧ p ≤ P) ∧ Mk d.at w ((((((wx.setCell ⟨t, 0, none⟩ v0).setCell ⟨t, 1, none⟩ v1).setCell ⟨t, 2, none⟩ v2).setCell ⟨t, 3, none⟩ v3).setCell ⟨t, 4, none⟩ v4).setCell ⟨t, 5, none⟩ v5) := by
  obtain ⟨⟨p, hp, hR⟩, hM, -, -, -, ht, -⟩ := h
  exact ⟨⟨p, rd_set (rd_set (rd_set (rd_set (rd_set (rd_set hR _ _ (by dsimp only; omega)) _ _ (by dsimp only; omega)) _ _ (by dsimp only; omega)) _ _ (by dsimp only; omega)) _ _ (by dsimp only; omega)) _ _ (by dsimp only; omega), hp⟩,
    mk_set _ (mk_set _ (mk_set _ (mk_set _ (mk_set _ (mk_set _ hM ht) ht) ht) ht) ht) ht⟩

end Go.Proofs.YtpdcgjkfilohcabGreat
