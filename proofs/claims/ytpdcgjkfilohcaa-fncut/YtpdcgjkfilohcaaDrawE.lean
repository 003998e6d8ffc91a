import Derived.Test.YtpdcgjkfilohcaaDrawC
namespace Go.Proofs.Ytpdcgjkfilohcaa
open Go.RowKit
attribute [local go_sem ↓] Go.wp_at_zero Go.wp_at_succ

/-- But for one block nothing has turned. -/
abbrev But (r : Nat) (w w' : World) : Prop := w.grownBy w' (some r)
theorem But.of_gr {r : Nat} {w w' : World} (g : Gr w w') : But r w w' := ⟨Below.os g, Below.tape g, Below.output g, Below.size g, fun k hk _ => Below.block g k hk⟩
theorem But.trans {r : Nat} {w w' w'' : World} (h : But r w w') (k : But r w' w'') : But r w w'' :=
  ⟨k.os.trans h.os, k.tape.trans h.tape, k.output.trans h.output, Nat.le_trans h.size k.size, fun q hq hne => (k.block q (Nat.lt_of_lt_of_le hq h.size) hne).trans (h.block q hq hne)⟩
theorem But.cell {r : Nat} {w w' : World} (h : But r w w') {q : Nat} (hq : q < w.heap.size) (hne : q ≠ r) (o : Nat) : w'.cell? ⟨q, o, none⟩ = w.cell? ⟨q, o, none⟩ := World.cell?_of_block (w := w) (h.block q hq (by simpa using hne))
theorem But.frozen {r : Nat} {w w' : World} (h : But r w w') {q : Nat} (hq : q < w.heap.size) (hne : q ≠ r) (o : Nat) : w'.frozen? ⟨q, o, none⟩ = w.frozen? ⟨q, o, none⟩ := World.frozen?_of_block (w := w) (h.block q hq (by simpa using hne))
theorem But.gr {r : Nat} {B w w' : World} (h : But r w w') (hB : Gr B w) (hr : B.heap.size ≤ r) : Gr B w' := Below.grown hB h hB.size (fun k e => by cases e; exact hr)
theorem but_set {r : Nat} {w wx : World} {q c : Nat} (v : Value) (hM : But r w wx) (hq : w.heap.size ≤ q) : But r w (wx.setCell ⟨q, c, none⟩ v) :=
  ⟨hM.os, hM.tape, hM.output, by rw [World.size_setCell]; exact hM.size, fun k hk hne => (Below.heap_setCell wx ⟨q, c, none⟩ v k (by dsimp only; omega)).trans (hM.block k hk hne)⟩
theorem but_pick {r : Nat} {w : World} (v : Value) (m : Nat) : But r w ((w.setCell ⟨r, 1, none⟩ v).drewN m) := by
  have h0 : ((w.setCell ⟨r, 1, none⟩ v).drewN m).heap = (w.setCell ⟨r, 1, none⟩ v).heap := rfl
  refine ⟨rfl, rfl, rfl, by rw [h0]; simp [World.setCell], fun k hk hne => ?_⟩
  rw [h0]
  exact Below.heap_setCell w ⟨r, 1, none⟩ v k (fun e => hne (by rw [e]))
theorem rd_pickB (d : Rdr) (p : Nat) (n : Int) (w : World) (h : Rd d w p) (hp : p ≤ 1000000) (h1 : 1 ≤ n) (h2 : n ≤ 1000) :
    Calls Try.prog 48 #[.pointer (some ⟨d.r, 0, none⟩), .int .i64 n] w fun e w' => (∃ x : Int, e = .returned (.int .i64 x) ∧ 0 ≤ x ∧ x < n) ∧ Rd d w' (p + 1) ∧ But d.r w w' := by
  refine (pick_any d.r d.a d.cap d.bs p n w h.1 h.2.1 hp h1 h2 h.2.2.1 h.2.2.2.1 h.2.2.2.2.1 h.2.2.2.2.2.2).mono ?_
  rintro e w' ⟨x, m, rfl, x0, x1, rfl⟩
  exact ⟨⟨x, rfl, x0, x1⟩, (rd_step h).1, but_pick _ _⟩
theorem var_but {r : Nat} {w w' : World} {q : Nat} {b : Bx} (h : Var w q b) (m : But r w w') (hne : q ≠ r) : Var w' q b := by
  obtain ⟨h1, ⟨c0, c1, c2, c3, c4, c5⟩, f0, f1, f2, f3, f4, f5⟩ := h
  have c := fun o => m.cell h1 hne o
  have f := fun o => m.frozen h1 hne o
  exact ⟨Nat.lt_of_lt_of_le h1 m.size, ⟨(c _).trans c0, (c _).trans c1, (c _).trans c2, (c _).trans c3, (c _).trans c4, (c _).trans c5⟩, (f _).trans f0, (f _).trans f1, (f _).trans f2, (f _).trans f3, (f _).trans f4, (f _).trans f5⟩

/-- Where a drawing call stands that has a variable q and a result t. -/
def At3 (d : Rdr) (w : World) (q t : Nat) (P : Nat) (b : Bx) (wx : World) : Prop :=
  (∃ p, p ≤ P ∧ Rd d wx p) ∧ But d.r w wx ∧ Var wx q b ∧ (∃ b0, Var wx t b0) ∧ w.heap.size ≤ q ∧ w.heap.size ≤ t ∧ q ≠ t

theorem at3_set {d : Rdr} {w : World} {q t : Nat} {P : Nat} {b : Bx} {wx : World} (c : Nat) (x : Int) (h : At3 d w q t P b wx) (hr : d.r < w.heap.size) (hc : c < 6) : ∃ b', At3 d w q t P b' (wx.setCell ⟨q, c, none⟩ (.int .i64 x)) := by
  obtain ⟨⟨p, hp, hR⟩, hM, hV, ⟨b0, hT⟩, hq, ht, hne⟩ := h
  obtain ⟨b', hV'⟩ := var_set x hV hc
  exact ⟨b', ⟨p, hp, rd_set hR _ _ (by dsimp only; omega)⟩, but_set _ hM hq, hV', ⟨b0, var_other _ hT (fun e => hne e.symm)⟩, hq, ht, hne⟩
theorem at3_pick {d : Rdr} {w : World} {q t : Nat} {P p : Nat} {b : Bx} {wx w' : World} (h : At3 d w q t P b wx) (hR : Rd d w' p) (hM : But d.r wx w') (hr : d.r < w.heap.size) (hp : p ≤ P + 1) : At3 d w q t (P + 1) b w' := by
  obtain ⟨-, hM0, hV, ⟨b0, hT⟩, hq, ht, hne⟩ := h
  exact ⟨⟨p, hp, hR⟩, hM0.trans hM, var_but hV hM (by omega), ⟨b0, var_but hT hM (by omega)⟩, hq, ht, hne⟩
theorem at3_gr {d : Rdr} {w : World} {q t : Nat} {P : Nat} {b : Bx} {wx w' : World} (h : At3 d w q t P b wx) (g : Gr wx w') : At3 d w q t P b w' := by
  obtain ⟨⟨p, hp, hR⟩, hM0, hV, ⟨b0, hT⟩, hq, ht, hne⟩ := h
  exact ⟨⟨p, hp, rd_gr hR g⟩, hM0.trans (But.of_gr g), var_gr hV g, ⟨b0, var_gr hT g⟩, hq, ht, hne⟩
theorem at3_q {d : Rdr} {w : World} {q t : Nat} {P : Nat} {b : Bx} {wx : World} (h : At3 d w q t P b wx) : q < wx.heap.size ∧ wx.cell? ⟨q, 0, none⟩ = some (.int .i64 b.x) ∧ wx.cell? ⟨q, 1, none⟩ = some (.int .i64 b.y) ∧ wx.cell? ⟨q, 2, none⟩ = some (.int .i64 b.l) ∧ wx.cell? ⟨q, 3, none⟩ = some (.int .i64 b.h) ∧ wx.cell? ⟨q, 4, none⟩ = some (.int .i64 b.i) ∧ wx.cell? ⟨q, 5, none⟩ = some (.int .i64 b.o) ∧ wx.frozen? ⟨q, 0, none⟩ = false ∧ wx.frozen? ⟨q, 1, none⟩ = false ∧ wx.frozen? ⟨q, 2, none⟩ = false ∧ wx.frozen? ⟨q, 3, none⟩ = false ∧ wx.frozen? ⟨q, 4, none⟩ = false ∧ wx.frozen? ⟨q, 5, none⟩ = false :=
  ⟨h.2.2.1.1, h.2.2.1.2.1.1, h.2.2.1.2.1.2.1, h.2.2.1.2.1.2.2.1, h.2.2.1.2.1.2.2.2.1, h.2.2.1.2.1.2.2.2.2.1, h.2.2.1.2.1.2.2.2.2.2, h.2.2.1.2.2⟩

theorem at3_t {d : Rdr} {w : World} {q t : Nat} {P : Nat} {b : Bx} {wx : World} (h : At3 d w q t P b wx) : ∃ c : Bx, t < wx.heap.size ∧ wx.cell? ⟨t, 0, none⟩ = some (.int .i64 c.x) ∧ wx.cell? ⟨t, 1, none⟩ = some (.int .i64 c.y) ∧ wx.cell? ⟨t, 2, none⟩ = some (.int .i64 c.l) ∧ wx.cell? ⟨t, 3, none⟩ = some (.int .i64 c.h) ∧ wx.cell? ⟨t, 4, none⟩ = some (.int .i64 c.i) ∧ wx.cell? ⟨t, 5, none⟩ = some (.int .i64 c.o) ∧ wx.frozen? ⟨t, 0, none⟩ = false ∧ wx.frozen? ⟨t, 1, none⟩ = false ∧ wx.frozen? ⟨t, 2, none⟩ = false ∧ wx.frozen? ⟨t, 3, none⟩ = false ∧ wx.frozen? ⟨t, 4, none⟩ = false ∧ wx.frozen? ⟨t, 5, none⟩ = false := by
  obtain ⟨b0, h1⟩ := h.2.2.2.1
  exact ⟨b0, h1.1, h1.2.1.1, h1.2.1.2.1, h1.2.1.2.2.1, h1.2.1.2.2.2.1, h1.2.1.2.2.2.2.1, h1.2.1.2.2.2.2.2, h1.2.2⟩
theorem at3_fin {d : Rdr} {w : World} {q t : Nat} {P : Nat} {b : Bx} {wx : World} (v0 v1 v2 v3 v4 v5 : Value) (h : At3 d w q t P b wx) (hr : d.r < w.heap.size) : (∃ p, Rd d ((((((wx.setCell ⟨t, 0, none⟩ v0).setCell ⟨t, 1, none⟩ v1).setCell ⟨t, 2, none⟩ v2).setCell ⟨t, 3, none⟩ v3).setCell ⟨t, 4, none⟩ v4).setCell ⟨t, 5, none⟩ v5) p ∧ p ≤ P) ∧ But d.r w ((((((wx.setCell ⟨t, 0, none⟩ v0).setCell ⟨t, 1, none⟩ v1).setCell ⟨t, 2, none⟩ v2).setCell ⟨t, 3, none⟩ v3).setCell ⟨t, 4, none⟩ v4).setCell ⟨t, 5, none⟩ v5) := by
  obtain ⟨⟨p, hp, hR⟩, hM, -, -, -, ht, -⟩ := h
  exact ⟨⟨p, rd_set (rd_set (rd_set (rd_set (rd_set (rd_set hR _ _ (by dsimp only; omega)) _ _ (by dsimp only; omega)) _ _ (by dsimp only; omega)) _ _ (by dsimp only; omega)) _ _ (by dsimp only; omega)) _ _ (by dsimp only; omega), hp⟩,
    but_set _ (but_set _ (but_set _ (but_set _ (but_set _ (but_set _ hM ht) ht) ht) ht) ht) ht⟩

set_option maxRecDepth 100000 in
set_option maxHeartbeats 4000000 in
theorem drawBox_but (d : Rdr) (p : Nat) (w : World) (h : Rd d w p) (hp : p ≤ 900000) :
    Calls Try.prog 86 #[.pointer (some ⟨d.r, 0, none⟩)] w fun e w' => (∃ b : Bx, e = .returned (.agg #[.int .i64 b.x, .int .i64 b.y, .int .i64 b.l, .int .i64 b.h, .int .i64 b.i, .int .i64 b.o])) ∧ (∃ p', Rd d w' p' ∧ p' ≤ p + 12) ∧ But d.r w w' := by
  have hr : d.r < w.heap.size := h.2.2.2.2.2.1
  have R := rd_gr h ((Gr.refl w).alloc (.cells #[.int .i64 0, .int .i64 0, .int .i64 0, .int .i64 0, .int .i64 0, .int .i64 0] 36))
  have M : But d.r w (w.alloc (.cells #[.int .i64 0, .int .i64 0, .int .i64 0, .int .i64 0, .int .i64 0, .int .i64 0] 36)) := But.of_gr ((Gr.refl w).alloc _)
  have T : Var (w.alloc (.cells #[.int .i64 0, .int .i64 0, .int .i64 0, .int .i64 0, .int .i64 0, .int .i64 0] 36)) w.heap.size Bx.nil := var_new (b := Bx.nil) (Gr.refl _)
  have hne : w.heap.size ≠ d.r := by omega
  clear h
  go_enter Try.func86, Try.ntmps86
  go_wp2_with fail
  refine (rd_pickB d _ _ _ R (by omega) (by omega) (by omega)).mono ?_
  rintro e w1 ⟨⟨x1, rfl, -, -⟩, R1, M1⟩
  replace M := M.trans M1
  replace T := var_but T M1 hne
  clear R M1
  have R := R1
  clear R1
  go_wp2_with fail
  refine (rd_pickB d _ _ _ R (by omega) (by omega) (by omega)).mono ?_
  rintro e w2 ⟨⟨x2, rfl, -, -⟩, R2, M2⟩
  replace M := M.trans M2
  replace T := var_but T M2 hne
  clear R M2
  have R := R2
  clear R2
  go_wp2_with fail
  refine (rd_pickB d _ _ _ R (by omega) (by omega) (by omega)).mono ?_
  rintro e w3 ⟨⟨x3, rfl, -, -⟩, R3, M3⟩
  replace M := M.trans M3
  replace T := var_but T M3 hne
  clear R M3
  have R := R3
  clear R3
  go_wp2_with fail
  refine (rd_pickB d _ _ _ R (by omega) (by omega) (by omega)).mono ?_
  rintro e w4 ⟨⟨x4, rfl, -, -⟩, R4, M4⟩
  replace M := M.trans M4
  replace T := var_but T M4 hne
  clear R M4
  have R := R4
  clear R4
  go_upto_region 2 with fail
  have A : At3 d w w4.heap.size w.heap.size (p + 4) ⟨x1, x2, x3, 0, x4, 0⟩ (w4.alloc (.cells #[.int .i64 x1, .int .i64 x2, .int .i64 x3, .int .i64 0, .int .i64 x4, .int .i64 0] 36)) := by
    have hT := T.1
    have hM := M.size
    exact ⟨⟨_, Nat.le_refl _, rd_gr R ((Gr.refl _).alloc _)⟩, M.trans (But.of_gr ((Gr.refl _).alloc _)), var_new (b := ⟨x1, x2, x3, 0, x4, 0⟩) (Gr.refl _), ⟨Bx.nil, var_gr T ((Gr.refl _).alloc _)⟩, by omega, by omega, by omega⟩
  clear R M T
  go_cut [] (fun wx => ∃ b, At3 d w w4.heap.size w.heap.size (p + 5) b wx)
  case first =>
    obtain ⟨pp, hpp, hR⟩ := A.1
    obtain ⟨-, u0, u1, u2, u3, u4, u5, v0, v1, v2, v3, v4, v5⟩ := at3_q A
    go_region_with (first
      | (go_at_call 48; refine (rd_pickB d _ _ _ (rd_gr hR (Gr.refl _).drew) (by omega) (by omega) (by omega)).mono ?_; rintro e w9 ⟨⟨x9, rfl, -, -⟩, R9, M9⟩; have A9 := at3_pick (at3_gr A (Gr.refl _).drew) R9 M9 hr (by omega); obtain ⟨-, k0, k1, k2, k3, k4, k5, z0, z1, z2, z3, z4, z5⟩ := at3_q A9))
    all_goals (go_wp2_with fail; go_meet)
    all_goals exact at3_set 3 _ A9 hr (by omega)
  obtain ⟨b5, A5⟩ := hcut
  clear A
  have A := A5
  clear A5
  go_upto_region 3 with fail
  go_cut [] (fun wx => ∃ b, At3 d w w4.heap.size w.heap.size (p + 6) b wx)
  case first =>
    obtain ⟨pp, hpp, hR⟩ := A.1
    obtain ⟨-, u0, u1, u2, u3, u4, u5, v0, v1, v2, v3, v4, v5⟩ := at3_q A
    go_region_with (first
      | (go_at_call 48; refine (rd_pickB d _ _ _ (rd_gr hR (Gr.refl _).drew) (by omega) (by omega) (by omega)).mono ?_; rintro e w9 ⟨⟨x9, rfl, -, -⟩, R9, M9⟩; have A9 := at3_pick (at3_gr A (Gr.refl _).drew) R9 M9 hr (by omega); obtain ⟨-, k0, k1, k2, k3, k4, k5, z0, z1, z2, z3, z4, z5⟩ := at3_q A9))
    all_goals (go_wp2_with fail; go_meet)
    all_goals exact at3_set 5 _ A9 hr (by omega)
  obtain ⟨b6, A6⟩ := hcut
  clear A
  have A := A6
  clear A6
  go_wp2_with fail
  obtain ⟨pp, hpp, hR⟩ := A.1
  refine (rd_pickB d _ _ _ hR (by omega) (by omega) (by omega)).mono ?_
  rintro e w9 ⟨⟨x9, rfl, -, -⟩, R9, M9⟩
  replace A := at3_pick A R9 M9 hr (by omega)
  clear hR R9 M9
  obtain ⟨hq, u0, u1, u2, u3, u4, u5, v0, v1, v2, v3, v4, v5⟩ := at3_q A
  by_cases h0 : x9 = 0
  · have e0 : (x9 == 0) = true := by simp [h0]
    clear h0
    go_wp2_with fail
    obtain ⟨pp, hpp, hR⟩ := A.1
    refine (rd_pickB d _ _ _ hR (by omega) (by omega) (by omega)).mono ?_
    rintro e w10 ⟨⟨x10, rfl, b0, b1⟩, R9, M9⟩
    replace A := at3_pick A R9 M9 hr (by omega)
    clear hR R9 M9 u0 u1 u2 u3 u4 u5 v0 v1 v2 v3 v4 v5
    obtain ⟨hq, u0, u1, u2, u3, u4, u5, v0, v1, v2, v3, v4, v5⟩ := at3_q A
    obtain ⟨c, ht, t0, t1, t2, t3, t4, t5, y0, y1, y2, y3, y4, y5⟩ := at3_t A
    have n1 : ¬ w4.heap.size = w.heap.size := A.2.2.2.2.2.2
    have n2 : ¬ w.heap.size = w4.heap.size := fun e => n1 e.symm
    obtain ⟨b9, AA⟩ := at3_set 0 (15 - x10) A hr (by omega)
    have F := at3_fin (.int .i64 (15 - x10)) (.int .i64 (b6.y)) (.int .i64 (b6.l)) (.int .i64 (b6.h)) (.int .i64 (b6.i)) (.int .i64 (b6.o)) AA hr
    have HF : Hid _ := F
    clear F AA
    go_wp2
    refine bodyPost_ret (v := .agg #[.int .i64 (15 - x10), .int .i64 (b6.y), .int .i64 (b6.l), .int .i64 (b6.h), .int .i64 (b6.i), .int .i64 (b6.o)]) (by simp [results, Try.results86, go_sem, *]) rfl ⟨⟨⟨15 - x10, b6.y, b6.l, b6.h, b6.i, b6.o⟩, rfl⟩, ?_, HF.out.2⟩
    obtain ⟨p', hR', hp'⟩ := HF.out.1
    exact ⟨p', hR', by omega⟩
  have e0 : (x9 == 0) = false := by simp [h0]
  by_cases h1 : x9 = 1
  · have e1 : (x9 == 1) = true := by simp [h1]
    clear h0 h1
    obtain ⟨b7, A7⟩ := at3_set 5 10000 A hr (by omega)
    go_wp2_with fail
    obtain ⟨pp, hpp, hR⟩ := A7.1
    refine (rd_pickB d _ _ _ hR (by omega) (by omega) (by omega)).mono ?_
    rintro e w10 ⟨⟨x10, rfl, b0, b1⟩, R9, M9⟩
    clear A
    have A := at3_pick A7 R9 M9 hr (by omega)
    clear A7 hR R9 M9 u0 u1 u2 u3 u4 u5 v0 v1 v2 v3 v4 v5
    obtain ⟨hq, u0, u1, u2, u3, u4, u5, v0, v1, v2, v3, v4, v5⟩ := at3_q A
    obtain ⟨c, ht, t0, t1, t2, t3, t4, t5, y0, y1, y2, y3, y4, y5⟩ := at3_t A
    have n1 : ¬ w4.heap.size = w.heap.size := A.2.2.2.2.2.2
    have n2 : ¬ w.heap.size = w4.heap.size := fun e => n1 e.symm
    obtain ⟨b9, AA⟩ := at3_set 4 (10000 - x10) A hr (by omega)
    have F := at3_fin (.int .i64 (b7.x)) (.int .i64 (b7.y)) (.int .i64 (b7.l)) (.int .i64 (b7.h)) (.int .i64 (10000 - x10)) (.int .i64 (b7.o)) AA hr
    have HF : Hid _ := F
    clear F AA
    go_wp2
    refine bodyPost_ret (v := .agg #[.int .i64 (b7.x), .int .i64 (b7.y), .int .i64 (b7.l), .int .i64 (b7.h), .int .i64 (10000 - x10), .int .i64 (b7.o)]) (by simp [results, Try.results86, go_sem, *]) rfl ⟨⟨⟨b7.x, b7.y, b7.l, b7.h, 10000 - x10, b7.o⟩, rfl⟩, ?_, HF.out.2⟩
    obtain ⟨p', hR', hp'⟩ := HF.out.1
    exact ⟨p', hR', by omega⟩
  have e1 : (x9 == 1) = false := by simp [h1]
  by_cases h2 : x9 = 2
  · have e2 : (x9 == 2) = true := by simp [h2]
    clear h0 h1 h2
    obtain ⟨c, ht, t0, t1, t2, t3, t4, t5, y0, y1, y2, y3, y4, y5⟩ := at3_t A
    have n1 : ¬ w4.heap.size = w.heap.size := A.2.2.2.2.2.2
    have n2 : ¬ w.heap.size = w4.heap.size := fun e => n1 e.symm
    obtain ⟨b9, AA⟩ := at3_set 3 6 A hr (by omega)
    have F := at3_fin (.int .i64 (b6.x)) (.int .i64 (b6.y)) (.int .i64 (b6.l)) (.int .i64 (6)) (.int .i64 (b6.i)) (.int .i64 (b6.o)) AA hr
    have HF : Hid _ := F
    clear F AA
    go_wp2
    refine bodyPost_ret (v := .agg #[.int .i64 (b6.x), .int .i64 (b6.y), .int .i64 (b6.l), .int .i64 (6), .int .i64 (b6.i), .int .i64 (b6.o)]) (by simp [results, Try.results86, go_sem, *]) rfl ⟨⟨⟨b6.x, b6.y, b6.l, 6, b6.i, b6.o⟩, rfl⟩, ?_, HF.out.2⟩
    obtain ⟨p', hR', hp'⟩ := HF.out.1
    exact ⟨p', hR', by omega⟩
  have e2 : (x9 == 2) = false := by simp [h2]
  clear h0 h1 h2
  obtain ⟨c, ht, t0, t1, t2, t3, t4, t5, y0, y1, y2, y3, y4, y5⟩ := at3_t A
  have F := at3_fin (.int .i64 (b6.x)) (.int .i64 (b6.y)) (.int .i64 (b6.l)) (.int .i64 (b6.h)) (.int .i64 (b6.i)) (.int .i64 (b6.o)) A hr
  obtain ⟨-, u0, u1, u2, u3, u4, u5, -⟩ := at3_q A
  go_wp2
  refine bodyPost_ret (v := .agg #[.int .i64 (b6.x), .int .i64 (b6.y), .int .i64 (b6.l), .int .i64 (b6.h), .int .i64 (b6.i), .int .i64 (b6.o)]) (by simp [results, Try.results86, go_sem, *]) rfl ⟨⟨⟨b6.x, b6.y, b6.l, b6.h, b6.i, b6.o⟩, rfl⟩, ?_, F.2⟩
  obtain ⟨p', hR', hp'⟩ := F.1
  exact ⟨p', hR', by omega⟩

end Go.Proofs.Ytpdcgjkfilohcaa
