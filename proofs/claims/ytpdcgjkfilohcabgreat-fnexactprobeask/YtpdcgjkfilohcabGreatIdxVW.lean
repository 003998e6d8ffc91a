import Derived.Test.YtpdcgjkfilohcabGreatIdxR
import Derived.Test.YtpdcgjkfilohcabGreatIdxT
namespace Go.Proofs.YtpdcgjkfilohcabGreat
open Go.RowKit Go.Sort Go.Maps
attribute [local go_sem ↓] Go.wp_at_zero Go.wp_at_succ
set_option linter.unusedSimpArgs false
set_option linter.unusedVariables false

/-! An index that came in: its size, its copies. -/

/-- A cell that came in. -/
structure Ce where
  x : Int
  y : Int
  a : Option Addr
  cap : Nat
  ss : List Sl
def Ce.nil : Ce := ⟨0, 0, none, 0, []⟩
def CeAt (w : World) (g o : Nat) (c : Ce) : Prop := w.cell? ⟨g, o, none⟩ = some (.int .i64 c.x) ∧ w.cell? ⟨g, o + 1, none⟩ = some (.int .i64 c.y) ∧ w.cell? ⟨g, o + 2, none⟩ = some (.slice c.a c.ss.length c.cap)
def Cells (w : World) (a : Option Addr) (cs : List Ce) : Prop := ∀ k, k < cs.length → ∃ g o, a = some ⟨g, o, none⟩ ∧ g < w.heap.size ∧ CeAt w g (o + k * 3) (cs.getD k Ce.nil) ∧ Slots w (cs.getD k Ce.nil).a (cs.getD k Ce.nil).ss
/-- What can be read is no longer than memory. -/
def FitsX (cs : List Ce) : Prop := cs.length ≤ maxLen ∧ ∀ k, k < cs.length → (cs.getD k Ce.nil).ss.length ≤ maxLen ∧ Wk ((cs.getD k Ce.nil).x, (cs.getD k Ce.nil).y) ∧ ∀ j, j < (cs.getD k Ce.nil).ss.length → ((cs.getD k Ce.nil).ss.getD j Sl.nil).s.size ≤ maxLen
def ceIdx (cs : List Ce) : List Cl := cs.map fun c => ((c.x, c.y), c.ss)
theorem ceAt_gr {w wr : World} {g o : Nat} {c : Ce} (h : CeAt w g o c) (gr : Gr w wr) (hg : g < w.heap.size) : CeAt wr g o c := by
  obtain ⟨hc, _⟩ := gr.cells
  unfold CeAt at *
  simp only [hc g _ hg]
  exact h
theorem cells_gr {w wr : World} {a : Option Addr} {cs : List Ce} (h : Cells w a cs) (gr : Gr w wr) : Cells wr a cs := fun k hk => by
  obtain ⟨g, o, e, hg, hx, hs⟩ := h k hk
  exact ⟨g, o, e, Nat.lt_of_lt_of_le hg gr.size, ceAt_gr hx gr hg, slots_gr hs gr⟩
def sumTo (cs : List Ce) (k : Nat) : Nat := ((cs.take k).map fun c => c.ss.length).sum
theorem sumTo_succ {cs : List Ce} {k : Nat} (hk : k < cs.length) : sumTo cs (k + 1) = sumTo cs k + (cs.getD k Ce.nil).ss.length := by
  have e : cs.take (k + 1) = cs.take k ++ [cs.getD k Ce.nil] := by
    rw [List.take_add_one, List.getD_eq_getElem?_getD, List.getElem?_eq_getElem hk]
    rfl
  unfold sumTo
  rw [e, List.map_append, List.sum_append]
  simp only [List.map_cons, List.map_nil, List.sum_cons, List.sum_nil, Nat.add_zero]
/-- How great an index may be. -/
def SmallC (cs : List Ce) : Prop := cs.length + sumTo cs cs.length ≤ 1048576
theorem smallC_len {cs : List Ce} (h : SmallC cs) : cs.length ≤ 1048576 ∧ ∀ k, k < cs.length → (cs.getD k Ce.nil).ss.length ≤ 1048576 := by
  unfold SmallC at h
  refine ⟨by omega, fun k hk => ?_⟩
  have h1 : sumTo cs (k + 1) ≤ sumTo cs cs.length := by
    unfold sumTo
    have e : cs = cs.take (k + 1) ++ cs.drop (k + 1) := (List.take_append_drop _ _).symm
    rw [List.take_length]
    conv => rhs; rw [e]
    rw [List.map_append, List.sum_append]
    omega
  rw [sumTo_succ hk] at h1
  omega

set_option maxHeartbeats 1000000 in
theorem szSlot_any (s : Sl) (left : Int) (w : World) (hs : s.s.size ≤ maxLen) (h0 : 0 ≤ left) (h1 : left ≤ 1048576) :
    Calls Tryz.prog 165 #[.agg #[.int .i64 s.i, .int .i64 s.o, .int .i64 s.l, .int .i64 s.h, .string s.s, .int .i64 s.p], .int .i64 left] w fun e w' => (∃ v : Int, e = .returned (.int .i64 v) ∧ (¬ v < 0 → v ≤ left)) ∧ Gr w w' := by
  have hm : s.s.size ≤ 9223372036854775807 := hs
  by_cases hz : left - (s.s.size : Int) < 0
  · go_enter Tryz.func165, Tryz.ntmps165
    go_wp2
    go_ret
    exact ⟨⟨-1, rfl, fun h => by exfalso; omega⟩, (Gr.refl _).alloc _⟩
  · go_enter Tryz.func165, Tryz.ntmps165
    go_wp2
    go_ret
    exact ⟨⟨_, rfl, fun h => by omega⟩, (Gr.refl _).alloc _⟩
set_option maxHeartbeats 1000000 in
theorem szSlotS_any (a : Option Addr) (cap : Nat) (ss : List Sl) (left : Int) (w : World) (ha : Slots w a ss) (hl : ss.length ≤ maxLen) (hs : ∀ j, j < ss.length → (ss.getD j Sl.nil).s.size ≤ maxLen) (h0 : 0 ≤ left) (h1 : left ≤ 1048576) :
    Calls Tryz.prog 142 #[.slice a ss.length cap, .int .i64 left] w fun e w' => (∃ v : Int, e = .returned (.int .i64 v) ∧ (¬ v < 0 → v + ss.length ≤ left)) ∧ Gr w w' := by
  have hm : ss.length ≤ 9223372036854775807 := hl
  by_cases h : left - (ss.length : Int) < 0
  · go_enter Tryz.func142, Tryz.ntmps142
    go_wp2
    go_ret
    exact ⟨⟨-1, rfl, fun h => by exfalso; omega⟩, Gr.refl _⟩
  have HA := hidE ha
  have HS := hidE hs
  clear ha hs
  go_enter Tryz.func142, Tryz.ntmps142
  go_wp2
  go_loopw [1, 5] (fun q i wr => ∃ (k : Nat) (v : Int), k ≤ ss.length ∧ i = .int .i64 k ∧ q = .int .i64 v ∧ 0 ≤ v ∧ v + ss.length ≤ left ∧ Gr w wr) (fun _ i _ => ss.length - (intOf i).toNat)
  case atStart => exact ⟨0, _, Nat.zero_le _, rfl, rfl, by omega, by omega, Gr.refl _⟩
  case round =>
    obtain ⟨k, v, hk, rfl, rfl, hv0, hv1, gr⟩ := hrel
    by_cases hkl : k < ss.length
    · obtain ⟨g, o, rfl, hg, hx⟩ := HA.out k hkl
      have hsz := HS.out k hkl
      have hi0 : (0 : Int) ≤ (k : Int) := by omega
      have hi1 : (k : Int) < (ss.length : Int) := by omega
      generalize ss.getD k Sl.nil = s at *
      obtain ⟨c0, c1, c2, c3, c4, c5⟩ := sixS_gr hx gr hg
      have HZ := hidE (szSlot_any s v wr hsz hv0 (by omega))
      clear hx hsz
      go_wp2_with fail
      (with_reducible refine Calls.mono HZ.out ?_)
      rintro e w1 ⟨⟨v1, rfl, hv2⟩, g1⟩
      by_cases hz : v1 < 0
      · clear hv2
        go_wp2
        go_ret
        exact ⟨⟨-1, rfl, fun h => by exfalso; omega⟩, gr.trans g1⟩
      · have hv3 := hv2 (by omega)
        clear hv2
        go_wp2
        go_roundw
        case rel => exact ⟨k + 1, v1, by omega, by go_num, rfl, by omega, by omega, gr.trans g1⟩
        case measure => simp [intOf]; omega
    · go_wp2
      go_ret
      exact ⟨⟨v, rfl, fun _ => hv1⟩, gr⟩
set_option maxHeartbeats 1000000 in
theorem szCell_any (x y : Int) (a : Option Addr) (cap : Nat) (ss : List Sl) (left : Int) (w : World) (ha : Slots w a ss) (hl : ss.length ≤ maxLen) (hs : ∀ j, j < ss.length → (ss.getD j Sl.nil).s.size ≤ maxLen) (h0 : 0 ≤ left) (h1 : left ≤ 1048576) :
    Calls Tryz.prog 92 #[.agg #[.int .i64 x, .int .i64 y, .slice a ss.length cap], .int .i64 left] w fun e w' => (∃ v : Int, e = .returned (.int .i64 v) ∧ (¬ v < 0 → v + ss.length ≤ left)) ∧ Gr w w' := by
  have HZ := hidE (szSlotS_any a cap ss left (w.alloc (.cells #[.int .i64 x, .int .i64 y, .slice a ss.length cap] 152)) (slots_gr ha ((Gr.refl w).alloc _)) hl hs h0 h1)
  clear ha hs hl
  go_enter Tryz.func92, Tryz.ntmps92
  go_wp2_with fail
  (with_reducible refine Calls.mono HZ.out ?_)
  rintro e w1 ⟨⟨v, rfl, hv⟩, g1⟩
  have HV := hidE hv
  clear hv
  by_cases hz : v < 0
  · go_wp2
    go_ret
    exact ⟨⟨-1, rfl, fun h => by exfalso; omega⟩, ((Gr.refl _).alloc _).trans g1⟩
  · go_wp2
    go_ret
    exact ⟨⟨v, rfl, HV.out⟩, ((Gr.refl _).alloc _).trans g1⟩
set_option maxHeartbeats 1000000 in
theorem szCellS_any (a : Option Addr) (cap : Nat) (cs : List Ce) (left : Int) (w : World) (ha : Cells w a cs) (hF : FitsX cs) (h0 : 0 ≤ left) (h1 : left ≤ 1048576) :
    Calls Tryz.prog 54 #[.slice a cs.length cap, .int .i64 left] w fun e w' => (∃ v : Int, e = .returned (.int .i64 v) ∧ (¬ v < 0 → v + cs.length + sumTo cs cs.length ≤ left)) ∧ Gr w w' := by
  have hm : cs.length ≤ 9223372036854775807 := hF.1
  by_cases h : left - (cs.length : Int) < 0
  · go_enter Tryz.func54, Tryz.ntmps54
    go_wp2
    go_ret
    exact ⟨⟨-1, rfl, fun h => by exfalso; omega⟩, Gr.refl _⟩
  have HA := hidE ha
  have HF := hidE hF.2
  clear ha hF
  go_enter Tryz.func54, Tryz.ntmps54
  go_wp2
  go_loopw [1, 5] (fun q i wr => ∃ (k : Nat) (v : Int), k ≤ cs.length ∧ i = .int .i64 k ∧ q = .int .i64 v ∧ 0 ≤ v ∧ v + cs.length + sumTo cs k ≤ left ∧ Gr w wr) (fun _ i _ => cs.length - (intOf i).toNat)
  case atStart => exact ⟨0, _, Nat.zero_le _, rfl, rfl, by omega, by simp [sumTo], Gr.refl _⟩
  case round =>
    obtain ⟨k, v, hk, rfl, rfl, hv0, hv1, gr⟩ := hrel
    by_cases hkl : k < cs.length
    · obtain ⟨g, o, rfl, hg, hx, hsl⟩ := HA.out k hkl
      obtain ⟨hl, -, hs⟩ := HF.out k hkl
      have hi0 : (0 : Int) ≤ (k : Int) := by omega
      have hi1 : (k : Int) < (cs.length : Int) := by omega
      have HE := hidE (sumTo_succ hkl)
      generalize cs.getD k Ce.nil = c at *
      obtain ⟨cx, cy, ca, cc, ss⟩ := c
      simp only at hl hs hsl HE
      obtain ⟨c0, c1, c2⟩ := ceAt_gr hx gr hg
      simp only at c0 c1 c2
      have HZ := hidE (szCell_any cx cy ca cc ss v wr (slots_gr hsl gr) hl hs hv0 (by omega))
      clear hx hl hs hsl
      go_wp2_with fail
      (with_reducible refine Calls.mono HZ.out ?_)
      rintro e w1 ⟨⟨v1, rfl, hv2⟩, g1⟩
      by_cases hz : v1 < 0
      · clear hv2
        go_wp2
        go_ret
        exact ⟨⟨-1, rfl, fun h => by exfalso; omega⟩, gr.trans g1⟩
      · have hv3 := hv2 (by omega)
        clear hv2
        have hv4 : v1 + cs.length + sumTo cs (k + 1) ≤ left := by have := HE.out; omega
        have HV4 := hidE hv4
        clear hv4
        go_wp2
        go_roundw
        case rel => exact ⟨k + 1, v1, by omega, by go_num, rfl, by omega, HV4.out, gr.trans g1⟩
        case measure => simp [intOf]; omega
    · have e : k = cs.length := by omega
      subst e
      go_wp2
      go_ret
      exact ⟨⟨v, rfl, fun _ => hv1⟩, gr⟩
set_option maxHeartbeats 1000000 in
theorem szIndex_any (a : Option Addr) (cap : Nat) (cs : List Ce) (left : Int) (w : World) (ha : Cells w a cs) (hF : FitsX cs) (h0 : 0 ≤ left) (h1 : left ≤ 1048576) :
    Calls Tryz.prog 30 #[.agg #[.slice a cs.length cap], .int .i64 left] w fun e w' => (∃ v : Int, e = .returned (.int .i64 v) ∧ (¬ v < 0 → SmallC cs ∧ v ≤ left)) ∧ Gr w w' := by
  have HZ := hidE (szCellS_any a cap cs left (w.alloc (.cells #[.slice a cs.length cap] 54)) (cells_gr ha ((Gr.refl w).alloc _)) hF h0 h1)
  clear ha hF
  go_enter Tryz.func30, Tryz.ntmps30
  go_wp2_with fail
  (with_reducible refine Calls.mono HZ.out ?_)
  rintro e w1 ⟨⟨v, rfl, hv⟩, g1⟩
  have HV : Hid (¬ v < 0 → SmallC cs ∧ v ≤ left) := fun h => by
    have := hv (by omega)
    unfold SmallC
    omega
  clear hv
  by_cases hz : v < 0
  · go_wp2
    go_ret
    exact ⟨⟨-1, rfl, fun h => by exfalso; omega⟩, ((Gr.refl _).alloc _).trans g1⟩
  · go_wp2
    go_ret
    exact ⟨⟨v, rfl, HV.out⟩, ((Gr.refl _).alloc _).trans g1⟩

/-! Copies. -/
set_option maxHeartbeats 1000000 in
theorem toSlot_any (s : Sl) (w : World) : Calls Tryz.prog 166 #[.agg #[.int .i64 s.i, .int .i64 s.o, .int .i64 s.l, .int .i64 s.h, .string s.s, .int .i64 s.p]] w fun e w' => e = .returned (.agg #[.int .i64 s.i, .int .i64 s.o, .int .i64 s.l, .int .i64 s.h, .string s.s, .int .i64 s.p]) ∧ Gr w w' := by
  go_enter Tryz.func166, Tryz.ntmps166
  go_wp2
  refine bodyPost_ret (v := .agg #[.int .i64 s.i, .int .i64 s.o, .int .i64 s.l, .int .i64 s.h, .string s.s, .int .i64 s.p]) (by simp [results, Tryz.results166, go_sem]) rfl ⟨rfl, ?_⟩
  repeat (first | exact Gr.refl _ | refine Gr.alloc ?_ _ | refine Gr.setCell ?_ (by simp) _)
/-- A slot, written. -/
def putS (w : World) (g o : Nat) (s : Sl) : World := (((((w.setCell ⟨g, o, none⟩ (.int .i64 s.i)).setCell ⟨g, o + 1, none⟩ (.int .i64 s.o)).setCell ⟨g, o + 2, none⟩ (.int .i64 s.l)).setCell ⟨g, o + 3, none⟩ (.int .i64 s.h)).setCell ⟨g, o + 4, none⟩ (.string s.s)).setCell ⟨g, o + 5, none⟩ (.int .i64 s.p)
theorem set_mid (A C : List Value) (x v : Value) (p i : Nat) (hA : A.length = p) (B : List Value) (hB : B.length = i) : (A ++ B ++ x :: C).set (p + i) v = A ++ B ++ v :: C := by
  rw [List.set_append_right _ _ (by simp; omega)]
  congr 1
  rw [List.length_append, hA, hB, Nat.sub_self]
  rfl
theorem fillS {w : World} {base g n c k : Nat} {e : TypeId} {A : List Sl} {x0 x1 x2 x3 x4 x5 : Value} {C : List Value} (s : Sl) (h : w.ownsRow base e 6 (.slice (some ⟨g, 0, none⟩) n c) n (A.flatMap encS ++ x0 :: x1 :: x2 :: x3 :: x4 :: x5 :: C)) (hk : A.length = k) :
    (putS w g (k * 6) s).ownsRow base e 6 (.slice (some ⟨g, 0, none⟩) n c) n ((A ++ [s]).flatMap encS ++ C) ∧ w.grownBy (putS w g (k * 6) s) (some g) := by
  have hl : (A.flatMap encS).length = k * 6 := by rw [encS_len, hk]
  have s1 := h.stored (k * 6) (.int .i64 s.i)
  have s2 := s1.1.stored (k * 6 + 1) (.int .i64 s.o)
  have s3 := s2.1.stored (k * 6 + 2) (.int .i64 s.l)
  have s4 := s3.1.stored (k * 6 + 3) (.int .i64 s.h)
  have s5 := s4.1.stored (k * 6 + 4) (.string s.s)
  have s6 := s5.1.stored (k * 6 + 5) (.int .i64 s.p)
  have r := s6.1
  have e0 := set_mid (A.flatMap encS) (x1 :: x2 :: x3 :: x4 :: x5 :: C) x0 (.int .i64 s.i) (k * 6) 0 hl [] rfl
  have e1 := set_mid (A.flatMap encS) (x2 :: x3 :: x4 :: x5 :: C) x1 (.int .i64 s.o) (k * 6) 1 hl [.int .i64 s.i] rfl
  have e2 := set_mid (A.flatMap encS) (x3 :: x4 :: x5 :: C) x2 (.int .i64 s.l) (k * 6) 2 hl [.int .i64 s.i, .int .i64 s.o] rfl
  have e3 := set_mid (A.flatMap encS) (x4 :: x5 :: C) x3 (.int .i64 s.h) (k * 6) 3 hl [.int .i64 s.i, .int .i64 s.o, .int .i64 s.l] rfl
  have e4 := set_mid (A.flatMap encS) (x5 :: C) x4 (.string s.s) (k * 6) 4 hl [.int .i64 s.i, .int .i64 s.o, .int .i64 s.l, .int .i64 s.h] rfl
  have e5 := set_mid (A.flatMap encS) C x5 (.int .i64 s.p) (k * 6) 5 hl [.int .i64 s.i, .int .i64 s.o, .int .i64 s.l, .int .i64 s.h, .string s.s] rfl
  simp only [List.append_assoc, List.nil_append, List.cons_append, Nat.add_zero, List.append_nil] at e0 e1 e2 e3 e4 e5
  rw [e0, e1, e2, e3, e4, e5] at r
  refine ⟨?_, grown_trans s1.2 (grown_trans s2.2 (grown_trans s3.2 (grown_trans s4.2 (grown_trans s5.2 s6.2))))⟩
  have e6 : (A ++ [s]).flatMap encS ++ C = A.flatMap encS ++ .int .i64 s.i :: .int .i64 s.o :: .int .i64 s.l :: .int .i64 s.h :: .string s.s :: .int .i64 s.p :: C := by simp [encS, List.flatMap_append]
  rw [e6]
  exact r
theorem six_of {l : List Value} {n : Nat} (h : l.length = (n + 1) * 6) : ∃ x0 x1 x2 x3 x4 x5 C, l = x0 :: x1 :: x2 :: x3 :: x4 :: x5 :: C ∧ C.length = n * 6 := by
  match l, h with
  | x0 :: x1 :: x2 :: x3 :: x4 :: x5 :: C, h => exact ⟨x0, x1, x2, x3, x4, x5, C, rfl, by simp at h; omega⟩
  | [], h => simp at h
  | [_], h => simp at h; omega
  | [_, _], h => simp at h; omega
  | [_, _, _], h => simp at h; omega
  | [_, _, _, _], h => simp at h; omega
  | [_, _, _, _, _], h => simp at h; omega
/-- A row of slots that is being filled. -/
def FillR (g n : Nat) (wr : World) (A : List Sl) : Prop := ∃ rest, wr.ownsRow g 84 6 (.slice (some ⟨g, 0, none⟩) n n) n (A.flatMap encS ++ rest) ∧ rest.length = (n - A.length) * 6
theorem sl_take {ss : List Sl} {k : Nat} (hk : k < ss.length) : ss.take (k + 1) = ss.take k ++ [ss.getD k Sl.nil] := by
  rw [List.take_add_one, List.getD_eq_getElem?_getD, List.getElem?_eq_getElem hk]
  rfl

set_option maxHeartbeats 2000000 in
theorem toSlotS_any (a : Option Addr) (cap : Nat) (ss : List Sl) (w : World) (ha : Slots w a ss) (hn : ss.length ≤ 1048576) :
    Calls Tryz.prog 143 #[.slice a ss.length cap] w fun e w' => e = .returned (.slice (some ⟨w.heap.size, 0, none⟩) ss.length ss.length) ∧ w'.ownsRow w.heap.size 84 6 (.slice (some ⟨w.heap.size, 0, none⟩) ss.length ss.length) ss.length (ss.flatMap encS) ∧ Gr w w' := by
  obtain ⟨i0, hi, hz0, hz1, hz2⟩ := info_parts Tryz.info84
  have HA := hidE ha
  clear ha
  go_enter Tryz.func143, Tryz.ntmps143
  go_wp2_with (first
    | (at_make; refine wpList_make_full _ rfl _ _ 94 rfl w.heap.size 84 i0 _ 6 Tryz.underlying94 hi hz0 hz1 .i64 .i64 _ _ ss.length rfl rfl rfl rfl (by rw [hz2]; omega) (by unfold maxLen; omega) (Nat.le_refl _) ?_; intro w1 hown hgrow))
  have g0 : Gr w w1 := Below.grown (Below.refl _ _) hgrow (Nat.le_refl _) (fun k hk => by cases hk)
  have HF : Hid (FillR w.heap.size ss.length w1 (ss.take 0)) := ⟨_, by simpa using hown, by have := hown.1; simpa using this⟩
  have hlt : w.heap.size < w1.heap.size := (row_block hown rfl).2.1
  clear hown hgrow hi hz0 hz1 hz2
  go_loopw [4] (fun i wr => ∃ k : Nat, k ≤ ss.length ∧ i = .int .i64 k ∧ Gr w wr ∧ w.heap.size < wr.heap.size ∧ Hid (FillR w.heap.size ss.length wr (ss.take k))) (fun i _ => ss.length - (intOf i).toNat)
  case atStart => exact ⟨0, Nat.zero_le _, rfl, g0, hlt, HF⟩
  case round =>
    obtain ⟨k, hk, rfl, gr, hl, HF⟩ := hrel
    by_cases hkl : k < ss.length
    · obtain ⟨g, o, rfl, hg, hx⟩ := HA.out k hkl
      have HT := hidE (sl_take hkl)
      generalize ss.getD k Sl.nil = s at *
      obtain ⟨c0, c1, c2, c3, c4, c5⟩ := sixS_gr hx gr hg
      obtain ⟨rest, hr, hrl⟩ := HF.out
      have hkt : (ss.take k).length = k := by rw [List.length_take]; omega
      obtain ⟨x0, x1, x2, x3, x4, x5, Cr, rfl, hcl⟩ := six_of (n := ss.length - k - 1) (by rw [hrl, hkt]; congr 1; omega)
      have hlen : ((ss.take k).flatMap encS).length = k * 6 := by rw [encS_len, hkt]
      have HRW : Hid (∀ w2, Gr wr w2 → w2.ownsRow w.heap.size 84 6 (.slice (some ⟨w.heap.size, 0, none⟩) ss.length ss.length) ss.length ((ss.take k).flatMap encS ++ x0 :: x1 :: x2 :: x3 :: x4 :: x5 :: Cr)) := fun w2 h => owns_gr hr h
      have hi0 : (0 : Int) ≤ (k : Int) := by omega
      have hi1 : (k : Int) < (ss.length : Int) := by omega
      clear hx hr hrl
      have HTS := hidE (toSlot_any s wr)
      go_wp2_with fail
      (with_reducible refine Calls.mono HTS.out ?_)
      rintro e w2 ⟨rfl, g2⟩
      have hr2 := HRW.out w2 g2
      have y : ∀ i, i < 6 → w2.cell? ⟨w.heap.size, k * 6 + i, none⟩ = (x0 :: x1 :: x2 :: x3 :: x4 :: x5 :: Cr)[i]? := fun i hi => by
        rw [hr2.cellAt _ (by omega), List.getElem?_append_right (by omega), hlen, Nat.add_sub_cancel_left]
      have y0 : w2.cell? ⟨w.heap.size, k * 6, none⟩ = some x0 := y 0 (by omega)
      have y1 : w2.cell? ⟨w.heap.size, k * 6 + 1, none⟩ = some x1 := y 1 (by omega)
      have y2 : w2.cell? ⟨w.heap.size, k * 6 + 2, none⟩ = some x2 := y 2 (by omega)
      have y3 : w2.cell? ⟨w.heap.size, k * 6 + 3, none⟩ = some x3 := y 3 (by omega)
      have y4 : w2.cell? ⟨w.heap.size, k * 6 + 4, none⟩ = some x4 := y 4 (by omega)
      have y5 : w2.cell? ⟨w.heap.size, k * 6 + 5, none⟩ = some x5 := y 5 (by omega)
      have f0 : w2.frozen? ⟨w.heap.size, k * 6, none⟩ = false := hr2.frozenAt _
      have f1 : w2.frozen? ⟨w.heap.size, k * 6 + 1, none⟩ = false := hr2.frozenAt _
      have f2 : w2.frozen? ⟨w.heap.size, k * 6 + 2, none⟩ = false := hr2.frozenAt _
      have f3 : w2.frozen? ⟨w.heap.size, k * 6 + 3, none⟩ = false := hr2.frozenAt _
      have f4 : w2.frozen? ⟨w.heap.size, k * 6 + 4, none⟩ = false := hr2.frozenAt _
      have f5 : w2.frozen? ⟨w.heap.size, k * 6 + 5, none⟩ = false := hr2.frozenAt _
      obtain ⟨r1, r2⟩ := fillS s hr2 hkt
      have R1 : Hid (FillR w.heap.size ss.length (putS w2 w.heap.size (k * 6) s) (ss.take (k + 1))) := by
        refine ⟨Cr, ?_, ?_⟩
        · rw [HT.out]
          exact r1
        · rw [hcl, List.length_take]
          congr 1
          omega
      have R2 : Hid (Gr w (putS w2 w.heap.size (k * 6) s)) := Below.grown (gr.trans g2) r2 (gr.trans g2).size (fun z hz => by cases hz; exact Nat.le_refl _)
      have R3 : Hid (w.heap.size < (putS w2 w.heap.size (k * 6) s).heap.size) := Nat.lt_of_lt_of_le (Nat.lt_of_lt_of_le hl g2.size) r2.size
      clear y hr2 r1 r2 g2
      simp only [putS] at R1 R2 R3
      go_wp2
      go_roundw
      case rel => exact ⟨k + 1, by omega, by go_num, R2.out, R3.out, R1⟩
      case measure => simp [intOf]; omega
    · have e : k = ss.length := by omega
      subst e
      obtain ⟨rest, hr, hrl⟩ := HF.out
      have HR : Hid (wr.ownsRow w.heap.size 84 6 (.slice (some ⟨w.heap.size, 0, none⟩) ss.length ss.length) ss.length (ss.flatMap encS)) := by
        rw [List.take_length, Nat.sub_self, Nat.zero_mul] at hrl
        rw [List.take_length, List.length_eq_zero_iff.1 hrl, List.append_nil] at hr
        exact hr
      clear hr hrl
      go_wp2
      go_ret
      exact ⟨rfl, HR.out, gr⟩
set_option maxHeartbeats 1000000 in
theorem toCell_any (x y : Int) (a : Option Addr) (cap : Nat) (ss : List Sl) (w : World) (ha : Slots w a ss) (hn : ss.length ≤ 1048576) :
    Calls Tryz.prog 96 #[.agg #[.int .i64 x, .int .i64 y, .slice a ss.length cap]] w fun e w' => (∃ q, e = .returned (.agg #[.int .i64 x, .int .i64 y, .slice (some ⟨q, 0, none⟩) ss.length ss.length]) ∧ w'.ownsRow w.heap.size 84 6 (.slice (some ⟨q, 0, none⟩) ss.length ss.length) ss.length (ss.flatMap encS)) ∧ Gr w w' := by
  have GW : Gr w (((w.alloc (.cells #[.int .i64 x, .int .i64 y, .slice a ss.length cap] 152)).alloc (.cells #[.int .i64 0, .int .i64 0, .slice none 0 0] 96)).alloc (.cells #[.int .i64 x, .int .i64 y, .slice none 0 0] 96)) := (((Gr.refl w).alloc _).alloc _).alloc _
  have HT := hidE (toSlotS_any a cap ss _ (slots_gr ha GW) hn)
  have HGW := hidE GW
  clear ha GW
  go_enter Tryz.func96, Tryz.ntmps96
  go_wp2_with fail
  (with_reducible refine Calls.mono HT.out ?_)
  rintro e w1 ⟨rfl, hO, g1⟩
  rw [World.size_alloc, World.size_alloc, World.size_alloc] at *
  obtain ⟨⟨x0, x1, x2⟩, x3, f1, f2⟩ := tri_new g1
  obtain ⟨⟨y0, y1, y2⟩, e0, e1, e2⟩ := tri_new (((Gr.refl ((w.alloc (.cells #[.int .i64 x, .int .i64 y, .slice a ss.length cap] 152)).alloc (.cells #[.int .i64 0, .int .i64 0, .slice none 0 0] 96))).alloc _).trans g1)
  simp only [World.size_alloc] at x0 x1 x2 x3 f1 f2 y0 y1 y2 e0 e1 e2
  have HF : Hid (∀ v2 u0 u1 u2, ((((w1.setCell ⟨w.heap.size + 1 + 1, 2, none⟩ v2).setCell ⟨w.heap.size + 1, 0, none⟩ u0).setCell ⟨w.heap.size + 1, 1, none⟩ u1).setCell ⟨w.heap.size + 1, 2, none⟩ u2).ownsRow w.heap.size 84 6 (.slice (some ⟨w.heap.size + 1 + 1 + 1, 0, none⟩) ss.length ss.length) ss.length (ss.flatMap encS) ∧ Gr w ((((w1.setCell ⟨w.heap.size + 1 + 1, 2, none⟩ v2).setCell ⟨w.heap.size + 1, 0, none⟩ u0).setCell ⟨w.heap.size + 1, 1, none⟩ u1).setCell ⟨w.heap.size + 1, 2, none⟩ u2)) := fun v2 u0 u1 u2 => by
    have k : ∀ {w' : World} (q o : Nat) (v : Value), q ≤ w.heap.size + 1 + 1 → w'.ownsRow (w.heap.size + 1 + 1 + 1) 84 6 (.slice (some ⟨w.heap.size + 1 + 1 + 1, 0, none⟩) ss.length ss.length) ss.length (ss.flatMap encS) → (w'.setCell ⟨q, o, none⟩ v).ownsRow (w.heap.size + 1 + 1 + 1) 84 6 (.slice (some ⟨w.heap.size + 1 + 1 + 1, 0, none⟩) ss.length ss.length) ss.length (ss.flatMap encS) := fun q o v hq h => h.kept (row := some q) ⟨rfl, rfl, rfl, by simp, fun j hj hne => Below.heap_setCell _ _ _ _ (fun e => hne (by rw [e]))⟩ (Or.inr (by simp [Value.ownBlock]; omega))
    exact ⟨own_lo (k _ _ _ (by omega) (k _ _ _ (by omega) (k _ _ _ (by omega) (k _ _ _ (by omega) hO)))) (by omega), ((((HGW.out.trans g1).setCell (by dsimp only; omega) _).setCell (by dsimp only; omega) _).setCell (by dsimp only; omega) _).setCell (by dsimp only; omega) _⟩
  clear hO g1
  go_wp2
  exact bodyPost_ret (v := .agg #[.int .i64 x, .int .i64 y, .slice (some ⟨w.heap.size + 1 + 1 + 1, 0, none⟩) ss.length ss.length]) (by simp [results, Tryz.results96, go_sem, *]) rfl ⟨⟨_, rfl, (HF.out _ _ _ _).1⟩, (HF.out _ _ _ _).2⟩
end Go.Proofs.YtpdcgjkfilohcabGreat

namespace Go.Proofs.YtpdcgjkfilohcabGreat
open Go.RowKit Go.Sort Go.Maps
attribute [local go_sem ↓] Go.wp_at_zero Go.wp_at_succ
set_option linter.unusedSimpArgs false
set_option linter.unusedVariables false

/-- A cell, written. -/
def putC (w : World) (g o : Nat) (x y : Int) (v : Value) : World := ((w.setCell ⟨g, o, none⟩ (.int .i64 x)).setCell ⟨g, o + 1, none⟩ (.int .i64 y)).setCell ⟨g, o + 2, none⟩ v
theorem three_of {l : List Value} {n : Nat} (h : l.length = (n + 1) * 3) : ∃ x0 x1 x2 C, l = x0 :: x1 :: x2 :: C ∧ C.length = n * 3 := by
  match l, h with
  | x0 :: x1 :: x2 :: C, h => exact ⟨x0, x1, x2, C, rfl, by simp at h; omega⟩
  | [], h => simp at h
  | [_], h => simp at h; omega
  | [_, _], h => simp at h; omega
theorem fillC {w : World} {base g n c k : Nat} {e : TypeId} {A : List ((Int × Int) × Value)} {x0 x1 x2 : Value} {C : List Value} (x y : Int) (v : Value) (h : w.ownsRow base e 3 (.slice (some ⟨g, 0, none⟩) n c) n (cellRow A ++ x0 :: x1 :: x2 :: C)) (hk : A.length = k) :
    (putC w g (k * 3) x y v).ownsRow base e 3 (.slice (some ⟨g, 0, none⟩) n c) n (cellRow (A ++ [((x, y), v)]) ++ C) ∧ w.grownBy (putC w g (k * 3) x y v) (some g) := by
  have hl : (cellRow A).length = k * 3 := by rw [cellRow_len, hk]
  have s1 := h.stored (k * 3) (.int .i64 x)
  have s2 := s1.1.stored (k * 3 + 1) (.int .i64 y)
  have s3 := s2.1.stored (k * 3 + 2) v
  have r := s3.1
  have e0 := set_mid (cellRow A) (x1 :: x2 :: C) x0 (.int .i64 x) (k * 3) 0 hl [] rfl
  have e1 := set_mid (cellRow A) (x2 :: C) x1 (.int .i64 y) (k * 3) 1 hl [.int .i64 x] rfl
  have e2 := set_mid (cellRow A) C x2 v (k * 3) 2 hl [.int .i64 x, .int .i64 y] rfl
  simp only [List.append_assoc, List.nil_append, List.cons_append, Nat.add_zero, List.append_nil] at e0 e1 e2
  rw [e0, e1, e2] at r
  refine ⟨?_, grown_trans s1.2 (grown_trans s2.2 s3.2)⟩
  have e6 : cellRow (A ++ [((x, y), v)]) ++ C = cellRow A ++ .int .i64 x :: .int .i64 y :: v :: C := by rw [cellRow_snoc]; simp
  rw [e6]
  exact r
/-- An index that is being filled. -/
def FillX (g n : Nat) (wr : World) (cs : List Cx) : Prop :=
  (∃ rest, wr.ownsRow g 96 3 (.slice (some ⟨g, 0, none⟩) n n) n (cellRow (cs.map fun c => (c.1, c.2.1)) ++ rest) ∧ rest.length = (n - cs.length) * 3) ∧ (∀ c ∈ cs, wr.ownsRow g 84 6 c.2.1 c.2.2.length (c.2.2.flatMap encS) ∧ ∃ q, c.2.1 = .slice (some ⟨q, 0, none⟩) c.2.2.length c.2.2.length) ∧ cs.Pairwise fun c d => ∀ q, c.2.1.ownBlock = some q → d.2.1.ownBlock ≠ some q
/-- The slots of a copy are never nil. -/
def MadeX (cs : List Cx) : Prop := ∀ c ∈ cs, ∃ q, c.2.1 = .slice (some ⟨q, 0, none⟩) c.2.2.length c.2.2.length
theorem fillX_next {g n k : Nat} {wr w2 : World} {cs : List Cx} {x y : Int} {q : Nat} {ss : List Sl} {x0 x1 x2 : Value} {Cr : List Value} (h : FillX g n wr cs) (hr : w2.ownsRow g 96 3 (.slice (some ⟨g, 0, none⟩) n n) n (cellRow (cs.map fun c => (c.1, c.2.1)) ++ x0 :: x1 :: x2 :: Cr)) (hk : cs.length = k) (hc : Cr.length = (n - k - 1) * 3) (g2 : Gr wr w2) (hgl : g < wr.heap.size)
    (hs : w2.ownsRow wr.heap.size 84 6 (.slice (some ⟨q, 0, none⟩) ss.length ss.length) ss.length (ss.flatMap encS)) : FillX g n (putC w2 g (k * 3) x y (.slice (some ⟨q, 0, none⟩) ss.length ss.length)) (cs ++ [((x, y), .slice (some ⟨q, 0, none⟩) ss.length ss.length, ss)]) ∧ w2.grownBy (putC w2 g (k * 3) x y (.slice (some ⟨q, 0, none⟩) ss.length ss.length)) (some g) := by
  obtain ⟨r1, r2⟩ := fillC x y (.slice (some ⟨q, 0, none⟩) ss.length ss.length) hr (by simpa using hk)
  obtain ⟨h1, h2, h3⟩ := h
  have hq : wr.heap.size ≤ q := (row_block hs rfl).1
  have hne : ∀ c ∈ cs, ∀ z, c.2.1.ownBlock = some z → z < wr.heap.size ∧ z ≠ g := fun c hc z hz => by
    obtain ⟨b1, b2, cur, b3⟩ := row_block (h2 c hc).1 hz
    refine ⟨b2, fun e => ?_⟩
    subst e
    obtain ⟨rest, hr', -⟩ := h1
    obtain ⟨-, -, cur', b4⟩ := row_block hr' rfl
    rw [b3] at b4
    simp only [Option.some.injEq, Obj.cells.injEq] at b4
    exact absurd b4.2.1 (by decide)
  refine ⟨⟨⟨Cr, ?_, ?_⟩, fun c hc => ?_, ?_⟩, r2⟩
  · rw [List.map_append]
    exact r1
  · rw [hc, List.length_append, hk]
    simp only [List.length_cons, List.length_nil]
    rw [Nat.sub_sub]
  · rcases List.mem_append.1 hc with hc | hc
    · refine ⟨(owns_gr (h2 c hc).1 g2).kept r2 ?_, (h2 c hc).2⟩
      cases hb : c.2.1.ownBlock with
      | none => exact Or.inl rfl
      | some z => exact Or.inr (fun e => (hne c hc z hb).2 (by cases e; rfl))
    · rw [List.mem_singleton] at hc
      subst hc
      refine ⟨(own_lo hs (by omega)).kept r2 (Or.inr ?_), q, rfl⟩
      simp [Value.ownBlock]
      omega
  · rw [List.pairwise_append]
    refine ⟨h3, List.pairwise_singleton _ _, fun c hc d hd z e e' => ?_⟩
    rw [List.mem_singleton] at hd
    subst hd
    have := (hne c hc z e).1
    have : q = z := by simpa [Value.ownBlock] using e'
    omega
theorem ce_take {cs : List Ce} {k : Nat} (hk : k < cs.length) : ceIdx (cs.take (k + 1)) = ceIdx (cs.take k) ++ [(((cs.getD k Ce.nil).x, (cs.getD k Ce.nil).y), (cs.getD k Ce.nil).ss)] := by
  have e : cs.take (k + 1) = cs.take k ++ [cs.getD k Ce.nil] := by
    rw [List.take_add_one, List.getD_eq_getElem?_getD, List.getElem?_eq_getElem hk]
    rfl
  unfold ceIdx
  rw [e, List.map_append]
  rfl

set_option maxHeartbeats 2000000 in
theorem toCellS_any (a : Option Addr) (cap : Nat) (cs : List Ce) (w : World) (ha : Cells w a cs) (hn : cs.length ≤ 1048576) (hs : ∀ k, k < cs.length → (cs.getD k Ce.nil).ss.length ≤ 1048576) :
    Calls Tryz.prog 57 #[.slice a cs.length cap] w fun e w' => (∃ ds : List Cx, e = .returned (.slice (some ⟨w.heap.size, 0, none⟩) ds.length ds.length) ∧ idxOf ds = ceIdx cs ∧ OwnX w.heap.size w' (.slice (some ⟨w.heap.size, 0, none⟩) ds.length ds.length) ds ∧ MadeX ds) ∧ Gr w w' := by
  obtain ⟨i0, hi, hz0, hz1, hz2⟩ := info_parts Tryz.info96
  have HA := hidE ha
  have HS := hidE hs
  clear ha hs
  go_enter Tryz.func57, Tryz.ntmps57
  go_wp2_with (first
    | (at_make; refine wpList_make_full _ rfl _ _ 46 rfl w.heap.size 96 i0 _ 3 Tryz.underlying46 hi hz0 hz1 .i64 .i64 _ _ cs.length rfl rfl rfl rfl (by rw [hz2]; omega) (by unfold maxLen; omega) (Nat.le_refl _) ?_; intro w1 hown hgrow))
  have g0 : Gr w w1 := Below.grown (Below.refl _ _) hgrow (Nat.le_refl _) (fun k hk => by cases hk)
  have HF : Hid (FillX w.heap.size cs.length w1 []) := ⟨⟨_, by simpa [cellRow] using hown, by have := hown.1; simpa using this⟩, fun c hc => by simp at hc, List.Pairwise.nil⟩
  have hlt : w.heap.size < w1.heap.size := (row_block hown rfl).2.1
  clear hown hgrow hi hz0 hz1 hz2
  go_loopw [4] (fun i wr => ∃ ds : List Cx, ds.length ≤ cs.length ∧ i = .int .i64 ds.length ∧ Gr w wr ∧ w.heap.size < wr.heap.size ∧ Hid (FillX w.heap.size cs.length wr ds) ∧ Hid (idxOf ds = ceIdx (cs.take ds.length))) (fun i _ => cs.length - (intOf i).toNat)
  case atStart => exact ⟨[], Nat.zero_le _, rfl, g0, hlt, HF, rfl⟩
  case round =>
    obtain ⟨ds, hk, rfl, gr, hl, HF, HI⟩ := hrel
    by_cases hkl : ds.length < cs.length
    · obtain ⟨g, o, rfl, hg, hx, hsl⟩ := HA.out ds.length hkl
      have hsn := HS.out ds.length hkl
      have HT := hidE (ce_take hkl)
      generalize cs.getD ds.length Ce.nil = c at *
      obtain ⟨cx, cy, ca, cc, ss⟩ := c
      simp only at hsl hsn HT
      obtain ⟨c0, c1, c2⟩ := ceAt_gr hx gr hg
      simp only at c0 c1 c2
      obtain ⟨rest, hr, hrl⟩ := HF.out.1
      obtain ⟨x0, x1, x2, Cr, rfl, hcl⟩ := three_of (n := cs.length - ds.length - 1) (by rw [hrl]; congr 1; omega)
      have hlen : (cellRow (ds.map fun c => (c.1, c.2.1))).length = ds.length * 3 := by rw [cellRow_len, List.length_map]
      have HRW : Hid (∀ w2, Gr wr w2 → w2.ownsRow w.heap.size 96 3 (.slice (some ⟨w.heap.size, 0, none⟩) cs.length cs.length) cs.length (cellRow (ds.map fun c => (c.1, c.2.1)) ++ x0 :: x1 :: x2 :: Cr)) := fun w2 h => owns_gr hr h
      have hi0 : (0 : Int) ≤ (ds.length : Int) := by omega
      have hi1 : (ds.length : Int) < (cs.length : Int) := by omega
      have HTS := hidE (toCell_any cx cy ca cc ss wr (slots_gr hsl gr) hsn)
      clear hx hr hrl hsl hsn
      go_wp2_with fail
      (with_reducible refine Calls.mono HTS.out ?_)
      rintro e w2 ⟨⟨q, rfl, hO⟩, g2⟩
      have hr2 := HRW.out w2 g2
      have y : ∀ i, i < 3 → w2.cell? ⟨w.heap.size, ds.length * 3 + i, none⟩ = (x0 :: x1 :: x2 :: Cr)[i]? := fun i hi => by
        rw [hr2.cellAt _ (by omega), List.getElem?_append_right (by omega), hlen, Nat.add_sub_cancel_left]
      have y0 : w2.cell? ⟨w.heap.size, ds.length * 3, none⟩ = some x0 := y 0 (by omega)
      have y1 : w2.cell? ⟨w.heap.size, ds.length * 3 + 1, none⟩ = some x1 := y 1 (by omega)
      have y2 : w2.cell? ⟨w.heap.size, ds.length * 3 + 2, none⟩ = some x2 := y 2 (by omega)
      have f0 : w2.frozen? ⟨w.heap.size, ds.length * 3, none⟩ = false := hr2.frozenAt _
      have f1 : w2.frozen? ⟨w.heap.size, ds.length * 3 + 1, none⟩ = false := hr2.frozenAt _
      have f2 : w2.frozen? ⟨w.heap.size, ds.length * 3 + 2, none⟩ = false := hr2.frozenAt _
      obtain ⟨r1, r2⟩ := fillX_next (x := cx) (y := cy) HF.out hr2 rfl hcl g2 hl hO
      have R1 := hidE r1
      have R2 : Hid (Gr w (putC w2 w.heap.size (ds.length * 3) cx cy (.slice (some ⟨q, 0, none⟩) ss.length ss.length))) := Below.grown (gr.trans g2) r2 (gr.trans g2).size (fun z hz => by cases hz; exact Nat.le_refl _)
      have R3 : Hid (w.heap.size < (putC w2 w.heap.size (ds.length * 3) cx cy (.slice (some ⟨q, 0, none⟩) ss.length ss.length)).heap.size) := Nat.lt_of_lt_of_le (Nat.lt_of_lt_of_le hl g2.size) r2.size
      have R4 : Hid (idxOf (ds ++ [((cx, cy), .slice (some ⟨q, 0, none⟩) ss.length ss.length, ss)]) = ceIdx (cs.take (ds.length + 1))) := by
        show _ = _
        rw [HT.out, ← HI.out]
        simp [idxOf]
      clear y hr2 r1 r2 g2 hO
      simp only [putC] at R1 R2 R3
      go_wp2
      go_roundw
      case rel => exact ⟨ds ++ [((cx, cy), .slice (some ⟨q, 0, none⟩) ss.length ss.length, ss)], by rw [List.length_append]; simp only [List.length_cons, List.length_nil]; omega, congrArg (Value.int .i64) (by rw [List.length_append]; simp), R2.out, R3.out, R1, by rw [List.length_append]; exact R4⟩
      case measure => simp [intOf]; omega
    · have e : ds.length = cs.length := by omega
      obtain ⟨⟨rest, hr, hrl⟩, h2, h3⟩ := HF.out
      have HR : Hid (OwnX w.heap.size wr (.slice (some ⟨w.heap.size, 0, none⟩) ds.length ds.length) ds) := by
        rw [e, Nat.sub_self, Nat.zero_mul] at hrl
        rw [List.length_eq_zero_iff.1 hrl, List.append_nil, ← e] at hr
        exact ⟨hr, fun c hc => (h2 c hc).1, h3⟩
      have HM : Hid (MadeX ds) := fun c hc => (h2 c hc).2
      have HI2 : Hid (idxOf ds = ceIdx cs) := by
        have h9 := HI.out
        rw [e, List.take_length] at h9
        exact h9
      have HEE := hidE e
      clear hr hrl h2 h3 HI e
      go_wp2
      go_ret
      exact ⟨⟨ds, by rw [HEE.out]; rfl, HI2.out, HR.out, HM.out⟩, gr⟩
set_option maxHeartbeats 1000000 in
theorem toIndex_any (a : Option Addr) (cap : Nat) (cs : List Ce) (w : World) (ha : Cells w a cs) (hS : SmallC cs) :
    Calls Tryz.prog 32 #[.agg #[.slice a cs.length cap]] w fun e w' => (∃ (q : Nat) (ds : List Cx), e = .returned (.agg #[.slice (some ⟨q, 0, none⟩) ds.length ds.length]) ∧ idxOf ds = ceIdx cs ∧ OwnX w.heap.size w' (.slice (some ⟨q, 0, none⟩) ds.length ds.length) ds ∧ MadeX ds) ∧ Gr w w' := by
  have GW : Gr w (((w.alloc (.cells #[.slice a cs.length cap] 54)).alloc (.cells #[.slice none 0 0] 48)).alloc (.cells #[.slice none 0 0] 48)) := (((Gr.refl w).alloc _).alloc _).alloc _
  obtain ⟨s1, s2⟩ := smallC_len hS
  have HT := hidE (toCellS_any a cap cs _ (cells_gr ha GW) s1 s2)
  have HGW := hidE GW
  clear ha GW s1 s2 hS
  go_enter Tryz.func32, Tryz.ntmps32
  go_wp2_with fail
  (with_reducible refine Calls.mono HT.out ?_)
  rintro e w1 ⟨⟨ds, rfl, hI, hO, hM⟩, g1⟩
  rw [World.size_alloc, World.size_alloc, World.size_alloc] at *
  have b2 : w1.heap[w.heap.size + 1 + 1]? = some (.cells #[.slice none 0 0] 48 (0, 0)) := (Below.block g1 _ (by simp)).trans (by have := World.alloc_heap_new ((w.alloc (.cells #[.slice a cs.length cap] 54)).alloc (.cells #[.slice none 0 0] 48)) (.cells #[.slice none 0 0] 48); simpa only [World.size_alloc] using this)
  have b1 : w1.heap[w.heap.size + 1]? = some (.cells #[.slice none 0 0] 48 (0, 0)) := (Below.block g1 _ (by simp; try omega)).trans ((Below.heap_alloc _ _ _ (by simp; try omega)).trans (alloc_at _ _ _))
  have x0 : w1.cell? ⟨w.heap.size + 1 + 1, 0, none⟩ = some (.slice none 0 0) := by unfold World.cell?; rw [b2]; rfl
  have f0 : w1.frozen? ⟨w.heap.size + 1 + 1, 0, none⟩ = false := by unfold World.frozen?; rw [b2]; rfl
  have y0 : w1.cell? ⟨w.heap.size + 1, 0, none⟩ = some (.slice none 0 0) := by unfold World.cell?; rw [b1]; rfl
  have e0 : w1.frozen? ⟨w.heap.size + 1, 0, none⟩ = false := by unfold World.frozen?; rw [b1]; rfl
  have HF : Hid (∀ v u, OwnX w.heap.size ((w1.setCell ⟨w.heap.size + 1 + 1, 0, none⟩ v).setCell ⟨w.heap.size + 1, 0, none⟩ u) (.slice (some ⟨w.heap.size + 1 + 1 + 1, 0, none⟩) ds.length ds.length) ds ∧ Gr w ((w1.setCell ⟨w.heap.size + 1 + 1, 0, none⟩ v).setCell ⟨w.heap.size + 1, 0, none⟩ u)) := fun v u => by
    have h1 := ownX_box hO ⟨_, _, b2⟩ v
    have b1' : (w1.setCell ⟨w.heap.size + 1 + 1, 0, none⟩ v).heap[w.heap.size + 1]? = some (.cells #[.slice none 0 0] 48 (0, 0)) := (Below.heap_setCell _ _ _ _ (by show w.heap.size + 1 ≠ w.heap.size + 1 + 1; omega)).trans b1
    have h2 := ownX_box h1 ⟨_, _, b1'⟩ u
    exact ⟨⟨own_lo h2.row (by omega), fun c hc => own_lo (h2.slots c hc) (by omega), h2.apart⟩, ((HGW.out.trans g1).setCell (by dsimp only; omega) _).setCell (by dsimp only; omega) _⟩
  have HI := hidE hI
  have HM := hidE hM
  clear hO g1 hI hM b1 b2
  go_wp2
  exact bodyPost_ret (v := .agg #[.slice (some ⟨w.heap.size + 1 + 1 + 1, 0, none⟩) ds.length ds.length]) (by simp [results, Tryz.results32, go_sem, *]) rfl ⟨⟨_, ds, rfl, HI.out, (HF.out _ _).1, HM.out⟩, (HF.out _ _).2⟩
end Go.Proofs.YtpdcgjkfilohcabGreat
