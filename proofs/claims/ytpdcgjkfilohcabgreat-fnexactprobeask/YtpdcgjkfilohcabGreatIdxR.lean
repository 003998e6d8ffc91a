import Derived.Test.YtpdcgjkfilohcabGreatIdxLS
namespace Go.Proofs.YtpdcgjkfilohcabGreat
open Go.RowKit Go.Sort Go.Maps
attribute [local go_sem ↓] Go.wp_at_zero Go.wp_at_succ
set_option linter.unusedSimpArgs false
set_option linter.unusedVariables false

/-! Indexes marked, and what is marked held. -/

/-- A slot that is marked from a number on. -/
def markS (k : Int) : Sl := ⟨k, k + 1, k + 1 + 1, k + 1 + 1 + 1, mtx (k + 1 + 1 + 1 + 1), k + 1 + 1 + 1 + 1 + 1⟩
def markSs (k : Int) (n : Nat) : List Sl := (List.range n).map fun (j : Nat) => markS (k + 6 * (j : Int))
theorem markSs_len (k : Int) (n : Nat) : (markSs k n).length = n := by simp [markSs]
theorem markSs_get (k : Int) (n j : Nat) (hj : j < n) : (markSs k n)[j]? = some (markS (k + 6 * j)) := by simp [markSs, hj]
theorem grown_row {w w' : World} (h : w.grownBy w' none) (r : Option Nat) : w.grownBy w' r := ⟨h.os, h.tape, h.output, h.size, fun k hk _ => h.block k hk (by simp)⟩
def MarkedS (k : Int) (j : Nat) (l : List Sl) : Prop := ∀ i, i < j → l[i]? = some (markS (k + 6 * i))
theorem marked_all {k : Int} {l : List Sl} (h : MarkedS k l.length l) : l = markSs k l.length := by
  apply List.ext_getElem?
  intro i
  by_cases hi : i < l.length
  · rw [h i hi, markSs_get k _ i hi]
  · rw [List.getElem?_eq_none (by omega), List.getElem?_eq_none (by rw [markSs_len]; omega)]
theorem set_six {l : List Sl} {j : Nat} (hj : j < l.length) (s : Sl) : ((((((l.flatMap encS).set (j * 6) (.int .i64 s.i)).set (j * 6 + 1) (.int .i64 s.o)).set (j * 6 + 2) (.int .i64 s.l)).set (j * 6 + 3) (.int .i64 s.h)).set (j * 6 + 4) (.string s.s)).set (j * 6 + 5) (.int .i64 s.p) = (l.set j s).flatMap encS := by
  induction l generalizing j with
  | nil => simp at hj
  | cons x l ih =>
    cases j with
    | zero => simp [encS]
    | succ j =>
      have e : ∀ i, (j + 1) * 6 + i = 6 + (j * 6 + i) := fun i => by omega
      have e0 : (j + 1) * 6 = 6 + (j * 6 + 0) := by omega
      have sh : ∀ (a b : List Value) (i : Nat) (u : Value), a.length = 6 → (a ++ b).set (6 + i) u = a ++ b.set i u := fun a b i u ha => by
        rw [List.set_append_right _ _ (by omega), ha, Nat.add_sub_cancel_left]
      rw [List.flatMap_cons, List.set_cons_succ, List.flatMap_cons, ← ih (by simpa using hj), e 1, e 2, e 3, e 4, e 5, e0]
      rw [sh _ _ _ _ rfl, sh _ _ _ _ rfl, sh _ _ _ _ rfl, sh _ _ _ _ rfl, sh _ _ _ _ rfl, sh _ _ _ _ rfl]
      rfl
theorem marked_next {k : Int} {j : Nat} {l : List Sl} (h : MarkedS k j l) (hj : j < l.length) : MarkedS k (j + 1) (l.set j (markS (k + 6 * j))) := by
  intro i hi
  by_cases e : i = j
  · subst e
    rw [List.getElem?_set_self hj]
  · rw [List.getElem?_set_ne (fun e' => e e'.symm)]
    exact h i (by omega)

set_option maxRecDepth 100000 in
set_option maxHeartbeats 2000000 in
theorem markSlotS_some (lo q cap : Nat) (ss : List Sl) (k : Int) (w : World) (hO : w.ownsRow lo 84 6 (.slice (some ⟨q, 0, none⟩) ss.length cap) ss.length (ss.flatMap encS)) (hn : ss.length ≤ 1048576) (h0 : 0 < k) (h1 : k ≤ 10000000000000) :
    Calls Tryz.prog 90 #[.slice (some ⟨q, 0, none⟩) ss.length cap, .int .i64 k] w fun e w' => e = .returned (.int .i64 (k + 6 * ss.length)) ∧ w.grownBy w' (some q) ∧ w'.ownsRow lo 84 6 (.slice (some ⟨q, 0, none⟩) ss.length cap) ss.length ((markSs k ss.length).flatMap encS) := by
  have HO := hidE hO
  clear hO
  go_enter Tryz.func90, Tryz.ntmps90
  go_wp2
  go_loopw [1, 5] (fun x i wr => ∃ (j : Nat) (l : List Sl), j ≤ ss.length ∧ i = .int .i64 j ∧ x = .int .i64 (k + 6 * j) ∧ l.length = ss.length ∧ Hid (MarkedS k j l) ∧ Hid (wr.ownsRow lo 84 6 (.slice (some ⟨q, 0, none⟩) ss.length cap) ss.length (l.flatMap encS)) ∧ Hid (w.grownBy wr (some q))) (fun _ i _ => ss.length - (intOf i).toNat)
  case atStart => exact ⟨0, ss, Nat.zero_le _, rfl, by simp, rfl, fun i hi => by omega, HO, grown_of_refl q w⟩
  case round =>
    obtain ⟨j, l, hj, rfl, rfl, hl, HM, HR, HG⟩ := hrel
    by_cases hjl : j < ss.length
    · have hc : ∀ i, i < 6 → ∃ u, wr.cell? ⟨q, j * 6 + i, none⟩ = some u := fun i hi => ⟨_, (HR.out.cellAt _ (by omega)).trans (List.getElem?_eq_getElem (by rw [encS_len, hl]; omega))⟩
      have hf : ∀ i, wr.frozen? ⟨q, i, none⟩ = false := fun i => HR.out.frozenAt i
      obtain ⟨u0, c0⟩ := hc 0 (by omega)
      obtain ⟨u1, c1⟩ := hc 1 (by omega)
      obtain ⟨u2, c2⟩ := hc 2 (by omega)
      obtain ⟨u3, c3⟩ := hc 3 (by omega)
      rw [Nat.add_zero] at c0
      have f0 := hf (j * 6)
      have f1 := hf (j * 6 + 1)
      have f2 := hf (j * 6 + 2)
      have f3 := hf (j * 6 + 3)
      have hi0 : (0 : Int) ≤ (j : Int) := by omega
      have hi1 : (j : Int) < (ss.length : Int) := by omega
      obtain ⟨K, hK⟩ : ∃ K : Int, K = k + 6 * j := ⟨_, rfl⟩
      have hK0 : 0 < K := by omega
      have hK1 : K ≤ 20000000000000 := by omega
      rw [← hK]
      have HKe := hidE hK
      have s1 := HR.out.stored (j * 6) (.int .i64 K)
      have s2 := s1.1.stored (j * 6 + 1) (.int .i64 (K + 1))
      have s3 := s2.1.stored (j * 6 + 2) (.int .i64 (K + 1 + 1))
      have s4 := s3.1.stored (j * 6 + 3) (.int .i64 (K + 1 + 1 + 1))
      have H4 := hidE s4.1
      have HG4 := hidE (grown_trans HG.out (grown_trans s1.2 (grown_trans s2.2 (grown_trans s3.2 s4.2))))
      have HM2 := hidE (marked_next HM.out (hl ▸ hjl))
      have HT : Hid (∀ w', Calls Tryz.prog 39 #[.int .i64 (K + 1 + 1 + 1 + 1)] w' fun e w'' => e = .returned (.string (mtx (K + 1 + 1 + 1 + 1))) ∧ Gr w' w'') := fun w' => markText_any (K + 1 + 1 + 1 + 1) w' (by omega) (by omega)
      clear s1 s2 s3 s4 hc hf hK HR HG HM
      go_wp2_with fail
      (with_reducible refine Calls.mono (HT.out _) ?_)
      rintro e w2 ⟨rfl, g2⟩
      have o5 := owns_gr H4.out g2
      obtain ⟨u4, c4⟩ : ∃ u, w2.cell? ⟨q, j * 6 + 4, none⟩ = some u := ⟨_, (o5.cellAt _ (by omega)).trans (List.getElem?_eq_getElem (by rw [List.length_set, List.length_set, List.length_set, List.length_set, encS_len, hl]; omega))⟩
      obtain ⟨u5, c5⟩ : ∃ u, w2.cell? ⟨q, j * 6 + 5, none⟩ = some u := ⟨_, (o5.cellAt _ (by omega)).trans (List.getElem?_eq_getElem (by rw [List.length_set, List.length_set, List.length_set, List.length_set, encS_len, hl]; omega))⟩
      have f4 : w2.frozen? ⟨q, j * 6 + 4, none⟩ = false := o5.frozenAt _
      have f5 : w2.frozen? ⟨q, j * 6 + 5, none⟩ = false := o5.frozenAt _
      have s5 := o5.stored (j * 6 + 4) (.string (mtx (K + 1 + 1 + 1 + 1)))
      have s6 := s5.1.stored (j * 6 + 5) (.int .i64 (K + 1 + 1 + 1 + 1 + 1))
      have R1 := s6.1
      have R2 := hidE (grown_trans HG4.out (grown_trans (grown_row (grown_of g2) (some q)) (grown_trans s5.2 s6.2)))
      rw [show K + 1 + 1 + 1 + 1 + 1 = (markS K).p from rfl, show mtx (K + 1 + 1 + 1 + 1) = (markS K).s from rfl, show K + 1 + 1 + 1 = (markS K).h from rfl, show K + 1 + 1 = (markS K).l from rfl, show K + 1 = (markS K).o from rfl] at R1
      rw [show (Value.int .i64 K) = .int .i64 (markS K).i from rfl, set_six (hl ▸ hjl)] at R1
      have HR2 := hidE R1
      clear s5 s6 R1 o5 H4 HG4 g2
      simp only [markS] at HR2
      go_wp2
      go_roundw
      case rel => exact ⟨j + 1, l.set j (markS K), by omega, by go_num, congrArg (Value.int .i64) (by have := HKe.out; omega), by simp [hl], by rw [HKe.out]; exact HM2, HR2, R2⟩
      case measure => simp [intOf]; omega
    · have e : j = ss.length := by omega
      subst e
      go_wp2
      go_ret
      refine ⟨rfl, HG.out, ?_⟩
      have e1 : l = markSs k ss.length := by rw [← hl]; exact marked_all (hl.symm ▸ HM.out)
      rw [← e1]
      exact HR.out
set_option maxHeartbeats 400000 in
theorem markSlotS_zero (a : Option Addr) (cap : Nat) (k : Int) (w : World) : Calls Tryz.prog 90 #[.slice a 0 cap, .int .i64 k] w fun e w' => e = .returned (.int .i64 k) ∧ w' = w := by
  go_enter Tryz.func90, Tryz.ntmps90
  go_wp2
  go_loop [1, 5] (fun x i => x = .int .i64 k ∧ i = .int .i64 0) (fun _ _ => 0)
  case atStart => exact ⟨rfl, rfl⟩
  case round =>
    obtain ⟨rfl, rfl⟩ := hrel
    go_wp2
    go_ret
    exact ⟨rfl, rfl⟩
theorem markSlotS_any (lo : Nat) (v : Value) (ss : List Sl) (k : Int) (w : World) (hO : w.ownsRow lo 84 6 v ss.length (ss.flatMap encS)) (hn : ss.length ≤ 1048576) (h0 : 0 < k) (h1 : k ≤ 10000000000000) :
    Calls Tryz.prog 90 #[v, .int .i64 k] w fun e w' => e = .returned (.int .i64 (k + 6 * ss.length)) ∧ w.grownBy w' v.ownBlock ∧ w'.ownsRow lo 84 6 v ss.length ((markSs k ss.length).flatMap encS) := by
  rcases id hO.2 with ⟨rfl, hz⟩ | ⟨q, cap, cur, rfl, -⟩
  · obtain rfl : ss = [] := List.length_eq_zero_iff.1 hz
    refine (markSlotS_zero none 0 k w).mono ?_
    rintro e w' ⟨rfl, rfl⟩
    exact ⟨by simp, ⟨rfl, rfl, rfl, Nat.le_refl _, fun _ _ _ => rfl⟩, hO⟩
  · exact markSlotS_some lo q cap ss k w hO hn h0 h1

set_option maxRecDepth 100000 in
set_option maxHeartbeats 2000000 in
theorem heldSlotS_any (a : Option Addr) (n cap : Nat) (k : Int) (w : World) (hM : Slots w a (markSs k n)) (hn : n ≤ 1048576) (h0 : 0 < k) (h1 : k ≤ 10000000000000) :
    Calls Tryz.prog 91 #[.slice a n cap, .int .i64 k] w fun e w' => e = .returned (.int .i64 (k + 6 * n)) ∧ Gr w w' := by
  have HM := hidE hM
  clear hM
  go_enter Tryz.func91, Tryz.ntmps91
  go_wp2
  go_loopw [1, 5] (fun x i wr => ∃ j : Nat, j ≤ n ∧ i = .int .i64 j ∧ x = .int .i64 (k + 6 * j) ∧ Gr w wr) (fun _ i _ => n - (intOf i).toNat)
  case atStart => exact ⟨0, Nat.zero_le _, rfl, by simp, Gr.refl _⟩
  case round =>
    obtain ⟨j, hj, rfl, rfl, gr⟩ := hrel
    by_cases hjl : j < n
    · obtain ⟨q, o, rfl, hq, hx⟩ := HM.out j (by rw [markSs_len]; exact hjl)
      have ex : (markSs k n).getD j Sl.nil = markS (k + 6 * j) := by rw [List.getD_eq_getElem?_getD, markSs_get k n j hjl]; rfl
      rw [ex] at hx
      obtain ⟨K, hK⟩ : ∃ K : Int, K = k + 6 * j := ⟨_, rfl⟩
      have hK0 : 0 < K := by omega
      have hK1 : K ≤ 20000000000000 := by omega
      rw [← hK] at hx ⊢
      have HKe := hidE hK
      obtain ⟨c0, c1, c2, c3, c4, c5⟩ := sixS_gr hx gr hq
      simp only [markS] at c0 c1 c2 c3 c4 c5
      have hqw : q < wr.heap.size := Nat.lt_of_lt_of_le hq gr.size
      have hi0 : (0 : Int) ≤ (j : Int) := by omega
      have hi1 : (j : Int) < (n : Int) := by omega
      have G0 := Gr.refl wr
      have K1 : Hid (∀ w', Gr wr w' → Gr wr w' ∧ w'.cell? ⟨q, o + j * 6 + 4, none⟩ = some (.string (mtx (K + 1 + 1 + 1 + 1)))) := fun w' h => ⟨h, (h.cells.1 _ _ hqw).trans c4⟩
      have HC5 := hidE c5
      clear hx ex hK c4 c5
      go_wp2_with fail
      go_region_held3 (fun w' => Gr wr w' ∧ w'.cell? ⟨q, o + j * 6 + 4, none⟩ = some (.string (mtx (K + 1 + 1 + 1 + 1))))
        ((refine K1.out _ ?_; repeat (first | with_reducible exact G0 | with_reducible assumption | with_reducible exact And.left (by assumption) | with_reducible refine Gr.drew ?_ | with_reducible refine Gr.alloc ?_ _)))
        ((go_at_call 39; refine (markText_any (K + 1 + 1 + 1 + 1) _ (by omega) (by omega)).mono ?_; rintro e w1 ⟨rfl, g1⟩; have g2 := Gr.trans (And.left (by assumption)) g1))
      all_goals
        have z5 : w1.cell? ⟨q, o + j * 6 + 5, none⟩ = some (.int .i64 (K + 1 + 1 + 1 + 1 + 1)) := (g2.cells.1 _ _ hqw).trans HC5.out
        go_wp2
        go_roundw
        case rel => exact ⟨j + 1, by omega, by go_num, congrArg (Value.int .i64) (by have := HKe.out; omega), gr.trans g2⟩
        case measure => simp [intOf]; omega
    · have e : j = n := by omega
      subst e
      go_wp2
      go_ret
      exact ⟨rfl, gr⟩

/-- An index of marks. -/
def markC (k : Int) (c : Cx) : Cx := ((k, k + 1), c.2.1, markSs (k + 1 + 1) c.2.2.length)
def nextC (k : Int) (c : Cx) : Int := k + 1 + 1 + 6 * c.2.2.length
def markX : Int → List Cx → List Cx
  | _, [] => []
  | k, c :: cs => markC k c :: markX (nextC k c) cs
def endX : Int → List Cx → Int
  | k, [] => k
  | k, c :: cs => endX (nextC k c) cs
theorem markX_len : ∀ (k : Int) (cs : List Cx), (markX k cs).length = cs.length
  | _, [] => rfl
  | k, c :: cs => by simp [markX, markX_len]
theorem markX_snoc : ∀ (k : Int) (cs : List Cx) (c : Cx), markX k (cs ++ [c]) = markX k cs ++ [markC (endX k cs) c]
  | _, [], _ => rfl
  | k, d :: cs, c => by simp [markX, endX, markX_snoc]
theorem endX_snoc : ∀ (k : Int) (cs : List Cx) (c : Cx), endX k (cs ++ [c]) = nextC (endX k cs) c
  | _, [], _ => rfl
  | k, d :: cs, c => by simp [endX, endX_snoc]
theorem endX_le : ∀ (k : Int) (cs : List Cx), (∀ c ∈ cs, c.2.2.length ≤ 1048576) → k ≤ endX k cs ∧ endX k cs ≤ k + cs.length * 6291458
  | k, [], _ => by simp [endX]
  | k, c :: cs, h => by
    have ih := endX_le (nextC k c) cs (fun u hu => h u (List.mem_cons_of_mem _ hu))
    have h1 := h c (List.mem_cons_self ..)
    simp only [endX, nextC, List.length_cons] at *
    omega
theorem cx_take {cs : List Cx} {j : Nat} (hj : j < cs.length) : cs.take (j + 1) = cs.take j ++ [cs.getD j Cx.nil] := by
  rw [List.take_add_one, cx_get hj]
  rfl
theorem cx_drop {cs : List Cx} {j : Nat} (hj : j < cs.length) : cs.drop j = cs.getD j Cx.nil :: cs.drop (j + 1) := by
  rw [List.drop_eq_getElem_cons hj, List.getD_eq_getElem?_getD, List.getElem?_eq_getElem hj]
  rfl
theorem markX_get : ∀ (k : Int) (cs : List Cx) (j : Nat), j < cs.length → (markX k cs).getD j Cx.nil = markC (endX k (cs.take j)) (cs.getD j Cx.nil)
  | _, [], j, h => by simp at h
  | k, c :: cs, 0, _ => by simp [markX, endX]
  | k, c :: cs, j + 1, h => by
    have := markX_get (nextC k c) cs j (by simpa using h)
    simpa [markX, endX] using this
def BelowX (hi : Nat) (v : Value) (cs : List Cx) : Prop := (∀ q, v.ownBlock = some q → q < hi) ∧ ∀ c ∈ cs, ∀ q, c.2.1.ownBlock = some q → q < hi
theorem ownX_hi {l : Nat} {w : World} {v : Value} {cs : List Cx} (h : OwnX l w v cs) : BelowX w.heap.size v cs := ⟨fun q e => (row_block h.row e).2.1, fun c hc q e => (row_block (h.slots c hc) e).2.1⟩

set_option maxRecDepth 100000 in
set_option maxHeartbeats 2000000 in
theorem markCellS_some (lo hi g cap : Nat) (cs : List Cx) (k : Int) (w : World) (hO : OwnX lo w (.slice (some ⟨g, 0, none⟩) cs.length cap) cs) (hH : BelowX hi (.slice (some ⟨g, 0, none⟩) cs.length cap) cs) (hn : cs.length ≤ 1048576) (hb : ∀ c ∈ cs, c.2.2.length ≤ 1048576) (h0 : 1 ≤ k) (h1 : k ≤ 10) :
    Calls Tryz.prog 52 #[.slice (some ⟨g, 0, none⟩) cs.length cap, .int .i64 k] w fun e w' => e = .returned (.int .i64 (endX k cs)) ∧ OwnX lo w' (.slice (some ⟨g, 0, none⟩) cs.length cap) (markX k cs) ∧ RM lo hi w w' := by
  have HO := hidE hO
  have HH := hidE hH
  have HB := hidE hb
  clear hO hH hb
  go_enter Tryz.func52, Tryz.ntmps52
  go_wp2
  go_loopw [1, 5] (fun x i wr => ∃ j : Nat, j ≤ cs.length ∧ i = .int .i64 j ∧ x = .int .i64 (endX k (cs.take j)) ∧ Hid (OwnX lo wr (.slice (some ⟨g, 0, none⟩) cs.length cap) (markX k (cs.take j) ++ cs.drop j)) ∧ Hid (RM lo hi w wr)) (fun _ i _ => cs.length - (intOf i).toNat)
  case atStart => exact ⟨0, Nat.zero_le _, rfl, by simp [endX], by show OwnX _ _ _ _; simpa [markX] using HO.out, rm_gr (Gr.refl _)⟩
  case round =>
    obtain ⟨j, hj, rfl, rfl, HX, HM⟩ := hrel
    by_cases hjl : j < cs.length
    · have hlA : (markX k (cs.take j)).length = j := by rw [markX_len, List.length_take]; omega
      have hX := HX.out
      rw [cx_drop hjl] at hX
      have hll : cs.length = (markX k (cs.take j) ++ cs.getD j Cx.nil :: cs.drop (j + 1)).length := by simp [hlA]; omega
      have hmem : cs.getD j Cx.nil ∈ cs := List.mem_of_getElem? (cx_get hjl)
      have hbt := HB.out _ hmem
      have hht := HH.out.2 _ hmem
      have hgh := HH.out.1 g rfl
      obtain ⟨-, hce⟩ := own_cells hX
      obtain ⟨g', sa, sc, eg, hgl, hlg, x0, x1, x2, ev, -, hf⟩ := hce j (by simp [hlA])
      cases eg
      have hgd : (markX k (cs.take j) ++ cs.getD j Cx.nil :: cs.drop (j + 1)).getD j Cx.nil = cs.getD j Cx.nil := by
        rw [List.getD_eq_getElem?_getD, List.getElem?_append_right (by omega), hlA, Nat.sub_self]
        rfl
      rw [hgd] at x0 x1 x2 ev
      have f0 := hf (j * 3)
      have f1 := hf (j * 3 + 1)
      have HXX := hidE hX
      have hrow := hX.slots (cs.getD j Cx.nil) (by simp)
      have hKb := endX_le k (cs.take j) (fun t ht => HB.out t (List.mem_of_mem_take ht))
      have hKl : (cs.take j).length ≤ 1048576 := by rw [List.length_take]; omega
      have HNX : Hid (markX k (cs.take (j + 1)) ++ cs.drop (j + 1) = markX k (cs.take j) ++ markC (endX k (cs.take j)) (cs.getD j Cx.nil) :: cs.drop (j + 1)) := by
        show _ = _
        rw [cx_take hjl, markX_snoc, List.append_assoc]
        rfl
      have HNE : Hid (endX k (cs.take (j + 1)) = endX k (cs.take j) + 1 + 1 + 6 * ((cs.getD j Cx.nil).2.2.length : Int)) := by
        show _ = _
        rw [cx_take hjl, endX_snoc]
        rfl
      generalize hK : endX k (cs.take j) = K at *
      have hK0 : 0 < K := by omega
      have hK1 : K ≤ 10000000000000 - 2 := by omega
      generalize markX k (cs.take j) = A at *
      generalize cs.getD j Cx.nil = c at *
      obtain ⟨⟨cx, cy⟩, v, ss⟩ := c
      simp only at x0 x1 x2 ev hrow hbt hht HNE
      subst ev
      have hi0 : (0 : Int) ≤ (j : Int) := by omega
      have hi1 : (j : Int) < (cs.length : Int) := by omega
      have hne : ∀ q, (Value.slice sa ss.length sc).ownBlock = some q → g ≠ q := fun q e => ownX_ne hX (c := ((cx, cy), .slice sa ss.length sc, ss)) (by simp) rfl e
      have hG2 : wr.grownBy ((wr.setCell ⟨g, j * 3, none⟩ (.int .i64 K)).setCell ⟨g, j * 3 + 1, none⟩ (.int .i64 (K + 1))) (some g) := grown_trans (grown_self _) (grown_self _)
      have hrow2 : ((wr.setCell ⟨g, j * 3, none⟩ (.int .i64 K)).setCell ⟨g, j * 3 + 1, none⟩ (.int .i64 (K + 1))).ownsRow lo 84 6 (.slice sa ss.length sc) ss.length (ss.flatMap encS) := hrow.kept hG2 (by
        cases hb : (Value.slice sa ss.length sc).ownBlock with
        | none => exact Or.inl rfl
        | some q => exact Or.inr (fun e => hne q hb (by cases e; rfl)))
      have HMS := hidE (markSlotS_any lo (.slice sa ss.length sc) ss (K + 1 + 1) _ hrow2 hbt (by omega) (by omega))
      have HG2 := hidE hG2
      have HLo : Hid (∀ q, (Value.slice sa ss.length sc).ownBlock = some q → lo ≤ q) := fun q e => (row_block hrow e).1
      have HHt := hidE hht
      have HLL := hidE hll
      have HLA := hidE hlA
      clear hll hlA hmem hX hce hf hrow hrow2 hG2 hne hht hKb hK hgd HX
      go_wp2_with fail
      (with_reducible refine Calls.mono HMS.out ?_)
      rintro e w4 ⟨rfl, hg4, hr4⟩
      have R1 : Hid (OwnX lo w4 (.slice (some ⟨g, 0, none⟩) cs.length cap) (A ++ markC K ((cx, cy), .slice sa ss.length sc, ss) :: cs.drop (j + 1))) := ownX_turn HXX.out HLL.out HLA.out hg4 (by rw [markSs_len]; exact hr4)
      have R2 : Hid (RM lo hi w w4) := by
        refine HM.out.trans ((rm_grown HG2.out hlg hgh).trans ?_)
        cases hb : (Value.slice sa ss.length sc).ownBlock with
        | none =>
          rw [hb] at hg4
          exact ⟨hg4.os, hg4.tape, hg4.output, hg4.size, fun k hk _ => hg4.block k hk (by simp)⟩
        | some q =>
          rw [hb] at hg4
          exact rm_grown hg4 (HLo.out q hb) (HHt.out q hb)
      clear hg4 hr4 HMS
      go_wp2
      go_roundw
      case rel => exact ⟨j + 1, by omega, by go_num, congrArg (Value.int .i64) (by rw [HNE.out]), by rw [HNX.out]; exact R1, R2⟩
      case measure => simp [intOf]; omega
    · have e : j = cs.length := by omega
      subst e
      go_wp2
      go_ret
      refine ⟨by rw [List.take_length]; rfl, ?_, HM.out⟩
      have h9 := HX.out
      rw [List.take_length, List.drop_length, List.append_nil] at h9
      exact h9
set_option maxHeartbeats 400000 in
theorem markCellS_zero (a : Option Addr) (cap : Nat) (k : Int) (w : World) : Calls Tryz.prog 52 #[.slice a 0 cap, .int .i64 k] w fun e w' => e = .returned (.int .i64 k) ∧ w' = w := by
  go_enter Tryz.func52, Tryz.ntmps52
  go_wp2
  go_loop [1, 5] (fun x i => x = .int .i64 k ∧ i = .int .i64 0) (fun _ _ => 0)
  case atStart => exact ⟨rfl, rfl⟩
  case round =>
    obtain ⟨rfl, rfl⟩ := hrel
    go_wp2
    go_ret
    exact ⟨rfl, rfl⟩
/-- An index that is small enough. -/
def SmallX (cs : List Cx) : Prop := cs.length ≤ 1048576 ∧ ∀ c ∈ cs, c.2.2.length ≤ 1048576
theorem markCellS_any (lo hi : Nat) (v : Value) (cs : List Cx) (w : World) (hO : OwnX lo w v cs) (hH : BelowX hi v cs) (hS : SmallX cs) :
    Calls Tryz.prog 52 #[v, .int .i64 1] w fun e w' => e = .returned (.int .i64 (endX 1 cs)) ∧ OwnX lo w' v (markX 1 cs) ∧ RM lo hi w w' := by
  rcases id hO.row.2 with ⟨rfl, h0⟩ | ⟨g, cap, cur, rfl, -⟩
  · obtain rfl : cs = [] := List.length_eq_zero_iff.1 h0
    refine (markCellS_zero none 0 1 w).mono ?_
    rintro e w' ⟨rfl, rfl⟩
    exact ⟨rfl, hO, rm_gr (Gr.refl _)⟩
  · exact markCellS_some lo hi g cap cs 1 w hO hH hS.1 hS.2 (by omega) (by omega)
set_option maxHeartbeats 400000 in
theorem markIndex_any (lo hi : Nat) (v : Value) (cs : List Cx) (w : World) (hO : OwnX lo w v cs) (hH : BelowX hi v cs) (hS : SmallX cs) :
    Calls Tryz.prog 28 #[.agg #[v], .int .i64 1] w fun e w' => e = .returned (.int .i64 (endX 1 cs)) ∧ OwnX lo w' v (markX 1 cs) ∧ RM lo hi w w' := by
  obtain ⟨a, c, rfl⟩ := row_form hO.row
  have HB := hidE (markCellS_any lo hi _ cs _ (ownX_gr hO ((Gr.refl w).alloc (.cells #[.slice a cs.length c] 48))) hH hS)
  clear hO
  go_enter Tryz.func28, Tryz.ntmps28
  go_wp2_with fail
  (with_reducible refine Calls.mono HB.out ?_)
  rintro e w1 ⟨rfl, h1, h2⟩
  go_wp2
  go_ret
  exact ⟨rfl, h1, (rm_gr ((Gr.refl _).alloc _)).trans h2⟩

set_option maxRecDepth 100000 in
set_option maxHeartbeats 2000000 in
theorem heldCellS_any (lo : Nat) (a : Option Addr) (cap : Nat) (cs : List Cx) (w : World) (hO : OwnX lo w (.slice a cs.length cap) (markX 1 cs)) (hS : SmallX cs) :
    Calls Tryz.prog 53 #[.slice a cs.length cap, .int .i64 1] w fun e w' => e = .returned (.int .i64 (endX 1 cs)) ∧ Gr w w' := by
  have hn := hS.1
  have HB := hidE hS.2
  have HO := hidE hO
  clear hO hS
  go_enter Tryz.func53, Tryz.ntmps53
  go_wp2
  go_loopw [1, 5] (fun x i wr => ∃ j : Nat, j ≤ cs.length ∧ i = .int .i64 j ∧ x = .int .i64 (endX 1 (cs.take j)) ∧ Gr w wr) (fun _ i _ => cs.length - (intOf i).toNat)
  case atStart => exact ⟨0, Nat.zero_le _, rfl, by simp [endX], Gr.refl _⟩
  case round =>
    obtain ⟨j, hj, rfl, rfl, gr⟩ := hrel
    by_cases hjl : j < cs.length
    · obtain ⟨-, hce⟩ := own_cells (ownX_gr HO.out gr)
      obtain ⟨g, sa, sc, rfl, hgl, -, x0, x1, x2, -, hsl, -⟩ := hce j (by rw [markX_len]; exact hjl)
      have hbt := HB.out _ (List.mem_of_getElem? (cx_get hjl))
      rw [markX_get 1 cs j hjl] at x0 x1 x2 hsl
      have hKb := endX_le 1 (cs.take j) (fun t ht => HB.out t (List.mem_of_mem_take ht))
      have hKl : (cs.take j).length ≤ 1048576 := by rw [List.length_take]; omega
      have HNE : Hid (endX 1 (cs.take (j + 1)) = endX 1 (cs.take j) + 1 + 1 + 6 * ((cs.getD j Cx.nil).2.2.length : Int)) := by
        show _ = _
        rw [cx_take hjl, endX_snoc]
        rfl
      generalize hK : endX 1 (cs.take j) = K at *
      have hK0 : 0 < K := by omega
      have hK1 : K ≤ 10000000000000 - 2 := by omega
      generalize cs.getD j Cx.nil = c at *
      obtain ⟨⟨cx, cy⟩, v, ss⟩ := c
      simp only [markC, markSs_len] at x0 x1 x2 hsl hbt HNE
      have hi0 : (0 : Int) ≤ (j : Int) := by omega
      have hi1 : (j : Int) < (cs.length : Int) := by omega
      have HMS := hidE (heldSlotS_any sa ss.length sc (K + 1 + 1) wr hsl hbt (by omega) (by omega))
      have HK2 : Hid (¬ K + 1 + 1 + 6 * (ss.length : Int) < 0) := by show ¬ _; omega
      have hnn := HK2.out
      clear hce hsl hKb hK
      go_wp2_with fail
      (with_reducible refine Calls.mono HMS.out ?_)
      rintro e w4 ⟨rfl, g4⟩
      go_wp2
      go_roundw
      case rel => exact ⟨j + 1, by omega, by go_num, congrArg (Value.int .i64) (by rw [HNE.out]), gr.trans g4⟩
      case measure => simp [intOf]; omega
    · have e : j = cs.length := by omega
      subst e
      go_wp2
      go_ret
      exact ⟨by rw [List.take_length]; rfl, gr⟩
set_option maxHeartbeats 400000 in
theorem heldIndex_any (lo : Nat) (v : Value) (cs : List Cx) (w : World) (hO : OwnX lo w v (markX 1 cs)) (hS : SmallX cs) :
    Calls Tryz.prog 29 #[.agg #[v], .int .i64 1] w fun e w' => e = .returned (.int .i64 (endX 1 cs)) ∧ Gr w w' := by
  obtain ⟨a, c, rfl⟩ := row_form hO.row
  rw [markX_len] at *
  have HB := hidE (heldCellS_any lo a c cs _ (ownX_gr hO ((Gr.refl w).alloc (.cells #[.slice a cs.length c] 48))) hS)
  have hk := (endX_le 1 cs hS.2).1
  generalize endX 1 cs = K at *
  have hk2 : ¬ K < 0 := by omega
  clear hO
  go_enter Tryz.func29, Tryz.ntmps29
  go_wp2_with fail
  (with_reducible refine Calls.mono HB.out ?_)
  rintro e w1 ⟨rfl, h1⟩
  go_wp2
  go_ret
  exact ⟨rfl, ((Gr.refl _).alloc _).trans h1⟩
end Go.Proofs.YtpdcgjkfilohcabGreat
