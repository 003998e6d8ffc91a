import Derived.Test.YtpdcgjkfilohcabGreatAskO
import Derived.Test.YtpdcgjkfilohcabGreatMeetC
namespace Go.Proofs.YtpdcgjkfilohcabGreat
open Go.RowKit Go.Sort Go.Maps
attribute [local go_sem ↓] Go.wp_at_zero Go.wp_at_succ
set_option linter.unusedSimpArgs false
set_option linter.unusedVariables false

/-! Clashes: held against each other, marked, and what is marked held. -/

structure Kc where
  a : ByteArray
  b : ByteArray
  t : Int
  i : Int
  j : Int
def encC (c : Kc) : List Value := [.string c.a, .string c.b, .int .i64 c.t, .int .i64 c.i, .int .i64 c.j]
def kcOf (tn : ByteArray) (p : ByteArray × K3) : Kc := ⟨tn, p.1, p.2.1, p.2.2.1, p.2.2.2⟩
theorem encA_kc (tn : ByteArray) (l : List (ByteArray × K3)) : l.flatMap (encA tn) = (l.map (kcOf tn)).flatMap encC := by rw [List.flatMap_map]; rfl
theorem encC_len (l : List Kc) : (l.flatMap encC).length = l.length * 5 := by
  induction l with
  | nil => rfl
  | cons s l ih => rw [List.flatMap_cons, List.length_append, ih, List.length_cons]; simp [encC]; omega
theorem encC_get : ∀ {l : List Kc} {i : Nat} {c : Kc}, l[i]? = some c → ∀ j, j < 5 → (l.flatMap encC)[i * 5 + j]? = (encC c)[j]?
  | [], i, c, h, j, hj => by simp at h
  | a :: l, 0, c, h, j, hj => by
    simp at h
    subst h
    rw [List.flatMap_cons, Nat.zero_mul, Nat.zero_add, List.getElem?_append_left (by simp [encC]; omega)]
  | a :: l, i + 1, c, h, j, hj => by
    have h' : l[i]? = some c := by simpa using h
    rw [List.flatMap_cons, List.getElem?_append_right (by simp [encC]; omega), ← encC_get h' j hj]
    congr 1
    simp [encC]
    omega
/-- The cells of a clash. -/
def FiveC (w : World) (g o : Nat) (c : Kc) : Prop := w.cell? ⟨g, o, none⟩ = some (.string c.a) ∧ w.cell? ⟨g, o + 1, none⟩ = some (.string c.b) ∧ w.cell? ⟨g, o + 2, none⟩ = some (.int .i64 c.t) ∧ w.cell? ⟨g, o + 3, none⟩ = some (.int .i64 c.i) ∧ w.cell? ⟨g, o + 4, none⟩ = some (.int .i64 c.j)
theorem fiveC_gr {w wr : World} {g o : Nat} {c : Kc} (h : FiveC w g o c) (gr : Gr w wr) (hg : g < w.heap.size) : FiveC wr g o c := by
  obtain ⟨hc, -⟩ := gr.cells
  unfold FiveC at *
  simp only [hc g _ hg]
  exact h
theorem clash_cells {w : World} {lo g cap : Nat} {e : TypeId} {l : List Kc} (h : w.ownsRow lo e 5 (.slice (some ⟨g, 0, none⟩) l.length cap) l.length (l.flatMap encC)) {i : Nat} {c : Kc} (hi : l[i]? = some c) : FiveC w g (i * 5) c := by
  have hk : ∀ j, j < 5 → w.cell? ⟨g, i * 5 + j, none⟩ = (encC c)[j]? := fun j hj => by
    have hlt : i < l.length := (List.getElem?_eq_some_iff.1 hi).1
    rw [h.cellAt _ (by omega)]
    exact encC_get hi j hj
  exact ⟨hk 0 (by omega), hk 1 (by omega), hk 2 (by omega), hk 3 (by omega), hk 4 (by omega)⟩

set_option maxRecDepth 100000 in
set_option maxHeartbeats 1000000 in
theorem eqClashS_same (lo lo' : Nat) (v v' : Value) (l : List Kc) (w : World) (h : w.ownsRow lo 61 5 v l.length (l.flatMap encC)) (h' : w.ownsRow lo' 61 5 v' l.length (l.flatMap encC)) (hn : l.length ≤ 1048576) :
    Calls Tryz.prog 12 #[v, v'] w fun e w' => e = .returned (.bool true) ∧ Gr w w' := by
  obtain ⟨a, cap, rfl⟩ := row_form h
  obtain ⟨a', cap', rfl⟩ := row_form h'
  have H := hidE h
  have H' := hidE h'
  clear h h'
  go_enter Tryz.func12, Tryz.ntmps12
  go_wp2
  go_loopw [5] (fun i wr => ∃ k : Nat, k ≤ l.length ∧ i = .int .i64 k ∧ Gr w wr) (fun i _ => l.length - (intOf i).toNat)
  case atStart => exact ⟨0, Nat.zero_le _, rfl, Gr.refl _⟩
  case round =>
    obtain ⟨k, hk, rfl, gr⟩ := hrel
    by_cases hkl : k < l.length
    · obtain ⟨c, hc⟩ : ∃ c, l[k]? = some c := ⟨_, List.getElem?_eq_getElem hkl⟩
      obtain ⟨g, cp, e⟩ := row_some H.out (by omega)
      simp only [Value.slice.injEq, true_and] at e
      obtain ⟨rfl, rfl⟩ := e
      obtain ⟨g', cp', e⟩ := row_some H'.out (by omega)
      simp only [Value.slice.injEq, true_and] at e
      obtain ⟨rfl, rfl⟩ := e
      have hg : g < w.heap.size := (row_block H.out rfl).2.1
      have hg' : g' < w.heap.size := (row_block H'.out rfl).2.1
      have y := fiveC_gr (clash_cells H.out hc) gr hg
      have y' := fiveC_gr (clash_cells H'.out hc) gr hg'
      have hi0 : (0 : Int) ≤ (k : Int) := by omega
      have hi1 : (k : Int) < (l.length : Int) := by omega
      have hgr := gr.size
      have HG : Hid (Gr w wr) := gr
      clear gr hc
      go_wp2_with fail
      go_region_held3 (fun w' => (Gr wr w' ∧ w'.cell? ⟨g, k * 5, none⟩ = some (.string c.a) ∧ w'.cell? ⟨g, k * 5 + 1, none⟩ = some (.string c.b) ∧ w'.cell? ⟨g, k * 5 + 2, none⟩ = some (.int .i64 c.t) ∧ w'.cell? ⟨g, k * 5 + 3, none⟩ = some (.int .i64 c.i) ∧ w'.cell? ⟨g, k * 5 + 4, none⟩ = some (.int .i64 c.j)) ∧ w'.cell? ⟨g', k * 5, none⟩ = some (.string c.a) ∧ w'.cell? ⟨g', k * 5 + 1, none⟩ = some (.string c.b) ∧ w'.cell? ⟨g', k * 5 + 2, none⟩ = some (.int .i64 c.t) ∧ w'.cell? ⟨g', k * 5 + 3, none⟩ = some (.int .i64 c.i) ∧ w'.cell? ⟨g', k * 5 + 4, none⟩ = some (.int .i64 c.j))
        (first
          | exact ⟨⟨(Gr.refl _).drew, y⟩, y'⟩
          | exact ⟨⟨(Gr.refl _).drew.trans g1, fiveC_gr (w := wr.drew) y g1 (Nat.lt_of_lt_of_le hg hgr)⟩, fiveC_gr (w := wr.drew) y' g1 (Nat.lt_of_lt_of_le hg' hgr)⟩)
        (first
          | (go_at_call 38; refine (eqClash_same c.a c.b c.t c.i c.j _).mono ?_; rintro e w1 ⟨rfl, g1⟩))
      go_wp2
      go_roundw
      case rel => exact ⟨k + 1, by omega, by go_num, HG.out.trans (And.left (And.left (by assumption)))⟩
      case measure => simp [intOf]; omega
    · go_wp2
      go_ret
      exact ⟨rfl, gr⟩

/-- A clash that is marked from a number on. -/
def markK (k : Int) : Kc := ⟨mtx k, mtx (k + 1), k + 1 + 1, k + 1 + 1 + 1, k + 1 + 1 + 1 + 1⟩
def markKs (k : Int) (n : Nat) : List Kc := (List.range n).map fun (j : Nat) => markK (k + 5 * (j : Int))
theorem markKs_len (k : Int) (n : Nat) : (markKs k n).length = n := by simp [markKs]
theorem markKs_get (k : Int) (n j : Nat) (hj : j < n) : (markKs k n)[j]? = some (markK (k + 5 * j)) := by simp [markKs, hj]
def MarkedK (k : Int) (j : Nat) (l : List Kc) : Prop := ∀ i, i < j → l[i]? = some (markK (k + 5 * i))
theorem markedK_all {k : Int} {l : List Kc} (h : MarkedK k l.length l) : l = markKs k l.length := by
  apply List.ext_getElem?
  intro i
  by_cases hi : i < l.length
  · rw [h i hi, markKs_get k _ i hi]
  · rw [List.getElem?_eq_none (by omega), List.getElem?_eq_none (by rw [markKs_len]; omega)]
theorem markedK_next {k : Int} {j : Nat} {l : List Kc} (h : MarkedK k j l) (hj : j < l.length) : MarkedK k (j + 1) (l.set j (markK (k + 5 * j))) := by
  intro i hi
  by_cases e : i = j
  · subst e
    rw [List.getElem?_set_self hj]
  · rw [List.getElem?_set_ne (fun e' => e e'.symm)]
    exact h i (by omega)
theorem set_five {l : List Kc} {j : Nat} (hj : j < l.length) (c : Kc) : (((((l.flatMap encC).set (j * 5) (.string c.a)).set (j * 5 + 1) (.string c.b)).set (j * 5 + 2) (.int .i64 c.t)).set (j * 5 + 3) (.int .i64 c.i)).set (j * 5 + 4) (.int .i64 c.j) = (l.set j c).flatMap encC := by
  induction l generalizing j with
  | nil => simp at hj
  | cons x l ih =>
    cases j with
    | zero => simp [encC]
    | succ j =>
      have e : ∀ i, (j + 1) * 5 + i = 5 + (j * 5 + i) := fun i => by omega
      have e0 : (j + 1) * 5 = 5 + (j * 5 + 0) := by omega
      have sh : ∀ (a b : List Value) (i : Nat) (u : Value), a.length = 5 → (a ++ b).set (5 + i) u = a ++ b.set i u := fun a b i u ha => by
        rw [List.set_append_right _ _ (by omega), ha, Nat.add_sub_cancel_left]
      rw [List.flatMap_cons, List.set_cons_succ, List.flatMap_cons, ← ih (by simpa using hj), e 1, e 2, e 3, e 4, e0]
      rw [sh _ _ _ _ rfl, sh _ _ _ _ rfl, sh _ _ _ _ rfl, sh _ _ _ _ rfl, sh _ _ _ _ rfl]
      rfl

set_option maxRecDepth 100000 in
set_option maxHeartbeats 2000000 in
theorem markClashS_some (lo q cap : Nat) (cs : List Kc) (k : Int) (w : World) (hO : w.ownsRow lo 61 5 (.slice (some ⟨q, 0, none⟩) cs.length cap) cs.length (cs.flatMap encC)) (hn : cs.length ≤ 1048576) (h0 : 0 < k) (h1 : k ≤ 10000000000000) :
    Calls Tryz.prog 15 #[.slice (some ⟨q, 0, none⟩) cs.length cap, .int .i64 k] w fun e w' => e = .returned (.int .i64 (k + 5 * cs.length)) ∧ w.grownBy w' (some q) ∧ w'.ownsRow lo 61 5 (.slice (some ⟨q, 0, none⟩) cs.length cap) cs.length ((markKs k cs.length).flatMap encC) := by
  have HO := hidE hO
  clear hO
  go_enter Tryz.func15, Tryz.ntmps15
  go_wp2
  go_loopw [1, 5] (fun x i wr => ∃ (j : Nat) (l : List Kc), j ≤ cs.length ∧ i = .int .i64 j ∧ x = .int .i64 (k + 5 * j) ∧ l.length = cs.length ∧ Hid (MarkedK k j l) ∧ Hid (wr.ownsRow lo 61 5 (.slice (some ⟨q, 0, none⟩) cs.length cap) cs.length (l.flatMap encC)) ∧ Hid (w.grownBy wr (some q))) (fun _ i _ => cs.length - (intOf i).toNat)
  case atStart => exact ⟨0, cs, Nat.zero_le _, rfl, by simp, rfl, fun i hi => by omega, HO, grown_of_refl q w⟩
  case round =>
    obtain ⟨j, l, hj, rfl, rfl, hl, HM, HR, HG⟩ := hrel
    by_cases hjl : j < cs.length
    · have hi0 : (0 : Int) ≤ (j : Int) := by omega
      have hi1 : (j : Int) < (cs.length : Int) := by omega
      obtain ⟨K, hK⟩ : ∃ K : Int, K = k + 5 * j := ⟨_, rfl⟩
      have hK0 : 0 < K := by omega
      have hK1 : K ≤ 20000000000000 := by omega
      rw [← hK]
      have HKe := hidE hK
      have HM2 := hidE (markedK_next HM.out (hl ▸ hjl))
      have HT : Hid (∀ w', Calls Tryz.prog 39 #[.int .i64 K] w' fun e w'' => e = .returned (.string (mtx K)) ∧ Gr w' w'') := fun w' => markText_any K w' (by omega) (by omega)
      have HT2 : Hid (∀ w', Calls Tryz.prog 39 #[.int .i64 (K + 1)] w' fun e w'' => e = .returned (.string (mtx (K + 1))) ∧ Gr w' w'') := fun w' => markText_any (K + 1) w' (by omega) (by omega)
      clear hK HM
      go_wp2_with fail
      (with_reducible refine Calls.mono (HT.out _) ?_)
      rintro e w1 ⟨rfl, g1⟩
      have o1 := owns_gr HR.out g1
      obtain ⟨u0, c0⟩ : ∃ u, w1.cell? ⟨q, j * 5, none⟩ = some u := ⟨_, (o1.cellAt _ (by omega)).trans (List.getElem?_eq_getElem (by rw [encC_len, hl]; omega))⟩
      have f0 : w1.frozen? ⟨q, j * 5, none⟩ = false := o1.frozenAt _
      have s1 := o1.stored (j * 5) (.string (mtx K))
      have H1 := hidE s1.1
      have HG1 := hidE (grown_trans HG.out (grown_trans (grown_row (grown_of g1) (some q)) s1.2))
      clear o1 s1 g1 HR HG HT
      go_wp2_with fail
      (with_reducible refine Calls.mono (HT2.out _) ?_)
      rintro e w2 ⟨rfl, g2⟩
      have o2 := owns_gr H1.out g2
      have hc : ∀ i, i < 5 → ∃ u, w2.cell? ⟨q, j * 5 + i, none⟩ = some u := fun i hi => ⟨_, (o2.cellAt _ (by omega)).trans (List.getElem?_eq_getElem (by rw [List.length_set, encC_len, hl]; omega))⟩
      have hf : ∀ i, w2.frozen? ⟨q, i, none⟩ = false := fun i => o2.frozenAt i
      obtain ⟨u1, c1⟩ := hc 1 (by omega)
      obtain ⟨u2, c2⟩ := hc 2 (by omega)
      obtain ⟨u3, c3⟩ := hc 3 (by omega)
      obtain ⟨u4, c4⟩ := hc 4 (by omega)
      have f1 := hf (j * 5 + 1)
      have f2 := hf (j * 5 + 2)
      have f3 := hf (j * 5 + 3)
      have f4 := hf (j * 5 + 4)
      have s2 := o2.stored (j * 5 + 1) (.string (mtx (K + 1)))
      have s3 := s2.1.stored (j * 5 + 2) (.int .i64 (K + 1 + 1))
      have s4 := s3.1.stored (j * 5 + 3) (.int .i64 (K + 1 + 1 + 1))
      have s5 := s4.1.stored (j * 5 + 4) (.int .i64 (K + 1 + 1 + 1 + 1))
      have R1 := s5.1
      have R2 := hidE (grown_trans HG1.out (grown_trans (grown_row (grown_of g2) (some q)) (grown_trans s2.2 (grown_trans s3.2 (grown_trans s4.2 s5.2)))))
      rw [show K + 1 + 1 + 1 + 1 = (markK K).j from rfl, show K + 1 + 1 + 1 = (markK K).i from rfl, show K + 1 + 1 = (markK K).t from rfl, show mtx (K + 1) = (markK K).b from rfl, show mtx K = (markK K).a from rfl, set_five (hl ▸ hjl)] at R1
      have HR2 := hidE R1
      clear s2 s3 s4 s5 R1 o2 H1 HG1 g2 hc hf HT2
      simp only [markK] at HR2
      go_wp2
      go_roundw
      case rel => exact ⟨j + 1, l.set j (markK K), by omega, by go_num, congrArg (Value.int .i64) (by have := HKe.out; omega), by simp [hl], by rw [HKe.out]; exact HM2, HR2, R2⟩
      case measure => simp [intOf]; omega
    · have e : j = cs.length := by omega
      subst e
      go_wp2
      go_ret
      refine ⟨rfl, HG.out, ?_⟩
      have e1 : l = markKs k cs.length := by rw [← hl]; exact markedK_all (hl.symm ▸ HM.out)
      rw [← e1]
      exact HR.out
set_option maxHeartbeats 400000 in
theorem markClashS_zero (a : Option Addr) (cap : Nat) (k : Int) (w : World) : Calls Tryz.prog 15 #[.slice a 0 cap, .int .i64 k] w fun e w' => e = .returned (.int .i64 k) ∧ w' = w := by
  go_enter Tryz.func15, Tryz.ntmps15
  go_wp2
  go_loop [1, 5] (fun x i => x = .int .i64 k ∧ i = .int .i64 0) (fun _ _ => 0)
  case atStart => exact ⟨rfl, rfl⟩
  case round =>
    obtain ⟨rfl, rfl⟩ := hrel
    go_wp2
    go_ret
    exact ⟨rfl, rfl⟩
theorem markClashS_any (lo : Nat) (v : Value) (cs : List Kc) (k : Int) (w : World) (hO : w.ownsRow lo 61 5 v cs.length (cs.flatMap encC)) (hn : cs.length ≤ 1048576) (h0 : 0 < k) (h1 : k ≤ 10000000000000) :
    Calls Tryz.prog 15 #[v, .int .i64 k] w fun e w' => e = .returned (.int .i64 (k + 5 * cs.length)) ∧ w.grownBy w' v.ownBlock ∧ w'.ownsRow lo 61 5 v cs.length ((markKs k cs.length).flatMap encC) := by
  rcases id hO.2 with ⟨rfl, hz⟩ | ⟨q, cap, cur, rfl, -⟩
  · obtain rfl : cs = [] := List.length_eq_zero_iff.1 hz
    refine (markClashS_zero none 0 k w).mono ?_
    rintro e w' ⟨rfl, rfl⟩
    exact ⟨by simp, ⟨rfl, rfl, rfl, Nat.le_refl _, fun _ _ _ => rfl⟩, hO⟩
  · exact markClashS_some lo q cap cs k w hO hn h0 h1

set_option maxRecDepth 100000 in
set_option maxHeartbeats 2000000 in
theorem heldClashS_any (lo n : Nat) (v : Value) (k : Int) (w : World) (hO : w.ownsRow lo 61 5 v n ((markKs k n).flatMap encC)) (hn : n ≤ 1048576) (h0 : 0 < k) (h1 : k ≤ 10000000000000) :
    Calls Tryz.prog 16 #[v, .int .i64 k] w fun e w' => e = .returned (.int .i64 (k + 5 * n)) ∧ Gr w w' := by
  obtain ⟨a, cap, rfl⟩ := row_form hO
  have HM := hidE hO
  clear hO
  go_enter Tryz.func16, Tryz.ntmps16
  go_wp2
  go_loopw [1, 5] (fun x i wr => ∃ j : Nat, j ≤ n ∧ i = .int .i64 j ∧ x = .int .i64 (k + 5 * j) ∧ Gr w wr) (fun _ i _ => n - (intOf i).toNat)
  case atStart => exact ⟨0, Nat.zero_le _, rfl, by simp, Gr.refl _⟩
  case round =>
    obtain ⟨j, hj, rfl, rfl, gr⟩ := hrel
    by_cases hjl : j < n
    · obtain ⟨q, cp, e⟩ := row_some HM.out (by omega)
      simp only [Value.slice.injEq, true_and] at e
      obtain ⟨rfl, rfl⟩ := e
      have hq : q < w.heap.size := (row_block HM.out rfl).2.1
      have hx : FiveC w q (j * 5) (markK (k + 5 * j)) := by
        have h9 := HM.out
        have e9 := markKs_len k n
        obtain ⟨m, hm⟩ : ∃ m, m = markKs k n := ⟨_, rfl⟩
        have h8 := markKs_get k n j hjl
        rw [← hm] at h9 e9 h8
        subst e9
        exact clash_cells h9 h8
      obtain ⟨K, hK⟩ : ∃ K : Int, K = k + 5 * j := ⟨_, rfl⟩
      have hK0 : 0 < K := by omega
      have hK1 : K ≤ 20000000000000 := by omega
      rw [← hK] at hx ⊢
      have HKe := hidE hK
      obtain ⟨c0, c1, c2, c3, c4⟩ := fiveC_gr hx gr hq
      simp only [markK] at c0 c1 c2 c3 c4
      have hqw : q < wr.heap.size := Nat.lt_of_lt_of_le hq gr.size
      have hi0 : (0 : Int) ≤ (j : Int) := by omega
      have hi1 : (j : Int) < (n : Int) := by omega
      have G0 := Gr.refl wr
      have K0 : Hid (∀ w', Gr wr w' → Gr wr w' ∧ w'.cell? ⟨q, j * 5, none⟩ = some (.string (mtx K))) := fun w' h => ⟨h, (h.cells.1 _ _ hqw).trans c0⟩
      have K1 : Hid (∀ w', Gr wr w' → Gr wr w' ∧ w'.cell? ⟨q, j * 5 + 1, none⟩ = some (.string (mtx (K + 1)))) := fun w' h => ⟨h, (h.cells.1 _ _ hqw).trans c1⟩
      have HC : Hid (∀ w', Gr wr w' → w'.cell? ⟨q, j * 5 + 2, none⟩ = some (.int .i64 (K + 1 + 1)) ∧ w'.cell? ⟨q, j * 5 + 3, none⟩ = some (.int .i64 (K + 1 + 1 + 1)) ∧ w'.cell? ⟨q, j * 5 + 4, none⟩ = some (.int .i64 (K + 1 + 1 + 1 + 1))) := fun w' h => ⟨(h.cells.1 _ _ hqw).trans c2, (h.cells.1 _ _ hqw).trans c3, (h.cells.1 _ _ hqw).trans c4⟩
      clear hx hK c0 c1 c2 c3 c4
      go_wp2_with fail
      go_region_held3 (fun w' => Gr wr w' ∧ w'.cell? ⟨q, j * 5, none⟩ = some (.string (mtx K)))
        ((refine K0.out _ ?_; repeat (first | with_reducible exact G0 | with_reducible assumption | with_reducible exact And.left (by assumption) | with_reducible refine Gr.drew ?_ | with_reducible refine Gr.alloc ?_ _)))
        ((go_at_call 39; refine (markText_any K _ (by omega) (by omega)).mono ?_; rintro e w1 ⟨rfl, g1⟩; have g2 := Gr.trans (And.left (by assumption)) g1))
      all_goals
        have G1 := g2
        clear g1 g2
        go_wp2_with fail
        go_region_held3 (fun w' => Gr wr w' ∧ w'.cell? ⟨q, j * 5 + 1, none⟩ = some (.string (mtx (K + 1))))
          ((refine K1.out _ ?_; repeat (first | with_reducible exact G1 | with_reducible assumption | with_reducible exact And.left (by assumption) | with_reducible refine Gr.drew ?_ | with_reducible refine Gr.alloc ?_ _)))
          ((go_at_call 39; refine (markText_any (K + 1) _ (by omega) (by omega)).mono ?_; rintro e w2 ⟨rfl, g3⟩; have g4 := Gr.trans (And.left (by assumption)) g3))
      all_goals
        obtain ⟨z2, z3, z4⟩ := HC.out _ g4
        go_wp2
        go_roundw
        case rel => exact ⟨j + 1, by omega, by go_num, congrArg (Value.int .i64) (by have := HKe.out; omega), gr.trans g4⟩
        case measure => simp [intOf]; omega
    · have e : j = n := by omega
      subst e
      go_wp2
      go_ret
      exact ⟨rfl, gr⟩
end Go.Proofs.YtpdcgjkfilohcabGreat
