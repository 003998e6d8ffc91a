import Derived.Test.YtpdcgjkfilohcabGreatIdxLS
import Derived.Test.YtpdcgjkfilohcabGreatDrawEI
namespace Go.Proofs.YtpdcgjkfilohcabGreat
open Go.RowKit Go.Sort Go.Maps
attribute [local go_sem ↓] Go.wp_at_zero Go.wp_at_succ
set_option linter.unusedSimpArgs false
set_option linter.unusedVariables false

/-! The specification's index, box by box. -/

set_option maxHeartbeats 1000000 in
theorem l5Before_any (a b : Sl) (w : World) : Calls Tryz.prog 134 #[.agg #[.int .i64 a.i, .int .i64 a.o, .int .i64 a.l, .int .i64 a.h, .string a.s, .int .i64 a.p], .agg #[.int .i64 b.i, .int .i64 b.o, .int .i64 b.l, .int .i64 b.h, .string b.s, .int .i64 b.p]] w fun e w' => e = .returned (.bool (slLt a b)) ∧ Gr w w' := by
  have HV : Hid (slLt a b = if a.i = b.i then (if a.s.toList = b.s.toList then decide (a.p < b.p) else Op.bytesLess a.s.toList b.s.toList) else decide (a.i < b.i)) := rfl
  generalize slLt a b = r at *
  by_cases h1 : a.i = b.i
  · have e1 : (a.i == b.i) = true := by simp [h1]
    by_cases h2 : a.s.toList = b.s.toList
    · have e2 : (a.s.toList == b.s.toList) = true := by simp [h2]
      have HE : Hid (r = decide (a.p < b.p)) := by have := HV.out; rw [if_pos h1, if_pos h2] at this; exact this
      clear HV h1 h2
      go_enter Tryz.func134, Tryz.ntmps134
      go_wp2
      go_ret
      exact ⟨by rw [HE.out]; rfl, ((Gr.refl _).alloc _).alloc _⟩
    · have e2 : (a.s.toList == b.s.toList) = false := by simp [h2]
      have HE : Hid (r = Op.bytesLess a.s.toList b.s.toList) := by have := HV.out; rw [if_pos h1, if_neg h2] at this; exact this
      clear HV h1 h2
      go_enter Tryz.func134, Tryz.ntmps134
      go_wp2
      go_ret
      exact ⟨by rw [HE.out]; rfl, ((Gr.refl _).alloc _).alloc _⟩
  · have e1 : (a.i == b.i) = false := by simp [h1]
    have HE : Hid (r = decide (a.i < b.i)) := by have := HV.out; rw [if_neg h1] at this; exact this
    clear HV h1
    go_enter Tryz.func134, Tryz.ntmps134
    go_wp2
    go_ret
    exact ⟨by rw [HE.out]; rfl, ((Gr.refl _).alloc _).alloc _⟩

theorem slots_news {w : World} {g o : Nat} {ss : List Sl} (h : ∀ k, k < ss.length → SixS w g (o + k * 6) (ss.getD k Sl.nil)) : ∀ j u, (ss.flatMap encS)[j]? = some u → w.cell? ((⟨g, o, none⟩ : Addr).add j) = some u := by
  intro j u hu
  have e : (⟨g, o, none⟩ : Addr).add j = ⟨g, o + j, none⟩ := by unfold Addr.add; split <;> simp_all
  rw [e]
  have hj : j < ss.length * 6 := by
    have := (List.getElem?_eq_some_iff.1 hu).1
    rw [encS_len] at this
    exact this
  have hk : j / 6 < ss.length := Nat.div_lt_of_lt_mul (by omega)
  have hd : j = j / 6 * 6 + j % 6 := by omega
  have hm : j % 6 < 6 := Nat.mod_lt _ (by omega)
  obtain ⟨x0, x1, x2, x3, x4, x5⟩ := h (j / 6) hk
  have h2 := at_six hk (j % 6) hm
  rw [← hd, hu] at h2
  generalize ss.getD (j / 6) Sl.nil = s at *
  have e3 : o + j = o + j / 6 * 6 + j % 6 := by omega
  rw [e3]
  rcases (by omega : j % 6 = 0 ∨ j % 6 = 1 ∨ j % 6 = 2 ∨ j % 6 = 3 ∨ j % 6 = 4 ∨ j % 6 = 5) with e | e | e | e | e | e <;> rw [e] at h2 ⊢ <;> simp [encS] at h2 <;> subst h2 <;> assumption


/-- A new row of nothing. -/
theorem own_empty {w : World} {base H : Nat} {e : TypeId} (size : Nat) (hb : base ≤ H) (h : w.heap[H]? = some (.cells #[] e (0, 0))) : w.ownsRow base e size (.slice (some ⟨H, 0, none⟩) 0 0) 0 [] :=
  ⟨by simp, .inr ⟨H, 0, #[], rfl, hb, h, Nat.le_refl _, by unfold maxLen; omega, by simp, by simp⟩⟩
theorem alloc_at (w : World) (o o' : Obj) : ((w.alloc o).alloc o').heap[w.heap.size + 1]? = some o' := by
  have := World.alloc_heap_new (w.alloc o) o'
  rwa [World.size_alloc] at this
theorem blk_cells {w : World} {H : Nat} {vs : List Value} {e : TypeId} (h : w.heap[H]? = some (.cells vs.toArray e (0, 0))) (j : Nat) (u : Value) (hu : vs[j]? = some u) : w.cell? ((⟨H, 0, none⟩ : Addr).add j) = some u := by
  have e1 : (⟨H, 0, none⟩ : Addr).add j = ⟨H, j, none⟩ := by unfold Addr.add; split <;> simp_all
  rw [e1]
  unfold World.cell?
  rw [h]
  simpa using hu
theorem ahead_all {f : Sl → Bool} {ss : List Sl} (h : ∀ x ∈ ss.take ss.length, f x = true) : ahead f ss ss.length := ⟨Nat.le_refl _, h, fun x hx => by simp at hx⟩
theorem encS_take (ss : List Sl) (k : Nat) (hk : k ≤ ss.length) : ((ss.take k).flatMap encS).length = k * 6 := by rw [encS_len, List.length_take, Nat.min_eq_left hk]
theorem encS_drop (ss : List Sl) (k : Nat) : ((ss.drop k).flatMap encS).length = (ss.length - k) * 6 := by rw [encS_len, List.length_drop]
/-- The first slots of a row, and the last. -/
theorem slots_take {w : World} {g o : Nat} {ss : List Sl} (k : Nat) (h : ∀ i, i < ss.length → SixS w g (o + i * 6) (ss.getD i Sl.nil)) : ∀ j u, ((ss.take k).flatMap encS)[j]? = some u → w.cell? ((⟨g, o, none⟩ : Addr).add j) = some u :=
  slots_news (fun i hi => by
    rw [List.length_take] at hi
    have := h i (by omega)
    rw [List.getD_eq_getElem?_getD, List.getElem?_take_of_lt (by omega), ← List.getD_eq_getElem?_getD]
    exact this)
theorem slots_drop {w : World} {g o : Nat} {ss : List Sl} (k : Nat) (h : ∀ i, i < ss.length → SixS w g (o + i * 6) (ss.getD i Sl.nil)) : ∀ j u, ((ss.drop k).flatMap encS)[j]? = some u → w.cell? ((⟨g, o + k * 6, none⟩ : Addr).add j) = some u :=
  slots_news (fun i hi => by
    rw [List.length_drop] at hi
    have := h (k + i) (by omega)
    rw [List.getD_eq_getElem?_getD, List.getElem?_drop, ← List.getD_eq_getElem?_getD, show o + k * 6 + i * 6 = o + (k + i) * 6 by omega]
    exact this)
/-- Whether the slot at a place comes ahead of another one. -/
def slAt (ss : List Sl) (k : Nat) (s : Sl) : Bool := match ss[k]? with | some x => slLt x s | none => false
theorem slAt_some {ss : List Sl} {k : Nat} {s : Sl} (hk : k < ss.length) : slAt ss k s = slLt (ss.getD k Sl.nil) s := by
  unfold slAt
  rw [List.getD_eq_getElem?_getD, List.getElem?_eq_getElem hk]
  rfl
theorem slAt_none {ss : List Sl} {k : Nat} {s : Sl} (hk : ¬ k < ss.length) : slAt ss k s = false := by
  unfold slAt
  rw [List.getElem?_eq_none (by omega)]
theorem slAt_true {ss : List Sl} {k : Nat} {s : Sl} (h : slAt ss k s = true) (hT : ∀ x ∈ ss.take k, slLt x s = true) : k < ss.length ∧ ∀ x ∈ ss.take (k + 1), slLt x s = true := by
  unfold slAt at h
  split at h
  · rename_i x hx
    refine ⟨(List.getElem?_eq_some_iff.1 hx).1, fun y hy => ?_⟩
    rw [List.take_add_one, hx] at hy
    rcases List.mem_append.1 hy with hy | hy
    · exact hT y hy
    · simp at hy
      subst hy
      exact h
  · cases h
theorem slAt_false {ss : List Sl} {k : Nat} {s : Sl} (h : slAt ss k s = false) (hk : k ≤ ss.length) (hT : ∀ x ∈ ss.take k, slLt x s = true) : ahead (fun a => slLt a s) ss k := by
  refine ⟨hk, hT, fun x hx => ?_⟩
  unfold slAt at h
  rw [hx] at h
  exact h

set_option maxRecDepth 100000 in
set_option maxHeartbeats 4000000 in
theorem l5Slot_any (g o cap : Nat) (ss : List Sl) (s : Sl) (w : World) (ha : ∀ k, k < ss.length → SixS w g (o + k * 6) (ss.getD k Sl.nil)) (hg : g < w.heap.size) (hn : ss.length ≤ 10000) (hcap : ss.length ≤ cap) :
    Calls Tryz.prog 84 #[.slice (some ⟨g, o, none⟩) ss.length cap, .agg #[.int .i64 s.i, .int .i64 s.o, .int .i64 s.l, .int .i64 s.h, .string s.s, .int .i64 s.p]] w fun e w' => (∃ v k, e = .returned v ∧ ahead (fun a => slLt a s) ss k ∧ w'.ownsRow w.heap.size 84 6 v (ss.length + 1) ((ss.take k ++ s :: ss.drop k).flatMap encS)) ∧ Gr w w' := by
  obtain ⟨i0, hi, hz0, hz1, hz2⟩ := info_parts Tryz.info84
  have HA := hidE ha
  clear ha
  go_enter Tryz.func84, Tryz.ntmps84
  go_wp2
  go_loopw [5] (fun i wr => ∃ k : Nat, k ≤ ss.length ∧ i = .int .i64 k ∧ Gr (w.alloc (.cells #[.int .i64 s.i, .int .i64 s.o, .int .i64 s.l, .int .i64 s.h, .string s.s, .int .i64 s.p] 84)) wr ∧ Hid (∀ x ∈ ss.take k, slLt x s = true)) (fun i _ => ss.length - (intOf i).toNat)
  case atStart => exact ⟨0, Nat.zero_le _, rfl, Gr.refl _, fun x hx => by simp at hx⟩
  case round =>
    obtain ⟨k, hk, rfl, gr, HT⟩ := hrel
    have GW : Gr w wr := ((Gr.refl w).alloc _).trans gr
    have hsw : w.heap.size < wr.heap.size := by have := gr.size; simp at this; omega
    have hgw : g < wr.heap.size := Nat.lt_of_lt_of_le hg GW.size
    have hs : wr.cell? ⟨w.heap.size, 0, none⟩ = some (.int .i64 s.i) ∧ wr.cell? ⟨w.heap.size, 1, none⟩ = some (.int .i64 s.o) ∧ wr.cell? ⟨w.heap.size, 2, none⟩ = some (.int .i64 s.l) ∧ wr.cell? ⟨w.heap.size, 3, none⟩ = some (.int .i64 s.h) ∧ wr.cell? ⟨w.heap.size, 4, none⟩ = some (.string s.s) ∧ wr.cell? ⟨w.heap.size, 5, none⟩ = some (.int .i64 s.p) := by
      obtain ⟨hc, -⟩ := gr.cells
      refine ⟨?_, ?_, ?_, ?_, ?_, ?_⟩ <;> rw [hc _ _ (by simp)] <;> simp
    have KS : Hid (∀ w', Gr wr w' → w'.cell? ⟨w.heap.size, 0, none⟩ = some (.int .i64 s.i) ∧ w'.cell? ⟨w.heap.size, 1, none⟩ = some (.int .i64 s.o) ∧ w'.cell? ⟨w.heap.size, 2, none⟩ = some (.int .i64 s.l) ∧ w'.cell? ⟨w.heap.size, 3, none⟩ = some (.int .i64 s.h) ∧ w'.cell? ⟨w.heap.size, 4, none⟩ = some (.string s.s) ∧ w'.cell? ⟨w.heap.size, 5, none⟩ = some (.int .i64 s.p)) := fun w' g' => by
      obtain ⟨hc, -⟩ := g'.cells
      simp only [hc _ _ hsw]
      exact hs
    clear hs
    have hi0 : (0 : Int) ≤ (k : Int) := by omega
    have HGW := hidE GW
    have HGR := hidE gr
    clear gr GW
    go_upto_region 2 with fail
    go_cut [17] from 6 to 19 (fun s17 wx => s17 = .bool (slAt ss k s) ∧ Gr wr wx)
    case first =>
      by_cases hkl : k < ss.length
      · have ES := hidE (slAt_some (s := s) hkl)
        have hx := sixS_gr (HA.out k hkl) HGW.out hg
        generalize ss.getD k Sl.nil = x at *
        have KK : Hid (∀ w', Gr wr w' → Gr wr w' ∧ w'.cell? ⟨g, o + k * 6, none⟩ = some (.int .i64 x.i) ∧ w'.cell? ⟨g, o + k * 6 + 1, none⟩ = some (.int .i64 x.o) ∧ w'.cell? ⟨g, o + k * 6 + 2, none⟩ = some (.int .i64 x.l) ∧ w'.cell? ⟨g, o + k * 6 + 3, none⟩ = some (.int .i64 x.h) ∧ w'.cell? ⟨g, o + k * 6 + 4, none⟩ = some (.string x.s) ∧ w'.cell? ⟨g, o + k * 6 + 5, none⟩ = some (.int .i64 x.p) ∧ w'.cell? ⟨w.heap.size, 0, none⟩ = some (.int .i64 s.i) ∧ w'.cell? ⟨w.heap.size, 1, none⟩ = some (.int .i64 s.o) ∧ w'.cell? ⟨w.heap.size, 2, none⟩ = some (.int .i64 s.l) ∧ w'.cell? ⟨w.heap.size, 3, none⟩ = some (.int .i64 s.h) ∧ w'.cell? ⟨w.heap.size, 4, none⟩ = some (.string s.s) ∧ w'.cell? ⟨w.heap.size, 5, none⟩ = some (.int .i64 s.p)) := fun w' g' => by
          obtain ⟨x0, x1, x2, x3, x4, x5⟩ := sixS_gr hx g' hgw
          exact ⟨g', x0, x1, x2, x3, x4, x5, KS.out w' g'⟩
        have q0 := Gr.refl wr
        have hi1 : (k : Int) < (ss.length : Int) := by omega
        clear hx
        go_region_held3 (fun w' => Gr wr w' ∧ w'.cell? ⟨g, o + k * 6, none⟩ = some (.int .i64 x.i) ∧ w'.cell? ⟨g, o + k * 6 + 1, none⟩ = some (.int .i64 x.o) ∧ w'.cell? ⟨g, o + k * 6 + 2, none⟩ = some (.int .i64 x.l) ∧ w'.cell? ⟨g, o + k * 6 + 3, none⟩ = some (.int .i64 x.h) ∧ w'.cell? ⟨g, o + k * 6 + 4, none⟩ = some (.string x.s) ∧ w'.cell? ⟨g, o + k * 6 + 5, none⟩ = some (.int .i64 x.p) ∧ w'.cell? ⟨w.heap.size, 0, none⟩ = some (.int .i64 s.i) ∧ w'.cell? ⟨w.heap.size, 1, none⟩ = some (.int .i64 s.o) ∧ w'.cell? ⟨w.heap.size, 2, none⟩ = some (.int .i64 s.l) ∧ w'.cell? ⟨w.heap.size, 3, none⟩ = some (.int .i64 s.h) ∧ w'.cell? ⟨w.heap.size, 4, none⟩ = some (.string s.s) ∧ w'.cell? ⟨w.heap.size, 5, none⟩ = some (.int .i64 s.p))
          ((refine KK.out _ ?_; repeat (first | with_reducible exact q0 | with_reducible assumption | with_reducible exact And.left (by assumption) | with_reducible refine Gr.drew ?_ | with_reducible refine Gr.alloc ?_ _)))
          (first
            | (go_at_call 134; (with_reducible refine Calls.mono (l5Before_any x s _) ?_); rintro e w5 ⟨rfl, g5⟩; have g6 := Gr.trans (And.left (by assumption)) g5) | fail)
        all_goals (go_wp2_with fail; go_meet)
        all_goals exact ⟨by rw [ES.out], g6⟩
      · have hd : decide (k < ss.length) = false := by simpa using hkl
        have ES := hidE (slAt_none (s := s) hkl)
        clear hkl
        go_quiet (fail)
        go_wp2_with fail
        go_meet
        exact ⟨by rw [ES.out], (Gr.refl _).drewN _⟩
    obtain ⟨rfl, g3⟩ := hcut
    obtain ⟨wA, hA⟩ : ∃ x, x = wc := ⟨_, rfl⟩
    subst hA
    cases hB : slAt ss k s
    · have HAH := hidE (slAt_false hB hk HT.out)
      have hgA : g < wA.heap.size := Nat.lt_of_lt_of_le hgw g3.size
      have hN : w.heap.size ≤ wA.heap.size := Nat.le_trans HGW.out.size g3.size
      have hi1 : (k : Int) ≤ (ss.length : Int) := by omega
      have hi2 : (ss.length : Int) ≤ (cap : Int) := by omega
      have hi3 : (k : Int) ≤ (cap : Int) := by omega
      have HG0 := hidE (HGW.out.trans g3)
      have HSX : Hid (∀ w', Gr wA w' → ∀ i, i < ss.length → SixS w' g (o + i * 6) (ss.getD i Sl.nil)) := fun w' h i hi => sixS_gr (HA.out i hi) (HG0.out.trans h) hg
      have K4 : Hid (∀ w', Gr wA w' → Gr wA w' ∧ w'.cell? ⟨w.heap.size, 0, none⟩ = some (.int .i64 s.i) ∧ w'.cell? ⟨w.heap.size, 1, none⟩ = some (.int .i64 s.o) ∧ w'.cell? ⟨w.heap.size, 2, none⟩ = some (.int .i64 s.l) ∧ w'.cell? ⟨w.heap.size, 3, none⟩ = some (.int .i64 s.h) ∧ w'.cell? ⟨w.heap.size, 4, none⟩ = some (.string s.s) ∧ w'.cell? ⟨w.heap.size, 5, none⟩ = some (.int .i64 s.p)) := fun w' h => ⟨h, KS.out w' (g3.trans h)⟩
      have q0 := Gr.refl wA
      clear HT KS HA hB g3
      go_upto_region 4 with fail
      have HOa : Hid ((wA.alloc (.cells #[] 84)).drew.ownsRow wA.heap.size 84 6 (.slice (some ⟨wA.heap.size, 0, none⟩) 0 0) 0 []) := own_empty 6 (Nat.le_refl _) (World.alloc_heap_new _ _)
      have HOb : Hid (((wA.alloc (.cells #[] 84)).alloc (.cells #[.int .i64 s.i, .int .i64 s.o, .int .i64 s.l, .int .i64 s.h, .string s.s, .int .i64 s.p] 84)).drew.ownsRow wA.heap.size 84 6 (.slice (some ⟨wA.heap.size, 0, none⟩) 0 0) 0 []) := own_empty 6 (Nat.le_refl _) ((Below.heap_alloc _ _ _ (by simp)).trans (World.alloc_heap_new _ _))
      have HOc : Hid (((wA.alloc (.cells #[.int .i64 s.i, .int .i64 s.o, .int .i64 s.l, .int .i64 s.h, .string s.s, .int .i64 s.p] 84)).alloc (.cells #[] 84)).drew.ownsRow wA.heap.size 84 6 (.slice (some ⟨wA.heap.size + 1, 0, none⟩) 0 0) 0 []) := own_empty 6 (by omega) (alloc_at _ _ _)
      have HBb : Hid (((wA.alloc (.cells #[] 84)).alloc (.cells #[.int .i64 s.i, .int .i64 s.o, .int .i64 s.l, .int .i64 s.h, .string s.s, .int .i64 s.p] 84)).heap[wA.heap.size + 1]? = some (.cells #[.int .i64 s.i, .int .i64 s.o, .int .i64 s.l, .int .i64 s.h, .string s.s, .int .i64 s.p] 84 (0, 0))) := alloc_at _ _ _
      have HBc : Hid (((wA.alloc (.cells #[.int .i64 s.i, .int .i64 s.o, .int .i64 s.l, .int .i64 s.h, .string s.s, .int .i64 s.p] 84)).alloc (.cells #[] 84)).heap[wA.heap.size]? = some (.cells #[.int .i64 s.i, .int .i64 s.o, .int .i64 s.l, .int .i64 s.h, .string s.s, .int .i64 s.p] 84 (0, 0))) := (Below.heap_alloc _ _ _ (by simp)).trans (World.alloc_heap_new _ _)
      obtain ⟨A, hnews, hck⟩ : ∃ A : Addr, (∀ w', Gr wA w' → ∀ j u, ((ss.drop k).flatMap encS)[j]? = some u → w'.cell? (A.add j) = some u) ∧ ((cap = k ∧ A = ⟨g, o, none⟩) ∨ (¬ cap = k ∧ A = ⟨g, o + k * 6, none⟩)) := by
        by_cases hck : cap = k
        · refine ⟨_, fun w' _ j u hu => ?_, Or.inl ⟨hck, rfl⟩⟩
          rw [List.drop_of_length_le (by omega)] at hu
          simp at hu
        · exact ⟨_, fun w' h => slots_drop k (HSX.out w' h), Or.inr ⟨hck, rfl⟩⟩
      have HNW := hidE hnews
      clear hnews
      rcases hck with ⟨hck, rfl⟩ | ⟨hck, rfl⟩
      · have hck' : k = cap := hck.symm
        clear hck
        subst hck'
        go_region_held3 (fun w' => Gr wA w' ∧ w'.cell? ⟨w.heap.size, 0, none⟩ = some (.int .i64 s.i) ∧ w'.cell? ⟨w.heap.size, 1, none⟩ = some (.int .i64 s.o) ∧ w'.cell? ⟨w.heap.size, 2, none⟩ = some (.int .i64 s.l) ∧ w'.cell? ⟨w.heap.size, 3, none⟩ = some (.int .i64 s.h) ∧ w'.cell? ⟨w.heap.size, 4, none⟩ = some (.string s.s) ∧ w'.cell? ⟨w.heap.size, 5, none⟩ = some (.int .i64 s.p))
          ((refine K4.out _ ?_; repeat (first | with_reducible exact q0 | with_reducible assumption | with_reducible exact And.left (by assumption) | with_reducible refine Gr.drew ?_ | with_reducible refine Gr.alloc ?_ _)))
          (first
            | (refine step_append_own rfl (.tmp 20) (.tmp 23) 94 rfl wA.heap.size 84 i0 _ 6 56 Tryz.underlying94 hi hz0 hz1 hz2 rfl (by decide) _ _ _ (by simp [Act.eval]) HOa.out ⟨g, o, none⟩ k k ((ss.take k).flatMap encS) (by simp [Act.eval]) (encS_take ss k hk) (slots_take k (HSX.out _ (And.left (by assumption)))) (fun u hu => encS_one hu) (by unfold maxLen; omega) (by omega) (Gr.size (And.left (by assumption))) ?_; intro v24 w24 hown24 hgr24; have G24 : Gr wA w24 := Below.grown (And.left (by assumption)) hgr24 (Gr.size (And.left (by assumption))) (fun z hz => (row_block HOa.out hz).1); obtain ⟨a24, c24, e24⟩ := row_form hown24; subst e24)
            | (refine step_append_own rfl (.tmp 20) (.tmp 23) 94 rfl wA.heap.size 84 i0 _ 6 56 Tryz.underlying94 hi hz0 hz1 hz2 rfl (by decide) _ _ _ (by simp [Act.eval]) HOb.out ⟨g, o, none⟩ k k ((ss.take k).flatMap encS) (by simp [Act.eval]) (encS_take ss k hk) (slots_take k (HSX.out _ (And.left (by assumption)))) (fun u hu => encS_one hu) (by unfold maxLen; omega) (by omega) (Gr.size (And.left (by assumption))) ?_; intro v24 w24 hown24 hgr24; have G24 : Gr wA w24 := Below.grown (And.left (by assumption)) hgr24 (Gr.size (And.left (by assumption))) (fun z hz => (row_block HOb.out hz).1); have HB24 := hidE ((hgr24.block (wA.heap.size + 1) (by simp) (by simp [Value.ownBlock])).trans HBb.out); obtain ⟨a24, c24, e24⟩ := row_form hown24; subst e24)
            | (refine step_append_own rfl (.tmp 20) (.tmp 23) 94 rfl wA.heap.size 84 i0 _ 6 56 Tryz.underlying94 hi hz0 hz1 hz2 rfl (by decide) _ _ _ (by simp [Act.eval]) HOc.out ⟨g, o, none⟩ k k ((ss.take k).flatMap encS) (by simp [Act.eval]) (encS_take ss k hk) (slots_take k (HSX.out _ (And.left (by assumption)))) (fun u hu => encS_one hu) (by unfold maxLen; omega) (by omega) (Gr.size (And.left (by assumption))) ?_; intro v24 w24 hown24 hgr24; have G24 : Gr wA w24 := Below.grown (And.left (by assumption)) hgr24 (Gr.size (And.left (by assumption))) (fun z hz => (row_block HOc.out hz).1); have HB24 := hidE ((hgr24.block wA.heap.size (by simp; omega) (by simp [Value.ownBlock])).trans HBc.out); obtain ⟨a24, c24, e24⟩ := row_form hown24; subst e24)
            | (refine step_append_own rfl (.tmp 27) (.tmp 30) 94 rfl wA.heap.size 84 i0 _ 6 56 Tryz.underlying94 hi hz0 hz1 hz2 rfl (by decide) _ _ _ (by simp [Act.eval]) hown27 _ 0 0 ((ss.drop k).flatMap encS) (by simp [Act.eval]) (by rw [encS_drop, show ss.length - k = 0 by omega]) (HNW.out _ (And.left (by assumption))) (fun u hu => encS_one hu) (by unfold maxLen; omega) (by omega) (Gr.size (And.left (by assumption))) ?_; intro v31 w31 hown31 hgr31; have G31 : Gr wA w31 := Below.grown (And.left (by assumption)) hgr31 (Gr.size (And.left (by assumption))) (fun z hz => (row_block hown27 hz).1); rw [show 0 + k + 1 + 0 = ss.length + 1 by omega] at hown31; obtain ⟨a31, c31, e31⟩ := row_form hown31; subst e31)
            | (refine step_append_own rfl (.tmp 24) (.tmp 26) 94 rfl wA.heap.size 84 i0 _ 6 56 Tryz.underlying94 hi hz0 hz1 hz2 rfl (by decide) _ _ _ (by simp [Act.eval]) hown24 ⟨wA.heap.size + 1, 0, none⟩ 1 1 [.int .i64 s.i, .int .i64 s.o, .int .i64 s.l, .int .i64 s.h, .string s.s, .int .i64 s.p] (by simp [Act.eval]) rfl (blk_cells (vs := [.int .i64 s.i, .int .i64 s.o, .int .i64 s.l, .int .i64 s.h, .string s.s, .int .i64 s.p]) HB24.out) (by simp [Value.oneCell']) (by unfold maxLen; omega) (by omega) (Gr.size (And.left (by assumption))) ?_; intro v27 w27 hown27 hgr27; have G27 : Gr wA w27 := Below.grown (And.left (by assumption)) hgr27 (Gr.size (And.left (by assumption))) (fun z hz => (row_block hown24 hz).1); obtain ⟨a27, c27, e27⟩ := row_form hown27; subst e27)
            | (refine step_append_own rfl (.tmp 24) (.tmp 26) 94 rfl wA.heap.size 84 i0 _ 6 56 Tryz.underlying94 hi hz0 hz1 hz2 rfl (by decide) _ _ _ (by simp [Act.eval]) hown24 ⟨wA.heap.size, 0, none⟩ 1 1 [.int .i64 s.i, .int .i64 s.o, .int .i64 s.l, .int .i64 s.h, .string s.s, .int .i64 s.p] (by simp [Act.eval]) rfl (blk_cells (vs := [.int .i64 s.i, .int .i64 s.o, .int .i64 s.l, .int .i64 s.h, .string s.s, .int .i64 s.p]) HB24.out) (by simp [Value.oneCell']) (by unfold maxLen; omega) (by omega) (Gr.size (And.left (by assumption))) ?_; intro v27 w27 hown27 hgr27; have G27 : Gr wA w27 := Below.grown (And.left (by assumption)) hgr27 (Gr.size (And.left (by assumption))) (fun z hz => (row_block hown24 hz).1); obtain ⟨a27, c27, e27⟩ := row_form hown27; subst e27)
            | (refine step_append_own rfl (.tmp 24) (.tmp 26) 94 rfl wA.heap.size 84 i0 _ 6 56 Tryz.underlying94 hi hz0 hz1 hz2 rfl (by decide) _ _ _ (by simp [Act.eval]) (hown24.alloc _) ⟨w24.heap.size, 0, none⟩ 1 1 [.int .i64 s.i, .int .i64 s.o, .int .i64 s.l, .int .i64 s.h, .string s.s, .int .i64 s.p] (by simp [Act.eval]) rfl (news_cells w24 _ rfl [.int .i64 s.i, .int .i64 s.o, .int .i64 s.l, .int .i64 s.h, .string s.s, .int .i64 s.p] _) (by simp [Value.oneCell']) (by unfold maxLen; omega) (by omega) (Gr.size (And.left (by assumption))) ?_; intro v27 w27 hown27 hgr27; have G27 : Gr wA w27 := Below.grown (And.left (by assumption)) hgr27 (Gr.size (And.left (by assumption))) (fun z hz => (row_block hown24 hz).1); obtain ⟨a27, c27, e27⟩ := row_form hown27; subst e27))
        all_goals
          have HF : Hid (w31.ownsRow w.heap.size 84 6 (.slice a31 (ss.length + 1) c31) (ss.length + 1) ((ss.take k ++ s :: ss.drop k).flatMap encS)) := by
            show World.ownsRow _ _ _ _ _ _ _
            have h9 := own_lo hown31 hN
            simpa [encS, List.flatMap_append] using h9
          have HG9 := hidE (HG0.out.trans G31)
          clear hown31
          go_wp2
          go_ret
          exact ⟨⟨_, k, rfl, HAH.out, HF.out⟩, HG9.out⟩
      go_region_held3 (fun w' => Gr wA w' ∧ w'.cell? ⟨w.heap.size, 0, none⟩ = some (.int .i64 s.i) ∧ w'.cell? ⟨w.heap.size, 1, none⟩ = some (.int .i64 s.o) ∧ w'.cell? ⟨w.heap.size, 2, none⟩ = some (.int .i64 s.l) ∧ w'.cell? ⟨w.heap.size, 3, none⟩ = some (.int .i64 s.h) ∧ w'.cell? ⟨w.heap.size, 4, none⟩ = some (.string s.s) ∧ w'.cell? ⟨w.heap.size, 5, none⟩ = some (.int .i64 s.p))
        ((refine K4.out _ ?_; repeat (first | with_reducible exact q0 | with_reducible assumption | with_reducible exact And.left (by assumption) | with_reducible refine Gr.drew ?_ | with_reducible refine Gr.alloc ?_ _)))
        (first
          | (refine step_append_own rfl (.tmp 20) (.tmp 23) 94 rfl wA.heap.size 84 i0 _ 6 56 Tryz.underlying94 hi hz0 hz1 hz2 rfl (by decide) _ _ _ (by simp [Act.eval]) HOa.out ⟨g, o, none⟩ k cap ((ss.take k).flatMap encS) (by simp [Act.eval]) (encS_take ss k hk) (slots_take k (HSX.out _ (And.left (by assumption)))) (fun u hu => encS_one hu) (by unfold maxLen; omega) (by omega) (Gr.size (And.left (by assumption))) ?_; intro v24 w24 hown24 hgr24; have G24 : Gr wA w24 := Below.grown (And.left (by assumption)) hgr24 (Gr.size (And.left (by assumption))) (fun z hz => (row_block HOa.out hz).1); obtain ⟨a24, c24, e24⟩ := row_form hown24; subst e24)
          | (refine step_append_own rfl (.tmp 20) (.tmp 23) 94 rfl wA.heap.size 84 i0 _ 6 56 Tryz.underlying94 hi hz0 hz1 hz2 rfl (by decide) _ _ _ (by simp [Act.eval]) HOb.out ⟨g, o, none⟩ k cap ((ss.take k).flatMap encS) (by simp [Act.eval]) (encS_take ss k hk) (slots_take k (HSX.out _ (And.left (by assumption)))) (fun u hu => encS_one hu) (by unfold maxLen; omega) (by omega) (Gr.size (And.left (by assumption))) ?_; intro v24 w24 hown24 hgr24; have G24 : Gr wA w24 := Below.grown (And.left (by assumption)) hgr24 (Gr.size (And.left (by assumption))) (fun z hz => (row_block HOb.out hz).1); have HB24 := hidE ((hgr24.block (wA.heap.size + 1) (by simp) (by simp [Value.ownBlock])).trans HBb.out); obtain ⟨a24, c24, e24⟩ := row_form hown24; subst e24)
          | (refine step_append_own rfl (.tmp 20) (.tmp 23) 94 rfl wA.heap.size 84 i0 _ 6 56 Tryz.underlying94 hi hz0 hz1 hz2 rfl (by decide) _ _ _ (by simp [Act.eval]) HOc.out ⟨g, o, none⟩ k cap ((ss.take k).flatMap encS) (by simp [Act.eval]) (encS_take ss k hk) (slots_take k (HSX.out _ (And.left (by assumption)))) (fun u hu => encS_one hu) (by unfold maxLen; omega) (by omega) (Gr.size (And.left (by assumption))) ?_; intro v24 w24 hown24 hgr24; have G24 : Gr wA w24 := Below.grown (And.left (by assumption)) hgr24 (Gr.size (And.left (by assumption))) (fun z hz => (row_block HOc.out hz).1); have HB24 := hidE ((hgr24.block wA.heap.size (by simp; omega) (by simp [Value.ownBlock])).trans HBc.out); obtain ⟨a24, c24, e24⟩ := row_form hown24; subst e24)
          | (refine step_append_own rfl (.tmp 27) (.tmp 30) 94 rfl wA.heap.size 84 i0 _ 6 56 Tryz.underlying94 hi hz0 hz1 hz2 rfl (by decide) _ _ _ (by simp [Act.eval]) hown27 _ (ss.length - k) (cap - k) ((ss.drop k).flatMap encS) (by simp [Act.eval]) (encS_drop ss k) (HNW.out _ (And.left (by assumption))) (fun u hu => encS_one hu) (by unfold maxLen; omega) (by omega) (Gr.size (And.left (by assumption))) ?_; intro v31 w31 hown31 hgr31; have G31 : Gr wA w31 := Below.grown (And.left (by assumption)) hgr31 (Gr.size (And.left (by assumption))) (fun z hz => (row_block hown27 hz).1); rw [show 0 + k + 1 + (ss.length - k) = ss.length + 1 by omega] at hown31; obtain ⟨a31, c31, e31⟩ := row_form hown31; subst e31)
          | (refine step_append_own rfl (.tmp 24) (.tmp 26) 94 rfl wA.heap.size 84 i0 _ 6 56 Tryz.underlying94 hi hz0 hz1 hz2 rfl (by decide) _ _ _ (by simp [Act.eval]) hown24 ⟨wA.heap.size + 1, 0, none⟩ 1 1 [.int .i64 s.i, .int .i64 s.o, .int .i64 s.l, .int .i64 s.h, .string s.s, .int .i64 s.p] (by simp [Act.eval]) rfl (blk_cells (vs := [.int .i64 s.i, .int .i64 s.o, .int .i64 s.l, .int .i64 s.h, .string s.s, .int .i64 s.p]) HB24.out) (by simp [Value.oneCell']) (by unfold maxLen; omega) (by omega) (Gr.size (And.left (by assumption))) ?_; intro v27 w27 hown27 hgr27; have G27 : Gr wA w27 := Below.grown (And.left (by assumption)) hgr27 (Gr.size (And.left (by assumption))) (fun z hz => (row_block hown24 hz).1); obtain ⟨a27, c27, e27⟩ := row_form hown27; subst e27)
          | (refine step_append_own rfl (.tmp 24) (.tmp 26) 94 rfl wA.heap.size 84 i0 _ 6 56 Tryz.underlying94 hi hz0 hz1 hz2 rfl (by decide) _ _ _ (by simp [Act.eval]) hown24 ⟨wA.heap.size, 0, none⟩ 1 1 [.int .i64 s.i, .int .i64 s.o, .int .i64 s.l, .int .i64 s.h, .string s.s, .int .i64 s.p] (by simp [Act.eval]) rfl (blk_cells (vs := [.int .i64 s.i, .int .i64 s.o, .int .i64 s.l, .int .i64 s.h, .string s.s, .int .i64 s.p]) HB24.out) (by simp [Value.oneCell']) (by unfold maxLen; omega) (by omega) (Gr.size (And.left (by assumption))) ?_; intro v27 w27 hown27 hgr27; have G27 : Gr wA w27 := Below.grown (And.left (by assumption)) hgr27 (Gr.size (And.left (by assumption))) (fun z hz => (row_block hown24 hz).1); obtain ⟨a27, c27, e27⟩ := row_form hown27; subst e27)
          | (refine step_append_own rfl (.tmp 24) (.tmp 26) 94 rfl wA.heap.size 84 i0 _ 6 56 Tryz.underlying94 hi hz0 hz1 hz2 rfl (by decide) _ _ _ (by simp [Act.eval]) (hown24.alloc _) ⟨w24.heap.size, 0, none⟩ 1 1 [.int .i64 s.i, .int .i64 s.o, .int .i64 s.l, .int .i64 s.h, .string s.s, .int .i64 s.p] (by simp [Act.eval]) rfl (news_cells w24 _ rfl [.int .i64 s.i, .int .i64 s.o, .int .i64 s.l, .int .i64 s.h, .string s.s, .int .i64 s.p] _) (by simp [Value.oneCell']) (by unfold maxLen; omega) (by omega) (Gr.size (And.left (by assumption))) ?_; intro v27 w27 hown27 hgr27; have G27 : Gr wA w27 := Below.grown (And.left (by assumption)) hgr27 (Gr.size (And.left (by assumption))) (fun z hz => (row_block hown24 hz).1); obtain ⟨a27, c27, e27⟩ := row_form hown27; subst e27))
      all_goals
        have HF : Hid (w31.ownsRow w.heap.size 84 6 (.slice a31 (ss.length + 1) c31) (ss.length + 1) ((ss.take k ++ s :: ss.drop k).flatMap encS)) := by
          show World.ownsRow _ _ _ _ _ _ _
          have h9 := own_lo hown31 hN
          simpa [encS, List.flatMap_append] using h9
        have HG9 := hidE (HG0.out.trans G31)
        clear hown31
        go_wp2
        go_ret
        exact ⟨⟨_, k, rfl, HAH.out, HF.out⟩, HG9.out⟩
    · obtain ⟨hkl, hT2⟩ := slAt_true hB HT.out
      have HT2 := hidE hT2
      clear hT2 HT
      go_wp2
      go_roundw
      case rel => exact ⟨k + 1, by omega, by go_num, HGR.out.trans g3, HT2⟩
      case measure => simp [intOf]; omega
end Go.Proofs.YtpdcgjkfilohcabGreat
