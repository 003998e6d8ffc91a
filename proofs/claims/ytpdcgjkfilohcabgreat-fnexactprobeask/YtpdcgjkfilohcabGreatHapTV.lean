import Derived.Test.YtpdcgjkfilohcabGreatHapPS
import Derived.Test.YtpdcgjkfilohcabGreatLawSky
namespace Go.Proofs.YtpdcgjkfilohcabGreat
open Go.RowKit
attribute [local go_sem ↓] Go.wp_at_zero Go.wp_at_succ

theorem mark_form (k : Int) (us : List Tb) (j : Nat) (hj : j < us.length) : markL k (us.take j) ++ us.drop j = markL k (us.take j) ++ us.getD j Tb.nil :: us.drop (j + 1) := by
  rw [List.drop_eq_getElem_cons hj, List.getD_eq_getElem?_getD, List.getElem?_eq_getElem hj]
  rfl
theorem mark_step (k : Int) (us : List Tb) (j : Nat) (hj : j < us.length) : markL k (us.take (j + 1)) ++ us.drop (j + 1) = markL k (us.take j) ++ markT (endK k (us.take j)) (us.getD j Tb.nil) :: us.drop (j + 1) := by
  rw [take_one hj, markL_snoc, List.append_assoc]
  rfl
theorem end_step (k : Int) (us : List Tb) (j : Nat) (hj : j < us.length) : endK k (us.take (j + 1)) = endK k (us.take j) + 1 + 6 * ((us.getD j Tb.nil).bs.length : Int) := by
  rw [take_one hj, endK_snoc]
  rfl

theorem ownT_len {lo n m cap : Nat} {w : World} {a : Option Addr} {us : List Tb} (h : OwnT lo w (.slice a n cap) us) (e : n = m) : OwnT lo w (.slice a m cap) us := by subst e; exact h

set_option maxRecDepth 100000 in
set_option maxHeartbeats 2000000 in
theorem markTubeS_some (lo hi g cap : Nat) (us : List Tb) (k : Int) (w : World) (hO : OwnT lo w (.slice (some ⟨g, 0, none⟩) us.length cap) us) (hH : BelowHi hi (.slice (some ⟨g, 0, none⟩) us.length cap) us) (hn : us.length ≤ 1048576) (hb : ∀ t ∈ us, t.bs.length ≤ 1048576) (h0 : 1 ≤ k) (h1 : k ≤ 100000000) :
    Calls Tryz.prog 14 #[.slice (some ⟨g, 0, none⟩) us.length cap, .int .i64 k] w fun e w' => e = .returned (.int .i64 (endK k us)) ∧ OwnT lo w' (.slice (some ⟨g, 0, none⟩) us.length cap) (markL k us) ∧ RM lo hi w w' := by
  go_enter Tryz.func14, Tryz.ntmps14
  go_wp2
  go_loopw [1, 5] (fun x i wr => ∃ j : Nat, j ≤ us.length ∧ i = .int .i64 j ∧ x = .int .i64 (endK k (us.take j)) ∧ Hid (OwnT lo wr (.slice (some ⟨g, 0, none⟩) us.length cap) (markL k (us.take j) ++ us.drop j)) ∧ Hid (RM lo hi w wr)) (fun _ i _ => us.length - (intOf i).toNat)
  case atStart => exact ⟨0, Nat.zero_le _, rfl, by simp [endK], by show OwnT _ _ _ _; simpa [markL] using hO, rm_gr (Gr.refl _)⟩
  case round =>
    obtain ⟨j, hj, rfl, rfl, HO, HM⟩ := hrel
    by_cases hjl : j < us.length
    · have hlA : (markL k (us.take j)).length = j := by rw [markL_len, List.length_take]; omega
      have hO1 := HO.out
      rw [mark_form k us j hjl] at hO1
      have hll : (markL k (us.take j) ++ us.getD j Tb.nil :: us.drop (j + 1)).length = us.length := by simp [hlA]; omega
      rw [← hll] at hO1
      have HO1 : Hid _ := hO1
      have hin := hO1.2.1 (us.getD j Tb.nil) (by simp)
      have hbt := hb _ (getD_mem hjl)
      have hht := hH.2 _ (getD_mem hjl)
      have hgh := hH.1 g rfl
      obtain ⟨a0, c0, hv0, hr0, hc0⟩ := owns_tubes rfl hO1.1
      cases hv0
      obtain ⟨-, -, hlg, hgl, hroom⟩ := hr0 g 0 none rfl
      obtain ⟨⟨⟨z0, r0⟩, f0⟩, ⟨⟨z1, r1⟩, f1⟩⟩ := hroom j (by omega)
      obtain ⟨g', e', -, hx⟩ := hc0 j (by omega)
      cases e'
      have hgd : (markL k (us.take j) ++ us.getD j Tb.nil :: us.drop (j + 1)).getD j Tb.nil = us.getD j Tb.nil := by
        rw [List.getD_eq_getElem?_getD, List.getElem?_append_right (by omega), hlA, Nat.sub_self]
        rfl
      rw [hgd] at hx
      have hKb := endK_le k (us.take j) (fun t ht => hb t (List.mem_of_mem_take ht))
      have hKl : (us.take j).length ≤ 1048576 := by rw [List.length_take]; omega
      have HNX : Hid (markL k (us.take (j + 1)) ++ us.drop (j + 1) = markL k (us.take j) ++ markT (endK k (us.take j)) (us.getD j Tb.nil) :: us.drop (j + 1)) := mark_step k us j hjl
      have HNE : Hid (endK k (us.take (j + 1)) = endK k (us.take j) + 1 + 6 * ((us.getD j Tb.nil).bs.length : Int)) := end_step k us j hjl
      generalize hK : endK k (us.take j) = K at *
      have hK0 : 0 < K := by omega
      have hK1 : K ≤ 10000000000000 - 1 := by omega
      clear hKb hK hr0 hc0 hroom hgd HO
      generalize us.getD j Tb.nil = t at *
      generalize markL k (us.take j) = A at *
      obtain ⟨s, ta, tc, bs⟩ := t
      obtain ⟨x0, x1⟩ := hx
      simp only at x0 x1 hbt HNE
      have hi0 : (0 : Int) ≤ (j : Int) := by omega
      have hi1 : (j : Int) < (us.length : Int) := by omega
      go_wp2_with fail
      refine (markText_any K wr hK0 (by omega)).mono ?_
      rintro e w2 ⟨rfl, g2⟩
      have hO2 := ownT_gr HO1.out g2
      have hI2 := inT_gr hin g2
      have hg2l : g < w2.heap.size := Nat.lt_of_lt_of_le hgl g2.size
      have y0 : w2.cell? ⟨g, j * 2, none⟩ = some (.string s) := (g2.cells.1 _ _ hgl).trans x0
      have y1 : w2.cell? ⟨g, j * 2 + 1, none⟩ = some (.slice ta bs.length tc) := (g2.cells.1 _ _ hgl).trans x1
      have yf : w2.frozen? ⟨g, j * 2, none⟩ = false := (g2.cells.2 _ _ hgl).trans f0
      have hgs : ∀ q, (⟨s, ta, tc, bs⟩ : Tb).blk = some q → g ≠ q := fun q e e' => hO2.2.2.2 ⟨s, ta, tc, bs⟩ (by simp) q e (by rw [← e']; rfl)
      have hI3 : InT lo (w2.setCell ⟨g, j * 2, none⟩ (.string (mtx K))) ⟨s, ta, tc, bs⟩ := inT_grown hI2 (grown_self _) (fun q e e' => hgs q e (by simpa using e'))
      clear x0 x1 z0 r0 z1 r1 f0 f1 hin hI2
      by_cases hbz : bs.length = 0
      · have e : bs = [] := List.length_eq_zero_iff.1 hbz
        subst e
        have hI4 : InT lo (w2.setCell ⟨g, j * 2, none⟩ (.string (mtx K))) (markT K ⟨s, ta, tc, []⟩) := ⟨fun q o sp e => by obtain ⟨q0, q1, q2, q3, q4⟩ := hI3.1 q o sp e; exact ⟨q0, q1, q2, q3, fun m hm => by simp [markT, markBs] at hm⟩, fun m hm => by simp [markT, markBs] at hm⟩
        have hg0 : (w2.setCell ⟨g, j * 2, none⟩ (.string (mtx K))).grownBy (w2.setCell ⟨g, j * 2, none⟩ (.string (mtx K))) (⟨s, ta, tc, []⟩ : Tb).blk := ⟨rfl, rfl, rfl, Nat.le_refl _, fun _ _ _ => rfl⟩
        obtain ⟨hO4, hg4⟩ := ownT_turn (t' := markT K ⟨s, ta, tc, []⟩) hO2 hlA rfl rfl hg0 rfl hI4
        have HO4 : Hid _ := hO4
        have HM4 : Hid (RM lo hi w (w2.setCell ⟨g, j * 2, none⟩ (.string (mtx K)))) := HM.out.trans ((rm_gr g2).trans (rm_grown hg4 hlg hgh))
        clear hO2 hO4 hI3 hI4 hg0 hg4 HM HO1
        go_wp2_with (go_at_call 40; refine (markBoxS_zero _ _ _ _).mono ?_; rintro e w4 ⟨rfl, rfl⟩)
        go_roundw
        case rel => exact ⟨j + 1, by omega, by go_num, congrArg (Value.int .i64) (by rw [HNE.out]; simp), by rw [HNX.out]; show OwnT _ _ _ _; exact ownT_len HO4.out (by rw [← hll]; simp [markT]), HM4⟩
        case measure => simp [intOf]; omega
      · obtain ⟨q, rfl⟩ : ∃ q, ta = some ⟨q, 0, none⟩ := by
          obtain ⟨q, o, e, -⟩ := hI3.2 0 (by show 0 < bs.length; omega)
          obtain ⟨rfl, -⟩ := hI3.1 q o none e
          exact ⟨q, e⟩
        obtain ⟨-, -, hlq, hql, hrq⟩ := hI3.1 q 0 none rfl
        have hgq : g ≠ q := hgs q rfl
        have hqh : q < hi := hht q rfl
        have HB := markBoxS_own q bs.length tc (K + 1) (w2.setCell ⟨g, j * 2, none⟩ (.string (mtx K))) hrq hql hbt (by omega) (by omega)
        have HO2 : Hid _ := hO2
        clear hO2 hI3 HO1
        go_wp2_with fail
        refine HB.mono ?_
        rintro e w4 ⟨rfl, hg4, hr4, hs4⟩
        have hql4 : q < w4.heap.size := Nat.lt_of_lt_of_le hql hg4.size
        have hI4 : InT lo w4 (markT K ⟨s, some ⟨q, 0, none⟩, tc, bs⟩) := by
          refine ⟨fun q' o sp e => ?_, fun m hm => ?_⟩
          · simp only [markT, Option.some.injEq, Addr.mk.injEq] at e
            obtain ⟨rfl, rfl, rfl⟩ := e
            exact ⟨rfl, rfl, hlq, hql4, fun m hm => hr4 m (by simpa [markT, markBs_len] using hm)⟩
          · have hm' : m < bs.length := by simpa [markT, markBs_len] using hm
            refine ⟨q, 0, rfl, hql4, ?_⟩
            show Six w4 q (0 + m * 6) ((markBs (K + 1) bs.length).getD m Bx.nil)
            rw [markBs_get _ _ _ hm', Nat.zero_add]
            exact hs4 m hm'
        obtain ⟨hO5, hg5⟩ := ownT_turn (t' := markT K ⟨s, some ⟨q, 0, none⟩, tc, bs⟩) HO2.out hlA rfl rfl hg4 (by simp [markT, markBs_len]) hI4
        have HO5 : Hid _ := hO5
        have HM4 : Hid (RM lo hi w w4) := HM.out.trans ((rm_gr g2).trans ((rm_grown hg5 hlg hgh).trans (rm_grown hg4 hlq hqh)))
        clear hO5 hI4 hg4 hg5 HM hr4 hs4 HO2
        go_wp2
        go_roundw
        case rel => exact ⟨j + 1, by omega, by go_num, congrArg (Value.int .i64) (by rw [HNE.out]), by rw [HNX.out]; show OwnT _ _ _ _; exact ownT_len HO5.out (by rw [← hll]; simp [markT]), HM4⟩
        case measure => simp [intOf]; omega
    · have e : j = us.length := by omega
      subst e
      go_wp2
      go_ret
      refine ⟨by rw [List.take_length]; rfl, ?_, HM.out⟩
      have h9 := HO.out
      rw [List.take_length, List.drop_length, List.append_nil] at h9
      exact h9
end Go.Proofs.YtpdcgjkfilohcabGreat

namespace Go.Proofs.YtpdcgjkfilohcabGreat
open Go.RowKit
attribute [local go_sem ↓] Go.wp_at_zero Go.wp_at_succ

/-- A tube whose boxes lie apart from what is written. -/
theorem inT_rm {l lo hi : Nat} {w w' : World} {t : Tb} (h : InT l w t) (hm : RM lo hi w w') (ho : ∀ q, t.blk = some q → q < lo ∨ hi ≤ q) : InT l w' t := by
  have hb : ∀ q o sp, t.a = some ⟨q, o, sp⟩ → w'.heap[q]? = w.heap[q]? ∧ q < w'.heap.size := fun q o sp e => by
    obtain ⟨-, -, -, h3, -⟩ := h.1 q o sp e
    exact ⟨hm.2.2.2.2 q h3 (ho q (by simp [Tb.blk, e])), Nat.lt_of_lt_of_le h3 hm.2.2.2.1⟩
  have hc : ∀ q o sp, t.a = some ⟨q, o, sp⟩ → ∀ x, w'.cell? ⟨q, x, none⟩ = w.cell? ⟨q, x, none⟩ := fun q o sp e x => World.cell?_of_block (w := w) (hb q o sp e).1
  have hf : ∀ q o sp, t.a = some ⟨q, o, sp⟩ → ∀ x, w'.frozen? ⟨q, x, none⟩ = w.frozen? ⟨q, x, none⟩ := fun q o sp e x => World.frozen?_of_block (w := w) (hb q o sp e).1
  refine ⟨fun q o sp e => ?_, fun k hk => ?_⟩
  · obtain ⟨h0, h1, h2, h3, h4⟩ := h.1 q o sp e
    refine ⟨h0, h1, h2, (hb q o sp e).2, fun j hj => ?_⟩
    have hr := h4 j hj
    unfold Room at *
    simp only [hc q o sp e, hf q o sp e]
    exact hr
  · obtain ⟨g, o, e, hg', hx⟩ := h.2 k hk
    refine ⟨g, o, e, (hb g o none e).2, ?_⟩
    unfold Six at *
    simp only [hc g o none e]
    exact hx
theorem ownT_rm {l lo hi : Nat} {w w' : World} {v : Value} {us : List Tb} (h : OwnT l w v us) (hm : RM lo hi w w') (hl : hi ≤ l) : OwnT l w' v us := by
  refine ⟨⟨h.1.1, h.1.2.imp id (fun ⟨g, cap, cur, e, hb, hg, r⟩ => ⟨g, cap, cur, e, hb, ?_, r⟩)⟩, fun t ht => inT_rm (h.2.1 t ht) hm (fun q e => Or.inr (Nat.le_trans hl (blk_lt (h.2.1 t ht) e).1)), h.2.2⟩
  rw [hm.2.2.2.2 g (Array.getElem?_eq_some_iff.1 hg).1 (Or.inr (Nat.le_trans hl hb))]
  exact hg
theorem gr_rm {lo hi : Nat} {w w1 w2 : World} (g : Gr w w1) (hm : RM lo hi w1 w2) (hl : w.heap.size ≤ lo) : Gr w w2 :=
  ⟨hm.1.trans (Below.os g), hm.2.1.trans (Below.tape g), hm.2.2.1.trans (Below.output g), Nat.le_trans (Below.size g) hm.2.2.2.1, fun k hk => (hm.2.2.2.2 k (Nat.lt_of_lt_of_le hk (Below.size g)) (Or.inl (Nat.lt_of_lt_of_le hk hl))).trans (Below.block g k hk)⟩
theorem own_hi {l : Nat} {w : World} {v : Value} {us : List Tb} (h : OwnT l w v us) : BelowHi w.heap.size v us := ⟨ownT_lt h.1, fun t ht _ e => (blk_lt (h.2.1 t ht) e).2⟩
theorem belowHi_le {a b : Nat} {v : Value} {us : List Tb} (h : BelowHi a v us) (hl : a ≤ b) : BelowHi b v us := ⟨fun q e => Nat.lt_of_lt_of_le (h.1 q e) hl, fun t ht q e => Nat.lt_of_lt_of_le (h.2 t ht q e) hl⟩

theorem markL_get : ∀ (k : Int) (us : List Tb) (j : Nat), j < us.length → (markL k us).getD j Tb.nil = markT (endK k (us.take j)) (us.getD j Tb.nil)
  | _, [], j, h => by simp at h
  | k, t :: ts, 0, _ => by simp [markL, endK]
  | k, t :: ts, j + 1, h => by
    have := markL_get (nextK k t) ts j (by simpa using h)
    simpa [markL, endK] using this
theorem small_mem {us : List Tb} (h : Small us) : us.length ≤ 1048576 ∧ ∀ t ∈ us, t.bs.length ≤ 1048576 := by
  refine ⟨h.1, fun t ht => ?_⟩
  obtain ⟨k, hk, rfl⟩ := List.getElem_of_mem ht
  have := (h.2 k hk).2
  rw [List.getD_eq_getElem?_getD, List.getElem?_eq_getElem hk] at this
  exact this

set_option maxHeartbeats 400000 in
theorem markTubeS_zero (a : Option Addr) (cap : Nat) (k : Int) (w : World) : Calls Tryz.prog 14 #[.slice a 0 cap, .int .i64 k] w fun e w' => e = .returned (.int .i64 k) ∧ w' = w := by
  go_enter Tryz.func14, Tryz.ntmps14
  go_wp2
  go_loop [1, 5] (fun x i => x = .int .i64 k ∧ i = .int .i64 0) (fun _ _ => 0)
  case atStart => exact ⟨rfl, rfl⟩
  case round =>
    obtain ⟨rfl, rfl⟩ := hrel
    go_wp2
    go_ret
    exact ⟨rfl, rfl⟩
theorem markTubeS_gen (lo hi : Nat) (v : Value) (us : List Tb) (k : Int) (w : World) (hO : OwnT lo w v us) (hH : BelowHi hi v us) (hS : Small us) (h0 : 1 ≤ k) (h1 : k ≤ 100000000) :
    Calls Tryz.prog 14 #[v, .int .i64 k] w fun e w' => e = .returned (.int .i64 (endK k us)) ∧ OwnT lo w' v (markL k us) ∧ RM lo hi w w' := by
  obtain ⟨hn, hb⟩ := small_mem hS
  rcases id hO.1.2 with ⟨rfl, hz⟩ | ⟨g, cap, cur, rfl, -⟩
  · obtain rfl : us = [] := List.length_eq_zero_iff.1 hz
    refine (markTubeS_zero none 0 k w).mono ?_
    rintro e w' ⟨rfl, rfl⟩
    exact ⟨rfl, hO, rm_gr (Gr.refl _)⟩
  · exact markTubeS_some lo hi g cap us k w hO hH hn hb h0 h1
theorem markTubeS_any (lo hi : Nat) (v : Value) (us : List Tb) (w : World) (hO : OwnT lo w v us) (hH : BelowHi hi v us) (hS : Small us) :
    Calls Tryz.prog 14 #[v, .int .i64 1] w fun e w' => e = .returned (.int .i64 (endK 1 us)) ∧ OwnT lo w' v (markL 1 us) ∧ RM lo hi w w' := by
  obtain ⟨hn, hb⟩ := small_mem hS
  rcases id hO.1.2 with ⟨rfl, h0⟩ | ⟨g, cap, cur, rfl, -⟩
  · obtain rfl : us = [] := List.length_eq_zero_iff.1 h0
    refine (markTubeS_zero none 0 1 w).mono ?_
    rintro e w' ⟨rfl, rfl⟩
    exact ⟨rfl, hO, rm_gr (Gr.refl _)⟩
  · exact markTubeS_some lo hi g cap us 1 w hO hH hn hb (by omega) (by omega)

end Go.Proofs.YtpdcgjkfilohcabGreat

namespace Go.Proofs.YtpdcgjkfilohcabGreat
open Go.RowKit
attribute [local go_sem ↓] Go.wp_at_zero Go.wp_at_succ

set_option maxHeartbeats 1000000 in
theorem szTubeS_gen (a : Option Addr) (cap : Nat) (ts : List Tb) (left : Int) (w : World) (ha : Tubes w a ts) (hF : Fits ts) (hl0 : 0 ≤ left) (hl1 : left ≤ 1048576) :
    Calls Tryz.prog 8 #[.slice a ts.length cap, .int .i64 left] w fun e w' => (∃ v : Int, e = .returned (.int .i64 v) ∧ (¬ v < 0 → Small ts ∧ v ≤ 1048576)) ∧ Gr w w' := by
  have hl : ts.length ≤ 2 ^ 63 - 1 := hF.1
  by_cases h : left - (ts.length : Int) < 0
  · go_enter Tryz.func8, Tryz.ntmps8
    go_wp2
    go_ret
    exact ⟨⟨-1, rfl, fun h => by exfalso; omega⟩, Gr.refl _⟩
  have hn : ts.length ≤ 1048576 := by omega
  go_enter Tryz.func8, Tryz.ntmps8
  go_wp2
  go_loopw [1, 5] (fun q i wr => ∃ (k : Nat) (v : Int), k ≤ ts.length ∧ i = .int .i64 k ∧ q = .int .i64 v ∧ 0 ≤ v ∧ v ≤ 1048576 ∧ Gr w wr ∧ Hid (∀ j, j < k → (ts.getD j Tb.nil).s.size ≤ maxLen ∧ (ts.getD j Tb.nil).bs.length ≤ 1048576)) (fun _ i _ => ts.length - (intOf i).toNat)
  case atStart => exact ⟨0, _, Nat.zero_le _, rfl, rfl, by omega, by omega, Gr.refl _, fun j hj => by omega⟩
  case round =>
    obtain ⟨k, v, hk, rfl, rfl, hv0, hv1, gr, hq⟩ := hrel
    by_cases hkl : k < ts.length
    · obtain ⟨g, o, rfl, hg, hx, hb⟩ := ha k hkl
      obtain ⟨hs, hbn⟩ := hF.2 k hkl
      have HN : Hid (¬ szT v (ts.getD k Tb.nil).s.size (ts.getD k Tb.nil).bs.length < 0 → ∀ j, j < k + 1 → (ts.getD j Tb.nil).s.size ≤ maxLen ∧ (ts.getD j Tb.nil).bs.length ≤ 1048576) := fun h j hj => by
        by_cases e : j = k
        · subst e; exact ⟨hs, (szT_le hv1 h).2.1⟩
        · exact hq.out j (by omega)
      generalize ts.getD k Tb.nil = t at *
      obtain ⟨c0, c1⟩ := two_gr hx gr hg
      clear hx hq
      by_cases hz : szT v t.s.size t.bs.length < 0
      · clear HN
        go_wp2_with (go_at_call 17; refine (szTube_any _ _ _ _ _ _ hs (by omega) (by omega) hbn).mono ?_; rintro e w1 ⟨rfl, g1⟩)
        go_ret
        exact ⟨⟨-1, rfl, fun h => by exfalso; omega⟩, gr.trans g1⟩
      · have HR : Hid (∀ j, j < k + 1 → (ts.getD j Tb.nil).s.size ≤ maxLen ∧ (ts.getD j Tb.nil).bs.length ≤ 1048576) := HN.out hz
        obtain ⟨-, -, z0, z1⟩ := szT_le hv1 hz
        clear HN
        go_wp2_with (go_at_call 17; refine (szTube_any _ _ _ _ _ _ hs (by omega) (by omega) hbn).mono ?_; rintro e w1 ⟨rfl, g1⟩)
        go_roundw
        case rel => exact ⟨k + 1, _, by omega, by go_num, rfl, z0, z1, gr.trans g1, HR⟩
        case measure => simp [intOf]; omega
    · go_wp2
      go_ret
      exact ⟨⟨v, rfl, fun _ => ⟨⟨hn, fun j hj => hq.out j (by omega)⟩, hv1⟩⟩, gr⟩


theorem szTubeS_le (a : Option Addr) (cap : Nat) (ts : List Tb) (w : World) (ha : Tubes w a ts) (hF : Fits ts) :
    Calls Tryz.prog 8 #[.slice a ts.length cap, .int .i64 1048576] w fun e w' => (∃ v : Int, e = .returned (.int .i64 v) ∧ (¬ v < 0 → Small ts ∧ v ≤ 1048576)) ∧ Gr w w' := szTubeS_gen a cap ts 1048576 w ha hF (by omega) (by omega)

set_option maxHeartbeats 400000 in
theorem markTube_own (s : ByteArray) (q n cap : Nat) (k : Int) (w : World) (hr : ∀ j, j < n → Room w q (j * 6)) (hq : q < w.heap.size) (hn : n ≤ 1048576) (h0 : 0 ≤ k) (h1 : k ≤ 10000000000000) :
    Calls Tryz.prog 22 #[.agg #[.string s, .slice (some ⟨q, 0, none⟩) n cap], .int .i64 k] w fun e w' => e = .returned (.int .i64 (k + 6 * n)) ∧ RM q (q + 1) w w' := by
  have HB := markBoxS_own q n cap k (w.alloc (.cells #[.string s, .slice (some ⟨q, 0, none⟩) n cap] 40)) (fun j hj => room_gr (hr j hj) ((Gr.refl _).alloc _) hq) (by simp; omega) hn h0 h1
  go_enter Tryz.func22, Tryz.ntmps22
  go_wp2_with (go_at_call 40; refine HB.mono ?_; rintro e w1 ⟨rfl, hg, -, -⟩)
  go_ret
  exact ⟨rfl, (rm_gr ((Gr.refl _).alloc _)).trans (rm_grown hg (Nat.le_refl _) (Nat.lt_succ_self _))⟩
/-- What a list of tubes says of an event hangs on names and boxes alone. -/
theorem like_sym {us ts : List Tb} (h : Like us ts) : Like ts us := ⟨h.1.symm, fun k hk => by have := h.2 k (by rw [← h.1]; exact hk); exact ⟨this.1.symm, this.2.symm⟩⟩
theorem like_trans {us vs ts : List Tb} (h : Like us vs) (h' : Like vs ts) : Like us ts := like_two h (like_sym h')
theorem less_like {us ts : List Tb} (h : Like us ts) (s : ByteArray) {k : Nat} (hk : k < ts.length) : lessN us s k = lessN ts s k := by
  unfold lessN
  rw [(h.2 k hk).1]
theorem place_like {us ts : List Tb} (h : Like us ts) {s : ByteArray} {p : Nat} (hP : PlaceIs ts s p) : PlaceIs us s p := by
  refine ⟨by rw [h.1]; exact hP.1, fun k hk => ?_, fun k hk hkl => ?_⟩
  · rw [less_like h s (Nat.lt_of_lt_of_le hk hP.1)]; exact hP.2.1 k hk
  · rw [less_like h s (by rw [← h.1]; exact hkl)]; exact hP.2.2 k hk (by rw [← h.1]; exact hkl)
theorem there_like {us ts : List Tb} (h : Like us ts) (s : ByteArray) (p : Nat) : there us s p = there ts s p := by
  unfold there
  rw [h.1]
  by_cases hp : p < ts.length
  · unfold hasN
    rw [(h.2 p hp).1]
  · simp [hp]
theorem happen_like {us ts : List Tb} {t t' : Tb} {d : Bool} {p : Nat} (h : Like us ts) (hs : t.s = t'.s) (hb : t.bs = t'.bs) (hP : skyB ts = true → PlaceIs ts t'.s p) :
    Like (happenR us d t p).1 (happenR ts d t' p).1 ∧ (happenR us d t p).2 = (happenR ts d t' p).2 := by
  unfold happenR
  rw [sky_like h, hs, hb, there_like h, h.1]
  by_cases h1 : skyB ts = false
  · rw [if_pos h1, if_pos h1]
    exact ⟨like_refl _, rfl⟩
  rw [if_neg h1, if_neg h1]
  by_cases h2 : d = false ∧ tubeB t'.s t'.bs = false
  · rw [if_pos h2, if_pos h2]
    exact ⟨h, rfl⟩
  rw [if_neg h2, if_neg h2]
  by_cases h3 : d = true ∧ there ts t'.s p = false
  · rw [if_pos h3, if_pos h3]
    exact ⟨h, rfl⟩
  rw [if_neg h3, if_neg h3]
  by_cases h4 : d = false ∧ there ts t'.s p = false ∧ 24 ≤ ts.length
  · rw [if_pos h4, if_pos h4]
    exact ⟨h, rfl⟩
  rw [if_neg h4, if_neg h4]
  refine ⟨like_edit h ?_ ?_, rfl⟩
  · cases d
    · refine ⟨rfl, fun k hk => ?_⟩
      obtain rfl : k = 0 := by simp at hk; omega
      simp only [nm, bx]
      exact ⟨hs, hb⟩
    · exact like_refl _
  · have hp := (hP (by simpa using h1)).1
    cases ht : there ts t'.s p
    · simpa using hp
    · unfold there at ht
      simp at ht
      simp
      omega
theorem small_of {us : List Tb} (h1 : us.length ≤ 1048576) (h2 : ∀ t ∈ us, t.s.size ≤ maxLen ∧ t.bs.length ≤ 1048576) : Small us := ⟨h1, fun _ hk => h2 _ (getD_mem hk)⟩
theorem small_in {us : List Tb} (h : Small us) {t : Tb} (ht : t ∈ us) : t.s.size ≤ maxLen ∧ t.bs.length ≤ 1048576 := by
  obtain ⟨k, hk, rfl⟩ := List.getElem_of_mem ht
  have := h.2 k hk
  rw [List.getD_eq_getElem?_getD, List.getElem?_eq_getElem hk] at this
  exact this
theorem happen_small {ts : List Tb} {t : Tb} {d : Bool} {p : Nat} (h : Small ts) (hs : t.s.size ≤ maxLen) (hb : t.bs.length ≤ 1048576) : Small (happenR ts d t p).1 := by
  unfold happenR
  by_cases h1 : skyB ts = false
  · rw [if_pos h1]
    exact ⟨by simp, fun k hk => by simp at hk⟩
  rw [if_neg h1]
  by_cases h2 : d = false ∧ tubeB t.s t.bs = false
  · rw [if_pos h2]; exact h
  rw [if_neg h2]
  by_cases h3 : d = true ∧ there ts t.s p = false
  · rw [if_pos h3]; exact h
  rw [if_neg h3]
  by_cases h4 : d = false ∧ there ts t.s p = false ∧ 24 ≤ ts.length
  · rw [if_pos h4]; exact h
  rw [if_neg h4]
  have hn := (sky_tiny (by simpa using h1)).1
  refine small_of ?_ (fun u hu => ?_)
  · unfold edit
    simp only [List.length_append, List.length_take, List.length_drop]
    split <;> simp <;> omega
  · rcases edit_mem hu with hu | hu
    · exact small_in h hu
    · split at hu
      · cases hu
      · rw [List.mem_singleton] at hu
        subst hu
        exact ⟨hs, hb⟩
/-- What both answer to an event. -/
def HapQ (RL : List Tb) (RC : Int) (lo : Nat) (e : Ending) (w' : World) : Prop := ∃ a' c' vs, e = .returned (.tuple #[.slice a' vs.length c', .int .i64 RC]) ∧ OwnT lo w' (.slice a' vs.length c') vs ∧ Like vs RL
theorem happenR_one {ts : List Tb} {d : Bool} {t : Tb} {p : Nat} (h : (happenR ts d t p).2 = 1) : (happenR ts d t p).1 = [] := by
  unfold happenR at *
  by_cases h1 : skyB ts = false
  · rw [if_pos h1]
  rw [if_neg h1] at h ⊢
  by_cases h2 : d = false ∧ tubeB t.s t.bs = false
  · rw [if_pos h2] at h
    simp at h
  rw [if_neg h2] at h ⊢
  by_cases h3 : d = true ∧ there ts t.s p = false
  · rw [if_pos h3] at h
    simp at h
  rw [if_neg h3] at h ⊢
  by_cases h4 : d = false ∧ there ts t.s p = false ∧ 24 ≤ ts.length
  · rw [if_pos h4] at h
    simp at h
  rw [if_neg h4] at h
  simp at h
theorem own_tub {w : World} {a : Option Addr} {cap n lo : Nat} {us : List Tb} (h : OwnT lo w (.slice a n cap) us) : Tubes w a us := by
  obtain ⟨a', c', e, hT⟩ := ownT_tubes h
  simp only [Value.slice.injEq] at e
  obtain ⟨rfl, -, -⟩ := e
  exact hT
end Go.Proofs.YtpdcgjkfilohcabGreat
