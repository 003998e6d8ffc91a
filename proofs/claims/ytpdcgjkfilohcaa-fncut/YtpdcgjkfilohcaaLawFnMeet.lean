import Derived.Test.YtpdcgjkfilohcaaMeetM
namespace Go.Proofs.Ytpdcgjkfilohcaa
open Go.RowKit
attribute [local go_sem ↓] Go.wp_at_zero Go.wp_at_succ

theorem meetO_back (s t : ByteArray) (cs bs : List Bx) : (meetO s cs t bs).map (·.1) = (meetO t bs s cs).map (·.1) := by
  unfold meetO
  by_cases h : tubeB s cs = true ∧ tubeB t bs = true
  · rw [if_pos h, if_pos (And.symm h)]; exact meet_back cs bs
  · rw [if_neg h, if_neg (fun h' => h (And.symm h'))]

theorem nearAt_ok (s t : ByteArray) (a1 a2 : Option Addr) (c1 c2 : Nat) (cs bs : List Bx) (k : Int) (w : World) (ha : Boxes w a1 cs) (hb : Boxes w a2 bs) (hl : cs.length ≤ 1000) (hl' : bs.length ≤ 1000) (hA : tubeB s cs = true) (hB : tubeB t bs = true) :
    Calls Try.prog 17 #[.agg #[.string s, .slice a1 cs.length c1], .agg #[.string t, .slice a2 bs.length c2], .int .i64 k] w fun e w' => e = .returned (.bool ((List.range cs.length).any fun i => (List.range bs.length).any fun j => wnB (cs.getD i Bx.nil) (bs.getD j Bx.nil) k)) ∧ Gr w w' :=
  wNearAt_any s t a1 a2 c1 c2 cs bs k (fun i j => wnB (cs.getD i Bx.nil) (bs.getD j Bx.nil) k) w ha hb hl hl' (fun i hi j hj w' => wNear_any _ _ k w' ((tube_boxes hA).2 i hi) ((tube_boxes hB).2 j hj))
theorem all_false {cs bs : List Bx} {k : Int} (h : ∀ i j, i < cs.length ∧ j < bs.length → wnB (cs.getD i Bx.nil) (bs.getD j Bx.nil) k = false) : ((List.range cs.length).any fun i => (List.range bs.length).any fun j => wnB (cs.getD i Bx.nil) (bs.getD j Bx.nil) k) = false := by
  rw [List.any_eq_false]
  intro i hi
  rw [List.mem_range] at hi
  rw [Bool.not_eq_true, List.any_eq_false]
  intro j hj
  rw [List.mem_range] at hj
  rw [Bool.not_eq_true]
  exact h i j ⟨hi, hj⟩
theorem ever_false (s t : ByteArray) (a1 a2 : Option Addr) (c1 c2 : Nat) (cs bs : List Bx) (w : World) (ha : Boxes w a1 cs) (hb : Boxes w a2 bs) (hl : cs.length ≤ 1000) (hl' : bs.length ≤ 1000) (hA : tubeB s cs = true) (hB : tubeB t bs = true) (hM : meetAll cs bs cs.length = none) :
    Calls Try.prog 15 #[.agg #[.string s, .slice a1 cs.length c1], .agg #[.string t, .slice a2 bs.length c2]] w fun e w' => e = .returned (.bool false) ∧ Gr w w' := by
  have hb0 := best_all cs bs cs.length
  rw [hM] at hb0
  have hf : ∀ k : Int, ((List.range cs.length).any fun i => (List.range bs.length).any fun j => wnB (cs.getD i Bx.nil) (bs.getD j Bx.nil) k) = false := fun k => all_false (fun i j hij => by
    cases h : wnB (cs.getD i Bx.nil) (bs.getD j Bx.nil) k
    · rfl
    · have := (wn_close ((tube_boxes hA).2 i hij.1) ((tube_boxes hB).2 j hij.2) h).1
      rw [hb0 i j hij] at this
      cases this)
  have hN : ∀ (k : Int) (w' : World), Gr w w' → Calls Try.prog 17 #[.agg #[.string s, .slice a1 cs.length c1], .agg #[.string t, .slice a2 bs.length c2], .int .i64 k] w' fun e w'' => e = .returned (.bool false) ∧ Gr w' w'' := fun k w' g => by
    have := nearAt_ok s t a1 a2 c1 c2 cs bs k w' (boxes_gr ha g) (boxes_gr hb g) hl hl' hA hB
    rw [hf k] at this
    exact this
  have := wEver_any s t a1 a2 c1 c2 cs bs (fun _ => false) (fun _ => false) w ha hb hl hl' (fun i _ w' g => hN _ w' g) (fun i _ w' g => hN _ w' g)
  have hz : ∀ n : Nat, (List.range n).any (fun _ => false) = false := fun n => by rw [List.any_eq_false]; intro _ _; simp
  rw [hz, hz] at this
  exact this

set_option maxRecDepth 100000 in
set_option maxHeartbeats 4000000 in
theorem lawFnMeet_of (a : Option Addr) (n cap : Nat) (w : World) (hD0 : n ≤ 1048576 → Calls Try.prog 11 #[.slice a n cap] w fun e w' => (∃ (s t : ByteArray) (a1 a2 : Option Addr) (c1 c2 : Nat) (cs bs : List Bx), e = .returned (.tuple #[.agg #[.string s, .slice a1 cs.length c1], .agg #[.string t, .slice a2 bs.length c2]]) ∧ s.size ≤ maxLen ∧ t.size ≤ maxLen ∧ cs.length ≤ 1000 ∧ bs.length ≤ 1000 ∧ Boxes w' a1 cs ∧ Boxes w' a2 bs) ∧ Gr w w') :
    Calls Try.prog 3 #[.slice a n cap] w fun e w' => e = .returned (.bool true) ∧ Gr w w' := by
  by_cases hn : 1048576 < n
  · have hni : (1048576 : Int) < (n : Int) := by omega
    clear hD0
    go_enter Try.func3, Try.ntmps3
    go_wp2
    go_ret
    exact ⟨rfl, Gr.refl _⟩
  have hD := hD0 (by omega)
  clear hD0
  go_enter Try.func3, Try.ntmps3
  go_wp2_with fail
  refine hD.mono ?_
  rintro e w1 ⟨⟨s, t, a1, a2, c1, c2, cs, bs, rfl, hs, ht, hl, hl', ha, hb⟩, g0⟩
  clear hD
  have HB := meetO_back s t cs bs
  have HI : Hid (∀ w' : World, Gr w1 w' → Calls Try.prog 12 #[.agg #[.string s, .slice a1 cs.length c1], .agg #[.string t, .slice a2 bs.length c2]] w' fun e w'' => e = .returned (.tuple #[.agg (clashV s t (meetO s cs t bs)), .bool (meetO s cs t bs).isSome]) ∧ Gr w' w'') := fun w' g => implMeet_any s t a1 a2 c1 c2 cs bs w' hs ht (boxes_gr ha g) (boxes_gr hb g) (by omega) (by omega)
  have HS : Hid (∀ w' : World, Gr w1 w' → Calls Try.prog 13 #[.agg #[.string s, .slice a1 cs.length c1], .agg #[.string t, .slice a2 bs.length c2]] w' fun e w'' => e = .returned (.tuple #[.agg (clashV s t (meetO s cs t bs)), .bool (meetO s cs t bs).isSome]) ∧ Gr w' w'') := fun w' g => specMeet_any s t a1 a2 c1 c2 cs bs w' hs ht (boxes_gr ha g) (boxes_gr hb g) (by omega) (by omega)
  have HJ : Hid (∀ w' : World, Gr w1 w' → Calls Try.prog 12 #[.agg #[.string t, .slice a2 bs.length c2], .agg #[.string s, .slice a1 cs.length c1]] w' fun e w'' => e = .returned (.tuple #[.agg (clashV t s (meetO t bs s cs)), .bool (meetO t bs s cs).isSome]) ∧ Gr w' w'') := fun w' g => implMeet_any t s a2 a1 c2 c1 bs cs w' ht hs (boxes_gr hb g) (boxes_gr ha g) (by omega) (by omega)
  have HOa : Hid (∀ w' : World, Gr w1 w' → Calls Try.prog 14 #[.agg #[.string s, .slice a1 cs.length c1]] w' fun e w'' => e = .returned (.bool (tubeB s cs)) ∧ Gr w' w'') := fun w' g => specTubeOk_any s a1 c1 cs w' hs (boxes_gr ha g) (by omega)
  have HOb : Hid (∀ w' : World, Gr w1 w' → Calls Try.prog 14 #[.agg #[.string t, .slice a2 bs.length c2]] w' fun e w'' => e = .returned (.bool (tubeB t bs)) ∧ Gr w' w'') := fun w' g => specTubeOk_any t a2 c2 bs w' ht (boxes_gr hb g) (by omega)
  rcases hM : meetO s cs t bs with _ | ⟨T, i, j⟩
  · have hM' : meetO t bs s cs = none := by
      rw [hM] at HB
      rcases h : meetO t bs s cs with _ | x
      · rfl
      · rw [h] at HB; cases HB
    rw [hM] at HI HS
    rw [hM'] at HJ
    dsimp only [clashV, Option.isSome] at HI HS HJ
    have HNO : Hid (tubeB s cs = true → tubeB t bs = true → meetAll cs bs cs.length = none) := fun h1 h2 => by rw [meetO, if_pos ⟨h1, h2⟩] at hM; exact hM
    clear HB hM hM'
    have G := Gr.refl ((w1.alloc (.cells #[.string s, .slice a1 cs.length c1] 25)).alloc (.cells #[.string t, .slice a2 bs.length c2] 25))
    have GW : Gr w1 ((w1.alloc (.cells #[.string s, .slice a1 cs.length c1] 25)).alloc (.cells #[.string t, .slice a2 bs.length c2] 25)) := ((Gr.refl _).alloc _).alloc _
    go_wp2_with fail
    refine (HI.out _ GW).mono ?_
    rintro e w2 ⟨rfl, g2⟩
    obtain ⟨-, q0, q1, q2, q3⟩ := two_pairs g2
    have l2 := g2.size
    simp only [World.size_alloc] at l2
    have m2 : w1.heap.size < w2.heap.size := by omega
    have m2' : w1.heap.size + 1 < w2.heap.size := by omega
    go_wp2_with fail
    refine (HS.out _ (GW.trans (g2.alloc _))).mono ?_
    rintro e w3 ⟨rfl, g3⟩
    have G3 := (g2.alloc _).trans g3
    clear q0 q1 q2 q3
    obtain ⟨-, q0, q1, q2, q3⟩ := two_pairs G3
    have C5 := five_new g3
    have l3 := G3.size
    simp only [World.size_alloc] at l3
    have m3 : w1.heap.size < w3.heap.size := by omega
    have m3' : w1.heap.size + 1 < w3.heap.size := by omega
    go_wp2_with fail
    refine (HJ.out _ (GW.trans (G3.alloc _))).mono ?_
    rintro e w4 ⟨rfl, g4⟩
    have G4 := (G3.alloc _).trans g4
    clear q0 q1 q2 q3
    obtain ⟨-, q0, q1, q2, q3⟩ := two_pairs G4
    have C7 := five_new g4
    have C5' := five_gr C5.1 (((Gr.refl w3).alloc _).trans g4) C5.2.2
    have l5 : w2.heap.size < w4.heap.size := Nat.lt_of_lt_of_le C5.2.2 (((Gr.refl w3).alloc _).trans g4).size
    have l7 := C7.2.2
    have l4 := G4.size
    simp only [World.size_alloc] at l4
    have m4 : w1.heap.size < w4.heap.size := by omega
    have m4' : w1.heap.size + 1 < w4.heap.size := by omega
    obtain ⟨x0, x1, x2, x3, x4⟩ := C5'
    obtain ⟨z0, z1, z2, z3, z4⟩ := C7.1
    clear C5 C7
    cases hA : tubeB s cs
    · go_wp2_with (go_at_call 14; (with_reducible refine Calls.mono (HOa.out _ (GW.trans (G4.alloc _))) ?_); rintro e w5 ⟨rfl, g5⟩)
      go_ret
      exact ⟨rfl, (g0.trans GW).trans ((G4.alloc _).trans g5)⟩
    · cases hB : tubeB t bs
      · go_wp2_with (first
          | (go_at_call_of 14 (Value.agg #[.string s, .slice a1 cs.length c1]); (with_reducible refine Calls.mono (HOa.out _ (GW.trans (G4.alloc _))) ?_); rintro e w5 ⟨rfl, g5⟩; rw [hA]; clear q0 q1 q2 q3; obtain ⟨-, q0, q1, q2, q3⟩ := two_pairs ((G4.alloc _).trans g5))
          | (go_at_call_of 14 (Value.agg #[.string t, .slice a2 bs.length c2]); (with_reducible refine Calls.mono (HOb.out _ (GW.trans ((G4.alloc _).trans g5))) ?_); rintro e w6 ⟨rfl, g6⟩; rw [hB]))
        go_ret
        exact ⟨rfl, (g0.trans GW).trans ((G4.alloc _).trans (g5.trans g6))⟩
      · have HEV : Hid (∀ w' : World, Gr w1 w' → Calls Try.prog 15 #[.agg #[.string s, .slice a1 cs.length c1], .agg #[.string t, .slice a2 bs.length c2]] w' fun e w'' => e = .returned (.bool false) ∧ Gr w' w'') := fun w' g => ever_false s t a1 a2 c1 c2 cs bs w' (boxes_gr ha g) (boxes_gr hb g) hl hl' hA hB (HNO.out hA hB)
        go_wp2_with (first
          | (go_at_call_of 14 (Value.agg #[.string s, .slice a1 cs.length c1]); (with_reducible refine Calls.mono (HOa.out _ (GW.trans (G4.alloc _))) ?_); rintro e w5 ⟨rfl, g5⟩; rw [hA]; clear q0 q1 q2 q3; obtain ⟨-, q0, q1, q2, q3⟩ := two_pairs ((G4.alloc _).trans g5))
          | (go_at_call_of 14 (Value.agg #[.string t, .slice a2 bs.length c2]); (with_reducible refine Calls.mono (HOb.out _ (GW.trans ((G4.alloc _).trans g5))) ?_); rintro e w6 ⟨rfl, g6⟩; rw [hB]; clear q0 q1 q2 q3; obtain ⟨-, q0, q1, q2, q3⟩ := two_pairs (((G4.alloc _).trans g5).trans g6))
          | (go_at_call 15; (with_reducible refine Calls.mono (HEV.out _ (GW.trans (((G4.alloc _).trans g5).trans g6))) ?_); rintro e w7 ⟨rfl, g7⟩))
        go_ret
        exact ⟨rfl, (g0.trans GW).trans ((G4.alloc _).trans (g5.trans (g6.trans g7)))⟩
  · obtain ⟨hA, hB⟩ : tubeB s cs = true ∧ tubeB t bs = true := by
      by_cases h : tubeB s cs = true ∧ tubeB t bs = true
      · exact h
      · rw [meetO, if_neg h] at hM; cases hM
    have hA1 : meetAll cs bs cs.length = some (T, i, j) := by rw [meetO, if_pos ⟨hA, hB⟩] at hM; exact hM
    obtain ⟨⟨hi, hj⟩, hcl, hT, hmin⟩ : Best cs bs (fun x y => x < cs.length ∧ y < bs.length) (some (T, i, j)) := hA1 ▸ best_all cs bs cs.length
    obtain ⟨i', j', hM'⟩ : ∃ i' j', meetO t bs s cs = some (T, i', j') := by
      rw [hM] at HB
      rcases h : meetO t bs s cs with _ | ⟨T', i', j'⟩
      · rw [h] at HB; cases HB
      · rw [h] at HB
        simp only [Option.map_some, Option.some.injEq] at HB
        exact ⟨i', j', by rw [HB]⟩
    rw [hM] at HI HS
    rw [hM'] at HJ
    dsimp only [clashV, Option.isSome] at HI HS HJ
    have hoa := (tube_boxes hA).2 i hi
    have hob := (tube_boxes hB).2 j hj
    have hT0 : 0 ≤ T ∧ T ≤ 10000 := by
      have h1 := ok_nums hoa
      have h2 := ok_nums hob
      rw [hT]
      unfold closeT
      rw [if_pos hcl]
      split <;> omega
    have HWN : Hid (∀ w' : World, Calls Try.prog 16 #[.agg #[.int .i64 (cs.getD i Bx.nil).x, .int .i64 (cs.getD i Bx.nil).y, .int .i64 (cs.getD i Bx.nil).l, .int .i64 (cs.getD i Bx.nil).h, .int .i64 (cs.getD i Bx.nil).i, .int .i64 (cs.getD i Bx.nil).o], .agg #[.int .i64 (bs.getD j Bx.nil).x, .int .i64 (bs.getD j Bx.nil).y, .int .i64 (bs.getD j Bx.nil).l, .int .i64 (bs.getD j Bx.nil).h, .int .i64 (bs.getD j Bx.nil).i, .int .i64 (bs.getD j Bx.nil).o], .int .i64 T] w' fun e w'' => e = .returned (.bool true) ∧ Gr w' w'') := fun w' => by
      have := wNear_any (cs.getD i Bx.nil) (bs.getD j Bx.nil) T w' hoa hob
      rw [hT, close_wn hcl, ← hT] at this
      exact this
    have HNA : Hid (∀ (k : Int) (w' : World), k < T → Gr w1 w' → Calls Try.prog 17 #[.agg #[.string s, .slice a1 cs.length c1], .agg #[.string t, .slice a2 bs.length c2], .int .i64 k] w' fun e w'' => e = .returned (.bool false) ∧ Gr w' w'') := fun k w' hk g => by
      have := nearAt_ok s t a1 a2 c1 c2 cs bs k w' (boxes_gr ha g) (boxes_gr hb g) hl hl' hA hB
      rw [all_false (fun x y hxy => by
        cases h : wnB (cs.getD x Bx.nil) (bs.getD y Bx.nil) k
        · rfl
        · have h1 := wn_close ((tube_boxes hA).2 x hxy.1) ((tube_boxes hB).2 y hxy.2) h
          have h2 := hmin x y hxy h1.1
          omega)] at this
      exact this
    obtain ⟨T0, T1⟩ := hT0
    clear HB hM hM' hA1 hmin hcl hT hA hB HOa HOb
    obtain ⟨g, o, rfl, hg, hx⟩ := ha i hi
    obtain ⟨g', o', rfl, hg', hx'⟩ := hb j hj
    generalize cs.getD i Bx.nil = c at *
    generalize bs.getD j Bx.nil = b at *
    have hi0 : (0 : Int) ≤ (i : Int) := by omega
    have hi1 : (i : Int) < (cs.length : Int) := by omega
    have hj0 : (0 : Int) ≤ (j : Int) := by omega
    have hj1 : (j : Int) < (bs.length : Int) := by omega
    have GW : Gr w1 ((w1.alloc (.cells #[.string s, .slice (some ⟨g, o, none⟩) cs.length c1] 25)).alloc (.cells #[.string t, .slice (some ⟨g', o', none⟩) bs.length c2] 25)) := ((Gr.refl _).alloc _).alloc _
    go_wp2_with fail
    refine (HI.out _ GW).mono ?_
    rintro e w2 ⟨rfl, g2⟩
    obtain ⟨-, q0, q1, q2, q3⟩ := two_pairs g2
    have l2 := g2.size
    simp only [World.size_alloc] at l2
    have m2 : w1.heap.size < w2.heap.size := by omega
    have m2' : w1.heap.size + 1 < w2.heap.size := by omega
    go_wp2_with fail
    refine (HS.out _ (GW.trans (g2.alloc _))).mono ?_
    rintro e w3 ⟨rfl, g3⟩
    have G3 := (g2.alloc _).trans g3
    clear q0 q1 q2 q3
    obtain ⟨-, q0, q1, q2, q3⟩ := two_pairs G3
    have C5 := five_new g3
    have l3 := G3.size
    simp only [World.size_alloc] at l3
    have m3 : w1.heap.size < w3.heap.size := by omega
    have m3' : w1.heap.size + 1 < w3.heap.size := by omega
    go_wp2_with fail
    refine (HJ.out _ (GW.trans (G3.alloc _))).mono ?_
    rintro e w4 ⟨rfl, g4⟩
    have G4 := (G3.alloc _).trans g4
    clear q0 q1 q2 q3
    obtain ⟨-, q0, q1, q2, q3⟩ := two_pairs G4
    have C7 := five_new g4
    have C5' := five_gr C5.1 (((Gr.refl w3).alloc _).trans g4) C5.2.2
    have l5 : w2.heap.size < w4.heap.size := Nat.lt_of_lt_of_le C5.2.2 (((Gr.refl w3).alloc _).trans g4).size
    have l7 := C7.2.2
    have l4 := G4.size
    simp only [World.size_alloc] at l4
    have m4 : w1.heap.size < w4.heap.size := by omega
    have m4' : w1.heap.size + 1 < w4.heap.size := by omega
    obtain ⟨x0, x1, x2, x3, x4⟩ := C5'
    obtain ⟨z0, z1, z2, z3, z4⟩ := C7.1
    clear C5 C7
    go_upto_region 11 with fail
    have g5 : Gr w4 (w4.alloc (.cells #[.string t, .string s, .int .i64 T, .int .i64 i', .int .i64 j'] 29)) := (Gr.refl _).alloc _
    have e5 : (w4.alloc (.cells #[.string t, .string s, .int .i64 T, .int .i64 i', .int .i64 j'] 29)).cell? ⟨w4.heap.size, 2, none⟩ = some (.int .i64 T) := by simp
    have e5' : w4.heap.size < (w4.alloc (.cells #[.string t, .string s, .int .i64 T, .int .i64 i', .int .i64 j'] 29)).heap.size := by simp
    generalize w4.alloc (.cells #[.string t, .string s, .int .i64 T, .int .i64 i', .int .i64 j'] 29) = w5 at *
    have X5 := five_gr (v0 := .string s) (v1 := .string t) (v2 := .int .i64 T) (v3 := .int .i64 i) (v4 := .int .i64 j) ⟨x0, x1, x2, x3, x4⟩ g5 l5
    have l5' : w2.heap.size < w5.heap.size := Nat.lt_of_lt_of_le l5 g5.size
    have KK : Hid (∀ w', Gr w5 w' → Gr w5 w' ∧ (w'.cell? ⟨w2.heap.size, 0, none⟩ = some (.string s) ∧ w'.cell? ⟨w2.heap.size, 1, none⟩ = some (.string t) ∧ w'.cell? ⟨w2.heap.size, 2, none⟩ = some (.int .i64 T) ∧ w'.cell? ⟨w2.heap.size, 3, none⟩ = some (.int .i64 i) ∧ w'.cell? ⟨w2.heap.size, 4, none⟩ = some (.int .i64 j)) ∧ w'.cell? ⟨w4.heap.size, 2, none⟩ = some (.int .i64 T) ∧ (w'.cell? ⟨w1.heap.size, 0, none⟩ = some (.string s) ∧ w'.cell? ⟨w1.heap.size, 1, none⟩ = some (.slice (some ⟨g, o, none⟩) cs.length c1) ∧ w'.cell? ⟨w1.heap.size + 1, 0, none⟩ = some (.string t) ∧ w'.cell? ⟨w1.heap.size + 1, 1, none⟩ = some (.slice (some ⟨g', o', none⟩) bs.length c2)) ∧ (w'.cell? ⟨g, o + i * 6, none⟩ = some (.int .i64 c.x) ∧ w'.cell? ⟨g, o + i * 6 + 1, none⟩ = some (.int .i64 c.y) ∧ w'.cell? ⟨g, o + i * 6 + 2, none⟩ = some (.int .i64 c.l) ∧ w'.cell? ⟨g, o + i * 6 + 3, none⟩ = some (.int .i64 c.h) ∧ w'.cell? ⟨g, o + i * 6 + 4, none⟩ = some (.int .i64 c.i) ∧ w'.cell? ⟨g, o + i * 6 + 5, none⟩ = some (.int .i64 c.o)) ∧ (w'.cell? ⟨g', o' + j * 6, none⟩ = some (.int .i64 b.x) ∧ w'.cell? ⟨g', o' + j * 6 + 1, none⟩ = some (.int .i64 b.y) ∧ w'.cell? ⟨g', o' + j * 6 + 2, none⟩ = some (.int .i64 b.l) ∧ w'.cell? ⟨g', o' + j * 6 + 3, none⟩ = some (.int .i64 b.h) ∧ w'.cell? ⟨g', o' + j * 6 + 4, none⟩ = some (.int .i64 b.i) ∧ w'.cell? ⟨g', o' + j * 6 + 5, none⟩ = some (.int .i64 b.o))) := fun w' gg => ⟨gg, five_gr X5 gg l5', (gg.cells.1 _ _ e5').trans e5, (two_pairs ((G4.trans g5).trans gg)).2, six_gr hx (GW.trans ((G4.trans g5).trans gg)) hg, six_gr hx' (GW.trans ((G4.trans g5).trans gg)) hg'⟩
    have GG5 : Hid (Gr w1 w5) := GW.trans (G4.trans g5)
    have GF : Hid (Gr w w5) := g0.trans GG5.out
    clear hx hx' X5 x0 x1 x2 x3 x4 z0 z1 z2 z3 z4 q0 q1 q2 q3 G4 G3 g2 g3 g4 g5 e5 GW HI HS HJ
    go_cut [108] from 72 to 108 (fun s108 wx => s108 = .bool false ∧ Gr w5 wx)
    case first =>
      go_region_held3 (fun w' => Gr w5 w' ∧ (w'.cell? ⟨w2.heap.size, 0, none⟩ = some (.string s) ∧ w'.cell? ⟨w2.heap.size, 1, none⟩ = some (.string t) ∧ w'.cell? ⟨w2.heap.size, 2, none⟩ = some (.int .i64 T) ∧ w'.cell? ⟨w2.heap.size, 3, none⟩ = some (.int .i64 i) ∧ w'.cell? ⟨w2.heap.size, 4, none⟩ = some (.int .i64 j)) ∧ w'.cell? ⟨w4.heap.size, 2, none⟩ = some (.int .i64 T) ∧ (w'.cell? ⟨w1.heap.size, 0, none⟩ = some (.string s) ∧ w'.cell? ⟨w1.heap.size, 1, none⟩ = some (.slice (some ⟨g, o, none⟩) cs.length c1) ∧ w'.cell? ⟨w1.heap.size + 1, 0, none⟩ = some (.string t) ∧ w'.cell? ⟨w1.heap.size + 1, 1, none⟩ = some (.slice (some ⟨g', o', none⟩) bs.length c2)) ∧ (w'.cell? ⟨g, o + i * 6, none⟩ = some (.int .i64 c.x) ∧ w'.cell? ⟨g, o + i * 6 + 1, none⟩ = some (.int .i64 c.y) ∧ w'.cell? ⟨g, o + i * 6 + 2, none⟩ = some (.int .i64 c.l) ∧ w'.cell? ⟨g, o + i * 6 + 3, none⟩ = some (.int .i64 c.h) ∧ w'.cell? ⟨g, o + i * 6 + 4, none⟩ = some (.int .i64 c.i) ∧ w'.cell? ⟨g, o + i * 6 + 5, none⟩ = some (.int .i64 c.o)) ∧ (w'.cell? ⟨g', o' + j * 6, none⟩ = some (.int .i64 b.x) ∧ w'.cell? ⟨g', o' + j * 6 + 1, none⟩ = some (.int .i64 b.y) ∧ w'.cell? ⟨g', o' + j * 6 + 2, none⟩ = some (.int .i64 b.l) ∧ w'.cell? ⟨g', o' + j * 6 + 3, none⟩ = some (.int .i64 b.h) ∧ w'.cell? ⟨g', o' + j * 6 + 4, none⟩ = some (.int .i64 b.i) ∧ w'.cell? ⟨g', o' + j * 6 + 5, none⟩ = some (.int .i64 b.o)))
        (first | exact KK.out _ (Gr.refl _).drew | exact KK.out _ ((Gr.refl _).drew.trans g6))
        (first
          | (go_at_call 16; refine (HWN.out _).mono ?_; rintro e w6 ⟨rfl, g6⟩))
      go_wp2_with fail
      go_meet
      exact ⟨rfl, (Gr.refl _).drew.trans g6⟩
    obtain ⟨rfl, g6⟩ := hcut
    rename World => w6
    obtain ⟨-, ⟨x0, x1, x2, x3, x4⟩, -, ⟨q0, q1, q2, q3⟩, -, -⟩ := KK.out _ g6
    go_wp2_with fail
    go_loopw [11] (fun v wr => ∃ k : Int, v = .int .i64 k ∧ -1 ≤ k ∧ k < T ∧ Gr w5 wr) (fun v _ => (intOf v + 1).toNat)
    case atStart => exact ⟨T - 1, rfl, by omega, by omega, g6⟩
    case round =>
      clear x0 x1 x2 x3 x4 q0 q1 q2 q3 g6
      obtain ⟨k, rfl, k0, k1, g6⟩ := hrel
      obtain ⟨-, ⟨x0, x1, x2, x3, x4⟩, -, ⟨q0, q1, q2, q3⟩, -, -⟩ := KK.out _ g6
      by_cases hk : 0 ≤ k
      · by_cases hk2 : T - 40 < k
        · go_wp2_with (go_at_call 17; (with_reducible refine Calls.mono (HNA.out k _ k1 (GG5.out.trans g6)) ?_); rintro e w8 ⟨rfl, g8⟩)
          go_roundw
          case rel => exact ⟨k - 1, rfl, by omega, by omega, g6.trans g8⟩
          case measure => simp [intOf]; omega
        · go_wp2
          go_ret
          exact ⟨rfl, GF.out.trans g6⟩
      · go_wp2
        go_ret
        exact ⟨rfl, GF.out.trans g6⟩
end Go.Proofs.Ytpdcgjkfilohcaa
