import Derived.Test.YtpdcgjkfilohcabDoorHapTV
namespace Go.Proofs.YtpdcgjkfilohcabDoor
open Go.RowKit

/-- The copies that the law makes. -/
def CopyQ (ts : List Tb) (lo : Nat) (e : Ending) (w' : World) : Prop := ∃ us : List Tb, e = .returned (.slice (some ⟨lo, 0, none⟩) us.length us.length) ∧ Like us ts ∧ OwnT lo w' (.slice (some ⟨lo, 0, none⟩) us.length us.length) us ∧ Made us
/-- An event in memory. -/
def TriAt (w : World) (b : Nat) (u v x : Value) : Prop := b < w.heap.size ∧ w.cell? ⟨b, 0, none⟩ = some u ∧ w.cell? ⟨b, 1, none⟩ = some v ∧ w.cell? ⟨b, 2, none⟩ = some x
theorem tri_gr {w w' : World} {b : Nat} {u v x : Value} (h : TriAt w b u v x) (g : Gr w w') : TriAt w' b u v x := ⟨Nat.lt_of_lt_of_le h.1 g.size, (g.cells.1 _ _ h.1).trans h.2.1, (g.cells.1 _ _ h.1).trans h.2.2.1, (g.cells.1 _ _ h.1).trans h.2.2.2⟩
theorem tri_rm {lo hi : Nat} {w w' : World} {b : Nat} {u v x : Value} (h : TriAt w b u v x) (g : RM lo hi w w') (ho : b < lo ∨ hi ≤ b) : TriAt w' b u v x := by
  have hc : ∀ o, w'.cell? ⟨b, o, none⟩ = w.cell? ⟨b, o, none⟩ := fun o => World.cell?_of_block (w := w) (g.2.2.2.2 b h.1 ho)
  exact ⟨Nat.lt_of_lt_of_le h.1 g.2.2.2.1, (hc 0).trans h.2.1, (hc 1).trans h.2.2.1, (hc 2).trans h.2.2.2⟩
theorem tri_make (w : World) (u v x : Value) (t : TypeId) : TriAt (w.alloc (.cells #[u, v, x] t)) w.heap.size u v x := ⟨by simp, by simp, by simp, by simp⟩

theorem owned_inT {w w' : World} {g cap : Nat} {s : ByteArray} {bs : List Bx} (h : Owned w w' g bs) : InT w.heap.size w' ⟨s, some ⟨g, 0, none⟩, cap, bs⟩ := by
  obtain ⟨h1, h2, h3, h4⟩ := h
  refine ⟨fun q o sp e => ?_, h4⟩
  simp only [Option.some.injEq, Addr.mk.injEq] at e
  obtain ⟨rfl, rfl, rfl⟩ := e
  exact ⟨rfl, rfl, h1, h2, h3⟩
theorem hid {p : Prop} (h : p) : Hid p := h
set_option maxRecDepth 100000 in
set_option maxHeartbeats 4000000 in
theorem lawHappen_any (a : Option Addr) (cap : Nat) (ts : List Tb) (d : Bool) (s : ByteArray) (ea : Option Addr) (ecap : Nat) (bs : List Bx) (w : World) (ha : Tubes w a ts) (hF : Fits ts) (hs : s.size ≤ maxLen) (hbl : bs.length ≤ maxLen) (hb : Boxes w ea bs) (hE : ErrAt w) :
    Calls Tryd.prog 3 #[.slice a ts.length cap, .agg #[.bool d, .string s, .slice ea bs.length ecap]] w fun e w' => e = .returned (.bool true) ∧ Gr w w' := by
  have GB : Gr w (w.alloc (.cells #[.bool d, .string s, .slice ea bs.length ecap] 27)) := (Gr.refl _).alloc _
  have HT0 : Hid (TriAt (w.alloc (.cells #[.bool d, .string s, .slice ea bs.length ecap] 27)) w.heap.size (.bool d) (.string s) (.slice ea bs.length ecap)) := tri_make w _ _ _ _
  go_enter Tryd.func3, Tryd.ntmps3
  go_wp2_with fail
  refine (szTubeS_le _ _ ts _ (tubes_gr ha GB) hF).mono ?_
  rintro e w1 ⟨⟨v, rfl, hv⟩, G⟩
  by_cases hz : v < 0
  · clear hv
    go_wp2
    go_ret
    exact ⟨rfl, GB.trans G⟩
  obtain ⟨hS, hv1⟩ := hv hz
  clear hv
  obtain ⟨-, t0, t1, t2⟩ := tri_gr HT0.out G
  go_wp2_with fail
  refine (szEvent_any d s ea bs.length ecap v _ hs (by omega) hv1 hbl).mono ?_
  rintro e w2 ⟨⟨v2, rfl, hv2⟩, q2⟩
  replace G := G.trans q2
  clear q2 t0 t1 t2
  by_cases hz2 : v2 < 0
  · clear hv2
    go_wp2
    go_ret
    exact ⟨rfl, GB.trans G⟩
  obtain ⟨-, hbn⟩ := hv2 hz2
  obtain ⟨RL, RC, hRS, hsp, him⟩ := hap_both ts d s bs hS hs hbn
  have HRS : Hid (Small RL) := hRS
  have HSP := hid (hsp)
  have HIM := hid (him)
  have HTT : Hid (∀ w', Gr (w.alloc (.cells #[.bool d, .string s, .slice ea bs.length ecap] 27)) w' → Calls Tryd.prog 7 #[.slice a ts.length cap] w' fun e w'' => CopyQ ts w'.heap.size e w'' ∧ Gr w' w'') := fun w' g => toTubeS_own a cap ts w' (tubes_gr ha (GB.trans g)) hS
  have HTE : Hid (∀ w', Gr (w.alloc (.cells #[.bool d, .string s, .slice ea bs.length ecap] 27)) w' → Calls Tryd.prog 8 #[.agg #[.bool d, .string s, .slice ea bs.length ecap]] w' fun e w'' => (∃ g, e = .returned (.agg #[.bool d, .string s, .slice (some ⟨g, 0, none⟩) bs.length bs.length]) ∧ Owned w' w'' g bs) ∧ Gr w' w'') := fun w' g => toEvent_any d s ea ecap bs w' (boxes_gr hb (GB.trans g)) hbn
  have HS : Hid (Small ts) := hS
  have HE : Hid (ErrAt (w.alloc (.cells #[.bool d, .string s, .slice ea bs.length ecap] 27))) := errAt_gr hE GB
  have HGB : Hid (Gr w (w.alloc (.cells #[.bool d, .string s, .slice ea bs.length ecap] 27))) := GB
  generalize (w.alloc (.cells #[.bool d, .string s, .slice ea bs.length ecap] 27)) = B at *
  generalize w.heap.size = bE at *
  clear hsp him hRS hS hE hv2 hv1 hz hb ha hF hs hbl GB
  have K1 : Hid (∀ w', Gr B w' → Gr B w' ∧ w'.cell? ⟨bE, 0, none⟩ = some (.bool d) ∧ w'.cell? ⟨bE, 1, none⟩ = some (.string s) ∧ w'.cell? ⟨bE, 2, none⟩ = some (.slice ea bs.length ecap)) := fun w' h => ⟨h, (tri_gr HT0.out h).2⟩
  go_upto_region 8 with fail
  clear hz2
  go_cut [6, 7] (fun s6 s7 wx => ∃ a5 c5 us5, s6 = .slice a5 us5.length c5 ∧ s7 = .int .i64 RC ∧ Gr B wx ∧ Hid (Tubes wx a5 us5) ∧ Hid (Like us5 RL))
  case first =>
    go_region_held3 (fun w' => Gr B w' ∧ w'.cell? ⟨bE, 0, none⟩ = some (.bool d) ∧ w'.cell? ⟨bE, 1, none⟩ = some (.string s) ∧ w'.cell? ⟨bE, 2, none⟩ = some (.slice ea bs.length ecap))
      ((refine K1.out _ ?_; repeat (first | with_reducible exact G | with_reducible assumption | with_reducible exact And.left (by assumption) | with_reducible refine Gr.drew ?_ | with_reducible refine Gr.alloc ?_ _)))
      (first
        | (go_at_call 7; (with_reducible refine Calls.mono (HTT.out _ (And.left (by assumption))) ?_); rintro e w3 ⟨⟨us3, rfl, hL3, hO3, hM3⟩, q3⟩; have G3 := Gr.trans (And.left (by assumption)) q3; have HO3 := hid (hO3); have HM3 := hid (hM3); have HL3 := hid (hL3); clear hO3 hM3 hL3)
        | (go_at_call 8; (with_reducible refine Calls.mono (HTE.out _ (And.left (by assumption))) ?_); rintro e w4 ⟨⟨g4, rfl, hO4⟩, q4⟩; have G4 := Gr.trans (And.left (by assumption)) q4; have HO4 := hid (hO4.2.2.2); clear hO4)
        | (go_at_call 6; (with_reducible refine Calls.mono (HSP.out _ _ _ us3 _ g4 _ (ownT_gr HO3.out (by first | exact q4 | exact q4.drew | exact Gr.trans (Gr.drew (Gr.refl _)) q4 | exact Gr.drew (Gr.trans (Gr.drew (Gr.refl _)) q4))) HM3.out HL3.out (by first | exact HO4.out | exact boxes_gr HO4.out (Gr.drew (Gr.refl _)))) ?_); rintro e w5 ⟨⟨a5, c5, us5, rfl, hO5, hL5⟩, q5⟩; have G5 := Gr.trans (And.left (by assumption)) q5; have HO5 := hid (own_tub hO5); have HL5 := hid (hL5); clear hO5 hL5))
    all_goals (go_wp2_with fail; go_meet)
    all_goals exact ⟨a5, c5, us5, rfl, rfl, G5, HO5, HL5⟩
  obtain ⟨a5, c5, us5, rfl, rfl, G, HT5, HL5⟩ := hcut
  obtain ⟨wA, hA⟩ : ∃ x, x = wc := ⟨_, rfl⟩
  subst hA
  have HGC := hid G
  clear HSP
  go_wp2_with fail
  (with_reducible refine Calls.mono (HTT.out _ G) ?_)
  rintro e w6 ⟨⟨us6, rfl, hL6, hO6, hM6⟩, q6⟩
  obtain ⟨-, t0, t1, t2⟩ := tri_gr HT0.out (G.trans q6)
  go_wp2_with fail
  (with_reducible refine Calls.mono (HTE.out _ (G.trans q6)) ?_)
  rintro e w7 ⟨⟨g7, rfl, hO7⟩, q7⟩
  clear t0 t1 t2
  have q7a : Gr w7 (w7.alloc (.cells #[.bool d, .string s, .slice (some ⟨g7, 0, none⟩) bs.length bs.length] 38)) := (Gr.refl _).alloc _
  have TX := tri_make w7 (.bool d) (.string s) (.slice (some ⟨g7, 0, none⟩) bs.length bs.length) 38
  have hI7 : InT w6.heap.size w7 (⟨s, some ⟨g7, 0, none⟩, bs.length, bs⟩ : Tb) := owned_inT hO7
  have n12 := q6.size
  have n2g := (id hO7).1
  have ng3 := (id hO7).2.1
  have H6 := hid (own_hi hO6)
  have hb7 := boxes_gr hI7.2 q7a
  have hE7 := errAt_gr HE.out (((G.trans q6).trans q7).trans q7a)
  have hO6a := ownT_gr hO6 (q7.trans q7a)
  go_wp2_with fail
  (with_reducible refine Calls.mono (HIM.out _ _ _ us6 _ g7 _ hO6a hM6 hL6 hb7 hE7) ?_)
  rintro e w8 ⟨⟨a8, c8, us8, rfl, hO8, hL8⟩, q8⟩
  have HX0 := hid (ownT_gr hO6 ((q7.trans q7a).trans q8))
  have HI7 := hid (inT_gr hI7 (q7a.trans q8))
  have HTX := hid (tri_gr TX q8)
  rw [show (w7.alloc (.cells #[.bool d, .string s, .slice (some ⟨g7, 0, none⟩) bs.length bs.length] 38)).heap.size = w7.heap.size + 1 by simp] at hO8
  have HG0 := hid hO8
  have HL8 := hid hL8
  have HL6 := hid hL6
  have C : Gr wA w8 := q6.trans (q7.trans (q7a.trans q8))
  clear hO6 hO6a hb7 hE7 hL6 hM6 hO7 hI7 TX hO8 hL8 q6 q7 q7a q8 G
  go_wp2_with fail
  refine (eqTubeS_same _ _ _ _ us8 us5 _ (own_tub HG0.out) (tubes_gr HT5.out C) (like_two HL8.out HL5.out) (small_like HL8.out HRS.out)).mono ?_
  rintro e w9 ⟨rfl, q9⟩
  replace HX0 := hid (ownT_gr HX0.out q9)
  replace HI7 := hid (inT_gr HI7.out q9)
  replace HTX := hid (tri_gr HTX.out q9)
  replace HG0 := hid (ownT_gr HG0.out q9)
  replace C := C.trans q9
  clear q9
  go_wp2_with fail
  (with_reducible refine Calls.mono (HTT.out _ (HGC.out.trans C)) ?_)
  rintro e w10 ⟨⟨us10, rfl, hL10, hO10, -⟩, q10⟩
  go_wp2_with fail
  refine (eqTubeS_same _ _ _ _ us6 us10 _ (own_tub (ownT_gr HX0.out q10)) (own_tub hO10) (like_two HL6.out hL10) (small_like HL6.out HS.out)).mono ?_
  rintro e w11 ⟨rfl, q11⟩
  replace HX0 := hid (ownT_gr HX0.out (q10.trans q11))
  replace HI7 := hid (inT_gr HI7.out (q10.trans q11))
  replace HTX := hid (tri_gr HTX.out (q10.trans q11))
  replace HG0 := hid (ownT_gr HG0.out (q10.trans q11))
  replace C := C.trans (q10.trans q11)
  clear q10 q11 hL10 hO10
  have K2 : Hid (∀ w', Gr w11 w' → Gr w11 w' ∧ (w'.cell? ⟨bE, 0, none⟩ = some (.bool d) ∧ w'.cell? ⟨bE, 1, none⟩ = some (.string s) ∧ w'.cell? ⟨bE, 2, none⟩ = some (.slice ea bs.length ecap)) ∧ (w'.cell? ⟨w7.heap.size, 0, none⟩ = some (.bool d) ∧ w'.cell? ⟨w7.heap.size, 1, none⟩ = some (.string s) ∧ w'.cell? ⟨w7.heap.size, 2, none⟩ = some (.slice (some ⟨g7, 0, none⟩) bs.length bs.length))) := fun w' h => ⟨h, (tri_gr HT0.out (HGC.out.trans (C.trans h))).2, (tri_gr HTX.out h).2⟩
  have HTE2 : Hid (∀ w', Gr w11 w' → Calls Tryd.prog 8 #[.agg #[.bool d, .string s, .slice ea bs.length ecap]] w' fun e w'' => (∃ g, e = .returned (.agg #[.bool d, .string s, .slice (some ⟨g, 0, none⟩) bs.length bs.length]) ∧ Owned w' w'' g bs) ∧ Gr w' w'') := fun w' g => HTE.out w' (HGC.out.trans (C.trans g))
  have HB7 : Hid (∀ w', Gr w11 w' → Boxes w' (some ⟨g7, 0, none⟩) bs) := fun w' g => boxes_gr HI7.out.2 g
  have G0 := Gr.refl w11
  go_upto_region 16 with fail
  go_cut [63] (fun s63 wx => s63 = .bool false ∧ Gr w11 wx)
  case first =>
    go_region_held3 (fun w' => Gr w11 w' ∧ (w'.cell? ⟨bE, 0, none⟩ = some (.bool d) ∧ w'.cell? ⟨bE, 1, none⟩ = some (.string s) ∧ w'.cell? ⟨bE, 2, none⟩ = some (.slice ea bs.length ecap)) ∧ (w'.cell? ⟨w7.heap.size, 0, none⟩ = some (.bool d) ∧ w'.cell? ⟨w7.heap.size, 1, none⟩ = some (.string s) ∧ w'.cell? ⟨w7.heap.size, 2, none⟩ = some (.slice (some ⟨g7, 0, none⟩) bs.length bs.length)))
      ((refine K2.out _ ?_; repeat (first | with_reducible exact G0 | with_reducible assumption | with_reducible exact And.left (by assumption) | with_reducible refine Gr.drew ?_ | with_reducible refine Gr.alloc ?_ _)))
      (first
        | (go_at_call 8; (with_reducible refine Calls.mono (HTE2.out _ (And.left (by assumption))) ?_); rintro e w12 ⟨⟨g12, rfl, hO12⟩, q12⟩; have G12 := Gr.trans (And.left (by assumption)) q12; have HO12 := hid hO12.2.2.2; clear hO12)
        | (go_at_call 11; (with_reducible refine Calls.mono (eqEvent_same d s _ _ _ _ bs _ (HB7.out _ (And.left (by assumption))) (by first | exact HO12.out | exact boxes_gr HO12.out (Gr.drew (Gr.refl _))) hbn) ?_); rintro e w13 ⟨rfl, q13⟩; have G13 := Gr.trans (And.left (by assumption)) q13))
    all_goals (go_wp2_with fail; go_meet)
    all_goals exact ⟨rfl, G13⟩
  obtain ⟨rfl, q13⟩ := hcut
  replace HX0 := hid (ownT_gr HX0.out q13)
  replace HI7 := hid (inT_gr HI7.out q13)
  replace HTX := hid (tri_gr HTX.out q13)
  replace HG0 := hid (ownT_gr HG0.out q13)
  replace C := C.trans q13
  clear q13 K2 HTE2 HB7 G0
  obtain ⟨wB, hB⟩ : ∃ x, x = wc := ⟨_, rfl⟩
  subst hB
  go_wp2_with fail
  refine (markTubeS_any _ w6.heap.size _ us6 _ HX0.out H6.out (small_like HL6.out HS.out)).mono ?_
  rintro e w14 ⟨rfl, -, m14⟩
  replace HI7 := hid (inT_rm HI7.out m14 (fun q e => by simp only [Tb.blk, Option.map_some, Option.some.injEq] at e; omega))
  replace HTX := tri_rm HTX.out m14 (by omega)
  replace HG0 := hid (ownT_rm HG0.out m14 (by omega))
  replace C := gr_rm C m14 (Nat.le_refl _)
  obtain ⟨-, t0, t1, t2⟩ := HTX
  have hk6 := endK_le 1 us6 (small_mem (small_like HL6.out HS.out)).2
  have hl6 := (small_like HL6.out HS.out).1
  generalize endK 1 us6 = K6 at *
  have hk0 : 0 ≤ K6 := by omega
  have hk1 : K6 ≤ 10000000000000 := by omega
  have hk2 : ¬ K6 + 6 * (bs.length : Int) < 0 := by omega
  obtain ⟨-, -, -, hgl, hro⟩ := HI7.out.1 g7 0 none rfl
  clear hk6 hl6 HX0 H6 HL6 HI7 m14
  go_wp2_with fail
  refine (markEvent_own d s g7 bs.length bs.length K6 _ hro hgl hbn hk0 hk1).mono ?_
  rintro e w15 ⟨rfl, m15⟩
  replace HG0 := hid (ownT_rm HG0.out m15 (by omega))
  replace C := gr_rm C m15 (by omega)
  clear m15 t0 t1 t2 hro hgl
  go_wp2_with fail
  refine (eqTubeS_same _ _ _ _ us8 us5 _ (own_tub HG0.out) (tubes_gr HT5.out C) (like_two HL8.out HL5.out) (small_like HL8.out HRS.out)).mono ?_
  rintro e w16 ⟨rfl, q16⟩
  replace HG0 := hid (ownT_gr HG0.out q16)
  replace C := C.trans q16
  clear q16
  go_wp2_with fail
  refine (markTubeS_any _ w16.heap.size _ us8 _ HG0.out (own_hi HG0.out) (small_like HL8.out HRS.out)).mono ?_
  rintro e w17 ⟨rfl, hM17, m17⟩
  replace C := gr_rm C m17 (by omega)
  have HM := hid hM17
  have HS8 := hid (small_mem (small_like HL8.out HRS.out))
  clear m17 hM17 HG0 hk0 hk1 hk2
  go_wp2_with fail
  refine (heldTubeS_any _ _ _ us8 _ HM.out HS8.out.1 HS8.out.2).mono ?_
  rintro e w18 ⟨rfl, q18⟩
  replace HM := hid (ownT_gr HM.out q18)
  replace C := C.trans q18
  have hk8 : ¬ endK 1 us8 < 0 := by have := (endK_le 1 us8 HS8.out.2).1; omega
  have HEN := hid (rfl : endK 1 us8 = endK 1 us8)
  have HHE : Hid (∀ w', OwnT (w7.heap.size + 1) w' (.slice a8 us8.length c8) (markL 1 us8) → Calls Tryd.prog 14 #[.slice a8 us8.length c8, .int .i64 1] w' fun e w'' => e = .returned (.int .i64 (endK 1 us8)) ∧ Gr w' w'') := fun w' h => heldTubeS_any _ a8 c8 us8 w' h HS8.out.1 HS8.out.2
  generalize endK 1 us8 = K8 at *
  clear q18 HEN
  have K3 : Hid (∀ w', Gr w18 w' → Gr w18 w' ∧ w'.cell? ⟨bE, 0, none⟩ = some (.bool d) ∧ w'.cell? ⟨bE, 1, none⟩ = some (.string s) ∧ w'.cell? ⟨bE, 2, none⟩ = some (.slice ea bs.length ecap)) := fun w' h => ⟨h, (tri_gr HT0.out (HGC.out.trans (C.trans h))).2⟩
  have HTT3 : Hid (∀ w', Gr w18 w' → Calls Tryd.prog 7 #[.slice a ts.length cap] w' fun e w'' => CopyQ ts w'.heap.size e w'' ∧ Gr w' w'') := fun w' g => HTT.out w' (HGC.out.trans (C.trans g))
  have HTE3 : Hid (∀ w', Gr w18 w' → Calls Tryd.prog 8 #[.agg #[.bool d, .string s, .slice ea bs.length ecap]] w' fun e w'' => (∃ g, e = .returned (.agg #[.bool d, .string s, .slice (some ⟨g, 0, none⟩) bs.length bs.length]) ∧ Owned w' w'' g bs) ∧ Gr w' w'') := fun w' g => HTE.out w' (HGC.out.trans (C.trans g))
  have HER : Hid (∀ w', Gr w18 w' → ErrAt w') := fun w' g => errAt_gr HE.out (HGC.out.trans (C.trans g))
  have G0 := Gr.refl w18
  go_upto_region 31 with fail
  go_cut [15, 16] (fun s15 s16 wx => ∃ a25 c25 us25, s15 = .slice a25 us25.length c25 ∧ s16 = .int .i64 RC ∧ Gr w18 wx ∧ Hid (Tubes wx a25 us25) ∧ Hid (Like us25 RL))
  case first =>
    go_region_held3 (fun w' => Gr w18 w' ∧ w'.cell? ⟨bE, 0, none⟩ = some (.bool d) ∧ w'.cell? ⟨bE, 1, none⟩ = some (.string s) ∧ w'.cell? ⟨bE, 2, none⟩ = some (.slice ea bs.length ecap))
      ((refine K3.out _ ?_; repeat (first | with_reducible exact G0 | with_reducible assumption | with_reducible exact And.left (by assumption) | with_reducible refine Gr.drew ?_ | with_reducible refine Gr.alloc ?_ _)))
      (first
        | (go_at_call 7; (with_reducible refine Calls.mono (HTT3.out _ (And.left (by assumption))) ?_); rintro e w23 ⟨⟨us23, rfl, hL23, hO23, hM23⟩, q23⟩; have G23 := Gr.trans (And.left (by assumption)) q23; have HO23 := hid hO23; have HM23 := hid hM23; have HL23 := hid hL23; clear hO23 hM23 hL23)
        | (go_at_call 8; (with_reducible refine Calls.mono (HTE3.out _ (And.left (by assumption))) ?_); rintro e w24 ⟨⟨g24, rfl, hO24⟩, q24⟩; have G24 := Gr.trans (And.left (by assumption)) q24; have HO24 := hid hO24.2.2.2; clear hO24)
        | (go_at_call 9; (with_reducible refine Calls.mono (HIM.out _ _ _ us23 _ g24 _ (ownT_gr HO23.out (by first | exact q24 | exact q24.drew | exact Gr.trans (Gr.drew (Gr.refl _)) q24 | exact Gr.drew (Gr.trans (Gr.drew (Gr.refl _)) q24))) HM23.out HL23.out (by first | exact HO24.out | exact boxes_gr HO24.out (Gr.drew (Gr.refl _))) (HER.out _ (And.left (by assumption)))) ?_); rintro e w25 ⟨⟨a25, c25, us25, rfl, hO25, hL25⟩, q25⟩; have G25 := Gr.trans (And.left (by assumption)) q25; have HO25 := hid (own_tub hO25); have HL25 := hid hL25; clear hO25 hL25))
    all_goals (go_wp2_with fail; go_meet)
    all_goals exact ⟨a25, c25, us25, rfl, rfl, G25, HO25, HL25⟩
  obtain ⟨a25, c25, us25, rfl, rfl, q25, HT25, HL25⟩ := hcut
  obtain ⟨wD, hD⟩ : ∃ x, x = wc := ⟨_, rfl⟩
  subst hD
  replace HM := hid (ownT_gr HM.out q25)
  replace C := C.trans q25
  clear K3 HTT3 HTE3 HER G0 q25 HTT HTE HIM K1
  go_wp2_with fail
  refine (eqTubeS_same _ _ _ _ us25 us5 _ HT25.out (tubes_gr HT5.out C) (like_two HL25.out HL5.out) (small_like HL25.out HRS.out)).mono ?_
  rintro e w26 ⟨rfl, q26⟩
  replace HM := hid (ownT_gr HM.out q26)
  replace C := C.trans q26
  clear q26
  go_wp2_with fail
  (with_reducible refine Calls.mono (HHE.out _ HM.out) ?_)
  rintro e w27 ⟨rfl, q27⟩
  go_wp2
  go_ret
  exact ⟨rfl, HGB.out.trans (HGC.out.trans (C.trans q27))⟩
end Go.Proofs.YtpdcgjkfilohcabDoor
