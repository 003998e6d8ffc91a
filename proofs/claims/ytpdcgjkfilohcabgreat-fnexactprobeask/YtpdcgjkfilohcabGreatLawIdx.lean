import Derived.Test.YtpdcgjkfilohcabGreatIdxU
import Derived.Test.YtpdcgjkfilohcabGreatIdxLS
import Derived.Test.YtpdcgjkfilohcabGreatLawHap
namespace Go.Proofs.YtpdcgjkfilohcabGreat
open Go.RowKit Go.Sort Go.Maps
set_option linter.unusedSimpArgs false
set_option linter.unusedVariables false

/-! The law of ProbeIndexOf. -/

theorem placed_like {us ts : List Tb} (h : Like us ts) : placed us = placed ts := by
  have e : us.map (fun t => (t.s, t.bs)) = ts.map (fun t => (t.s, t.bs)) := by
    apply List.ext_getElem
    · simp [h.1]
    · intro k h1 h2
      have hk : k < ts.length := by simpa using h2
      have hk' : k < us.length := by simpa using h1
      have := h.2 k hk
      simp only [nm, bx, List.getD_eq_getElem?_getD, List.getElem?_eq_getElem hk, List.getElem?_eq_getElem hk', Option.getD_some] at this
      simp [this.1, this.2]
  have f : ∀ l : List Tb, placed l = (l.map (fun t => (t.s, t.bs))).flatMap (fun x => (List.range x.2.length).map fun k => slotOf x.1 k (x.2.getD k Bx.nil)) := fun l => by
    rw [List.flatMap_map]
    rfl
  rw [f us, f ts, e]
theorem idxIs_like {us ts : List Tb} (h : Like us ts) {idx : List Cl} (hi : IdxIs us idx) : IdxIs ts idx := by
  unfold IdxIs at *
  rw [← sky_like h, ← placed_like h]
  exact hi
/-- What both answer of tubes. -/
def XQ (ts : List Tb) (lo : Nat) (e : Ending) (w' : World) : Prop := ∃ v cs, e = .returned (.agg #[v]) ∧ OwnX lo w' v cs ∧ IdxIs ts (idxOf cs)
/-- A box in memory. -/
def BX (w : World) (b : Nat) (v : Value) : Prop := b < w.heap.size ∧ w.cell? ⟨b, 0, none⟩ = some v
theorem bx_gr {w w' : World} {b : Nat} {v : Value} (h : BX w b v) (g : Gr w w') : BX w' b v := ⟨Nat.lt_of_lt_of_le h.1 g.size, (g.cells.1 _ _ h.1).trans h.2⟩
theorem bx_rm {lo hi : Nat} {w w' : World} {b : Nat} {v : Value} (h : BX w b v) (g : RM lo hi w w') (ho : b < lo ∨ hi ≤ b) : BX w' b v := ⟨Nat.lt_of_lt_of_le h.1 g.2.2.2.1, (World.cell?_of_block (g.2.2.2.2 b h.1 ho)).trans h.2⟩
theorem bx_make (w : World) (v : Value) (t : TypeId) : BX (w.alloc (.cells #[v] t)) w.heap.size v := ⟨by simp, by simp⟩

set_option maxRecDepth 100000 in
set_option maxHeartbeats 4000000 in
theorem lawIndexOf_any (a : Option Addr) (cap : Nat) (ts : List Tb) (w : World) (ha : Tubes w a ts) (hF : Fits ts) :
    Calls Tryz.prog 6 #[.slice a ts.length cap] w fun e w' => e = .returned (.bool true) ∧ Gr w w' := by
  go_enter Tryz.func6, Tryz.ntmps6
  go_wp2_with fail
  refine (szTubeS_le _ _ ts _ ha hF).mono ?_
  rintro e w1 ⟨⟨v, rfl, hv⟩, G⟩
  by_cases hz : v < 0
  · clear hv
    go_wp2
    go_ret
    exact ⟨rfl, G⟩
  obtain ⟨hS, -⟩ := hv hz
  clear hv
  have HTT : Hid (∀ w', Gr w w' → Calls Tryz.prog 10 #[.slice a ts.length cap] w' fun e w'' => CopyQ ts w'.heap.size e w'' ∧ Gr w' w'') := fun w' g => toTubeS_own a cap ts w' (tubes_gr ha g) hS
  have HSP : Hid (∀ (w' : World) (a' : Option Addr) (cap' : Nat) (us : List Tb), Tubes w' a' us → Like us ts → Calls Tryz.prog 25 #[.slice a' us.length cap'] w' fun e w'' => XQ ts w'.heap.size e w'' ∧ Gr w' w'') := fun w' a' cap' us hT hL => (specIndexOf_any a' cap' us w' hT (small_like hL hS)).mono (by
    rintro e w'' ⟨⟨v, cs, rfl, h1, h2⟩, g⟩
    exact ⟨⟨v, cs, rfl, h1, idxIs_like hL h2⟩, g⟩)
  have HIM : Hid (∀ (w' : World) (a' : Option Addr) (cap' : Nat) (us : List Tb), Tubes w' a' us → Like us ts → Calls Tryz.prog 26 #[.slice a' us.length cap'] w' fun e w'' => XQ ts w'.heap.size e w'' ∧ Gr w' w'') := fun w' a' cap' us hT hL => (implIndexOf_any a' cap' us w' hT (small_like hL hS)).mono (by
    rintro e w'' ⟨⟨v, cs, rfl, h1, h2⟩, g⟩
    exact ⟨⟨v, cs, rfl, h1, idxIs_like hL h2⟩, g⟩)
  have HS : Hid (Small ts) := hS
  clear ha hF hS
  go_wp2_with fail
  (with_reducible refine Calls.mono (HTT.out _ G) ?_)
  rintro e w2 ⟨⟨us2, rfl, hL2, hO2, -⟩, q2⟩
  go_wp2_with fail
  (with_reducible refine Calls.mono (HSP.out _ _ _ us2 (own_tub hO2) hL2) ?_)
  rintro e w3 ⟨⟨v3, cs3, rfl, hX3, hI3⟩, q3⟩
  obtain ⟨a3, c3, e3⟩ := row_form hX3.row
  subst e3
  have H3 := hidE hX3
  have HI3 := hidE hI3
  have qA : Gr w3 (w3.alloc (.cells #[.slice a3 cs3.length c3] 48)) := (Gr.refl _).alloc _
  have B3 := bx_make w3 (.slice a3 cs3.length c3) 48
  have HGC : Hid (Gr w (w3.alloc (.cells #[.slice a3 cs3.length c3] 48))) := ((G.trans q2).trans q3).trans qA
  have hsA : (w3.alloc (.cells #[.slice a3 cs3.length c3] 48)).heap.size = w3.heap.size + 1 := by simp
  clear hL2 hO2 q2 q3 hX3 hI3 hz HSP G
  go_wp2_with fail
  (with_reducible refine Calls.mono (HTT.out _ HGC.out) ?_)
  rintro e w4 ⟨⟨us4, rfl, hL4, hO4, -⟩, q4⟩
  have C : Gr (w3.alloc (.cells #[.slice a3 cs3.length c3] 48)) w4 := q4
  have B3 := bx_gr B3 q4
  rw [hsA] at hO4
  have H4 := hidE (own_hi hO4)
  have n34 : w3.heap.size + 1 ≤ w4.heap.size := by have := q4.size; omega
  clear q4
  go_wp2_with fail
  (with_reducible refine Calls.mono (HIM.out _ _ _ us4 (own_tub hO4) hL4) ?_)
  rintro e w5 ⟨⟨v5, cs5, rfl, hX5, hI5⟩, q5⟩
  obtain ⟨a5, c5, e5⟩ := row_form hX5.row
  subst e5
  have n45 := q5.size
  have qB : Gr w5 (w5.alloc (.cells #[.slice a5 cs5.length c5] 48)) := (Gr.refl _).alloc _
  have B5 := bx_make w5 (.slice a5 cs5.length c5) 48
  replace B3 := bx_gr B3 (q5.trans qB)
  have HX0 := hidE (ownT_gr hO4 (q5.trans qB))
  have HG0 := hidE (ownX_gr hX5 qB)
  have H5 := hidE (ownX_hi hX5)
  have HI5 := hidE hI5
  have HL4 := hidE hL4
  replace C := C.trans (q5.trans qB)
  have HSM := hidE (idxIs_small hI5)
  have HSM3 := hidE (idxIs_small HI3.out)
  have HEQ := hidE (idxIs_one HI5.out HI3.out)
  clear hO4 hL4 hX5 hI5 q5 qB
  have x3 := B3.2
  have x5 := B5.2
  go_upto_region 8 with fail
  generalize hwB : w5.alloc (.cells #[.slice a5 cs5.length c5] 48) = wB at *
  clear hwB
  go_wp2_with fail
  refine (eqIndex_same _ _ _ _ cs5 cs3 _ HG0.out (ownX_gr H3.out (qA.trans C)) HEQ.out HSM.out.1 HSM.out.2).mono ?_
  rintro e w6 ⟨rfl, q6⟩
  replace HX0 := hidE (ownT_gr HX0.out q6)
  replace HG0 := hidE (ownX_gr HG0.out q6)
  replace B3 := bx_gr B3 q6
  replace B5 := bx_gr B5 q6
  replace C := C.trans q6
  clear q6 x3 x5
  go_wp2_with fail
  (with_reducible refine Calls.mono (HTT.out _ (HGC.out.trans C)) ?_)
  rintro e w7 ⟨⟨us7, rfl, hL7, hO7, -⟩, q7⟩
  go_wp2_with fail
  refine (eqTubeS_same _ _ _ _ us4 us7 _ (own_tub (ownT_gr HX0.out q7)) (own_tub hO7) (like_two HL4.out hL7) (small_like HL4.out HS.out)).mono ?_
  rintro e w8 ⟨rfl, q8⟩
  replace HX0 := hidE (ownT_gr HX0.out (q7.trans q8))
  replace HG0 := hidE (ownX_gr HG0.out (q7.trans q8))
  replace B3 := bx_gr B3 (q7.trans q8)
  replace B5 := bx_gr B5 (q7.trans q8)
  replace C := C.trans (q7.trans q8)
  clear q7 q8 hL7 hO7
  go_wp2_with fail
  refine (markTubeS_any _ w4.heap.size _ us4 _ HX0.out H4.out (small_like HL4.out HS.out)).mono ?_
  rintro e w9 ⟨rfl, -, m9⟩
  replace HG0 := hidE (ownX_rm HG0.out m9 (Or.inl (Nat.le_refl _)))
  replace B3 := bx_rm B3 m9 (by omega)
  replace B5 := bx_rm B5 m9 (by omega)
  replace C := gr_rm C m9 (by omega)
  have hk4 := (endK_le 1 us4 (small_mem (small_like HL4.out HS.out)).2).1
  generalize endK 1 us4 = K4 at *
  have hk40 : ¬ K4 < 0 := by omega
  have x3 := B3.2
  have x5 := B5.2
  clear m9 HX0 H4 HL4 hk4
  go_wp2_with fail
  refine (eqIndex_same _ _ _ _ cs5 cs3 _ HG0.out (ownX_gr H3.out (qA.trans C)) HEQ.out HSM.out.1 HSM.out.2).mono ?_
  rintro e w10 ⟨rfl, q10⟩
  replace HG0 := hidE (ownX_gr HG0.out q10)
  replace B3 := bx_gr B3 q10
  replace B5 := bx_gr B5 q10
  replace C := C.trans q10
  clear q10 x3 x5
  have x5 := B5.2
  go_wp2_with fail
  refine (markIndex_any _ w5.heap.size _ cs5 _ HG0.out H5.out HSM.out).mono ?_
  rintro e w11 ⟨rfl, hM11, m11⟩
  replace B3 := bx_rm B3 m11 (by omega)
  replace B5 := bx_rm B5 m11 (by omega)
  replace C := gr_rm C m11 (by omega)
  have HM := hidE hM11
  have hk5 := (endX_le 1 cs5 HSM.out.2).1
  have HHE : Hid (∀ w', OwnX w4.heap.size w' (.slice a5 cs5.length c5) (markX 1 cs5) → Calls Tryz.prog 29 #[.agg #[.slice a5 cs5.length c5], .int .i64 1] w' fun e w'' => e = .returned (.int .i64 (endX 1 cs5)) ∧ Gr w' w'') := fun w' h => heldIndex_any _ _ cs5 w' h HSM.out
  generalize endX 1 cs5 = K5 at *
  have hk0 : ¬ K5 < 0 := by omega
  clear x5 m11 hM11 HG0 H5 hk5 hk40
  have x5 := B5.2
  go_wp2_with fail
  (with_reducible refine Calls.mono (HHE.out _ HM.out) ?_)
  rintro e w12 ⟨rfl, q12⟩
  replace HM := hidE (ownX_gr HM.out q12)
  replace B3 := bx_gr B3 q12
  replace B5 := bx_gr B5 q12
  replace C := C.trans q12
  clear q12 x5
  go_wp2_with fail
  (with_reducible refine Calls.mono (HTT.out _ (HGC.out.trans C)) ?_)
  rintro e w13 ⟨⟨us13, rfl, hL13, hO13, -⟩, q13⟩
  go_wp2_with fail
  (with_reducible refine Calls.mono (HIM.out _ _ _ us13 (own_tub hO13) hL13) ?_)
  rintro e w14 ⟨⟨v14, cs14, rfl, hX14, hI14⟩, q14⟩
  obtain ⟨a14, c14, e14⟩ := row_form hX14.row
  subst e14
  have qC : Gr w14 (w14.alloc (.cells #[.slice a14 cs14.length c14] 48)) := (Gr.refl _).alloc _
  have B14 := bx_make w14 (.slice a14 cs14.length c14) 48
  replace HM := hidE (ownX_gr HM.out ((q13.trans q14).trans qC))
  replace B3 := bx_gr B3 ((q13.trans q14).trans qC)
  replace B5 := bx_gr B5 ((q13.trans q14).trans qC)
  replace C := C.trans ((q13.trans q14).trans qC)
  have HX14 := hidE (ownX_gr hX14 qC)
  have HSM14 := hidE (idxIs_small hI14)
  have HEQ14 := hidE (idxIs_one hI14 HI3.out)
  clear hL13 hO13 q13 q14 hX14 hI14 qC
  have x3 := B3.2
  have x14 := B14.2
  go_upto_region 25 with fail
  generalize hwD : w14.alloc (.cells #[.slice a14 cs14.length c14] 48) = wD at *
  clear hwD
  go_wp2_with fail
  refine (eqIndex_same _ _ _ _ cs14 cs3 _ HX14.out (ownX_gr H3.out (qA.trans C)) HEQ14.out HSM14.out.1 HSM14.out.2).mono ?_
  rintro e w15 ⟨rfl, q15⟩
  replace HM := hidE (ownX_gr HM.out q15)
  replace B5 := bx_gr B5 q15
  replace C := C.trans q15
  clear q15 x3 x14
  have x5 := B5.2
  go_wp2_with fail
  (with_reducible refine Calls.mono (HHE.out _ HM.out) ?_)
  rintro e w16 ⟨rfl, q16⟩
  go_wp2
  go_ret
  exact ⟨rfl, HGC.out.trans (C.trans q16)⟩
end Go.Proofs.YtpdcgjkfilohcabGreat
