import Derived.Test.YtpdcgjkfilohcabGreatDoorFolA
namespace Go.Proofs.YtpdcgjkfilohcabGreatDoor
open Go.RowKit Go.Sort Go.Maps
set_option linter.unusedSimpArgs false
set_option linter.unusedVariables false

/-! The law of ProbeFollow. -/

/-- A new box for an index. -/
def BZ (w : World) (b : Nat) : Prop := w.heap[b]? = some (.cells #[.slice none 0 0] 36 (0, 0))
theorem bz_gr {w w' : World} {b : Nat} (h : BZ w b) (g : Gr w w') : BZ w' b := (Below.block g _ (Array.getElem?_eq_some_iff.1 h).1).trans h
theorem bz_cell {w : World} {b : Nat} (h : BZ w b) : w.cell? ⟨b, 0, none⟩ = some (.slice none 0 0) := by
  unfold World.cell?
  rw [h]
  rfl
theorem bz_froz {w : World} {b : Nat} (h : BZ w b) : w.frozen? ⟨b, 0, none⟩ = false := by
  unfold World.frozen?
  rw [h]
  rfl
theorem bz_set {w : World} {b lo : Nat} {v : Value} {cs : List Cx} (h : BZ w b) (hX : OwnX lo w v cs) : BX (w.setCell ⟨b, 0, none⟩ v) b v ∧ OwnX lo (w.setCell ⟨b, 0, none⟩ v) v cs := by
  have h2 := boxed_set h v
  refine ⟨⟨(Array.getElem?_eq_some_iff.1 h2).1, ?_⟩, ownX_box hX ⟨_, _, h⟩ v⟩
  unfold World.cell?
  rw [h2]
  rfl
theorem ownX_lo {l l' : Nat} {w : World} {v : Value} {cs : List Cx} (h : OwnX l w v cs) (hl : l' ≤ l) : OwnX l' w v cs := ⟨own_lo h.row hl, fun c hc => own_lo (h.slots c hc) hl, h.apart⟩
/-- The copy of an index that the law makes. -/
def CopyX (ces : List Ce) (lo : Nat) (e : Ending) (w' : World) : Prop := ∃ (q : Nat) (ds : List Cx), e = .returned (.agg #[.slice (some ⟨q, 0, none⟩) ds.length ds.length]) ∧ idxOf ds = ceIdx ces ∧ OwnX lo w' (.slice (some ⟨q, 0, none⟩) ds.length ds.length) ds ∧ MadeX ds

set_option maxRecDepth 100000 in
set_option maxHeartbeats 8000000 in
theorem lawFollow_any (xa : Option Addr) (xcap : Nat) (ces : List Ce) (a : Option Addr) (cap : Nat) (ts : List Tb) (d : Bool) (s : ByteArray) (ea : Option Addr) (ecap : Nat) (bs : List Bx) (w : World) (hx : Cells w xa ces) (hxF : FitsX ces) (ha : Tubes w a ts) (hF : Fits ts) (hs : s.size ≤ maxLen) (hbl : bs.length ≤ maxLen) (hb : Boxes w ea bs) (hE : ErrAt w) :
    Calls Tryz.prog 3 #[.agg #[.slice xa ces.length xcap], .slice a ts.length cap, .agg #[.bool d, .string s, .slice ea bs.length ecap]] w fun e w' => e = .returned (.bool true) ∧ Gr w w' := by
  have GB : Gr w ((w.alloc (.cells #[.slice xa ces.length xcap] 24)).alloc (.cells #[.bool d, .string s, .slice ea bs.length ecap] 30)) := ((Gr.refl _).alloc _).alloc _
  have HT0 : Hid (TriAt ((w.alloc (.cells #[.slice xa ces.length xcap] 24)).alloc (.cells #[.bool d, .string s, .slice ea bs.length ecap] 30)) (w.heap.size + 1) (.bool d) (.string s) (.slice ea bs.length ecap)) := by
    have := tri_make (w.alloc (.cells #[.slice xa ces.length xcap] 24)) (.bool d) (.string s) (.slice ea bs.length ecap) 30
    rwa [World.size_alloc] at this
  have HBX : Hid (BX ((w.alloc (.cells #[.slice xa ces.length xcap] 24)).alloc (.cells #[.bool d, .string s, .slice ea bs.length ecap] 30)) w.heap.size (.slice xa ces.length xcap)) := bx_gr (bx_make w _ _) ((Gr.refl _).alloc _)
  have e0 := HBX.out.2
  go_enter Tryz.func3, Tryz.ntmps3
  go_wp2_with fail
  refine (szIndex_any xa xcap ces 1048576 _ (cells_gr hx GB) hxF (by omega) (by omega)).mono ?_
  rintro e wS ⟨⟨vx, rfl, hvx⟩, GX⟩
  by_cases hz0 : vx < 0
  · clear hvx
    go_wp2
    go_ret
    exact ⟨rfl, GB.trans GX⟩
  obtain ⟨hSX, hvx1⟩ := hvx hz0
  clear hvx e0
  go_wp2_with fail
  refine (szTubeS_gen _ _ ts vx _ (tubes_gr ha (GB.trans GX)) hF (by omega) hvx1).mono ?_
  rintro e w1 ⟨⟨v, rfl, hv⟩, G1⟩
  by_cases hz : v < 0
  · clear hv
    go_wp2
    go_ret
    exact ⟨rfl, (GB.trans GX).trans G1⟩
  obtain ⟨hS, hv1⟩ := hv hz
  clear hv
  have G := GX.trans G1
  obtain ⟨-, t0, t1, t2⟩ := tri_gr HT0.out G
  go_wp2_with fail
  refine (szEvent_any d s ea bs.length ecap v _ hs (by omega) hv1 hbl).mono ?_
  rintro e w2 ⟨⟨v2, rfl, hv2⟩, q2⟩
  replace G := G.trans q2
  clear q2 t0 t1 t2 GX G1
  by_cases hz2 : v2 < 0
  · clear hv2
    go_wp2
    go_ret
    exact ⟨rfl, GB.trans G⟩
  obtain ⟨-, hbn⟩ := hv2 hz2
  obtain ⟨RL, RC, hR1, hRS, hsp, him⟩ := hap_both1 ts d s bs hS hs hbn
  have HSX := hid hSX
  have HTX : Hid (∀ w', Gr ((w.alloc (.cells #[.slice xa ces.length xcap] 24)).alloc (.cells #[.bool d, .string s, .slice ea bs.length ecap] 30)) w' → Calls Tryz.prog 9 #[.agg #[.slice xa ces.length xcap]] w' fun e w'' => CopyX ces w'.heap.size e w'' ∧ Gr w' w'') := fun w' g => toIndex_any xa xcap ces w' (cells_gr hx (GB.trans g)) hSX
  have HTT : Hid (∀ w', Gr ((w.alloc (.cells #[.slice xa ces.length xcap] 24)).alloc (.cells #[.bool d, .string s, .slice ea bs.length ecap] 30)) w' → Calls Tryz.prog 10 #[.slice a ts.length cap] w' fun e w'' => CopyQ ts w'.heap.size e w'' ∧ Gr w' w'') := fun w' g => toTubeS_own a cap ts w' (tubes_gr ha (GB.trans g)) hS
  have HTE : Hid (∀ w', Gr ((w.alloc (.cells #[.slice xa ces.length xcap] 24)).alloc (.cells #[.bool d, .string s, .slice ea bs.length ecap] 30)) w' → Calls Tryz.prog 11 #[.agg #[.bool d, .string s, .slice ea bs.length ecap]] w' fun e w'' => (∃ g, e = .returned (.agg #[.bool d, .string s, .slice (some ⟨g, 0, none⟩) bs.length bs.length]) ∧ Owned w' w'' g bs) ∧ Gr w' w'') := fun w' g => toEvent_any d s ea ecap bs w' (boxes_gr hb (GB.trans g)) hbn
  have HSP : Hid (∀ (w' : World) (xv : Value) (a' : Option Addr) (cap' : Nat) (us : List Tb) (lo q tc : Nat), OwnT lo w' (.slice a' us.length cap') us → Made us → Like us ts → Boxes w' (some ⟨q, 0, none⟩) bs → Gr ((w.alloc (.cells #[.slice xa ces.length xcap] 24)).alloc (.cells #[.bool d, .string s, .slice ea bs.length ecap] 30)) w' → Calls Tryz.prog 8 #[.agg #[xv], .slice a' us.length cap', .agg #[.bool d, .string s, .slice (some ⟨q, 0, none⟩) bs.length tc]] w' fun e w'' => XQ RL w'.heap.size e w'' ∧ Gr w' w'') := fun w' xv a' cap' us lo q tc h1 h2 h3 h4 _ => specFollow_of xv a' cap' us d s q tc bs RL RC w' hR1 hRS (fun w'' g => hsp w'' a' cap' us lo q tc (ownT_gr h1 g) h2 h3 (boxes_gr h4 g))
  have HIM : Hid (∀ (w' : World) (xv : Value) (a' : Option Addr) (cap' : Nat) (us : List Tb) (lo q tc : Nat), OwnT lo w' (.slice a' us.length cap') us → Made us → Like us ts → Boxes w' (some ⟨q, 0, none⟩) bs → Gr ((w.alloc (.cells #[.slice xa ces.length xcap] 24)).alloc (.cells #[.bool d, .string s, .slice ea bs.length ecap] 30)) w' → Calls Tryz.prog 12 #[.agg #[xv], .slice a' us.length cap', .agg #[.bool d, .string s, .slice (some ⟨q, 0, none⟩) bs.length tc]] w' fun e w'' => XQ RL w'.heap.size e w'' ∧ Gr w' w'') := fun w' xv a' cap' us lo q tc h1 h2 h3 h4 h5 => implFollow_of xv a' cap' us d s q tc bs RL RC w' hRS (fun w'' g => him w'' a' cap' us lo q tc (ownT_gr h1 g) h2 h3 (boxes_gr h4 g) (errAt_gr hE ((GB.trans h5).trans g)))
  have HS : Hid (Small ts) := hS
  have HGB := hid GB
  generalize ((w.alloc (.cells #[.slice xa ces.length xcap] 24)).alloc (.cells #[.bool d, .string s, .slice ea bs.length ecap] 30)) = B at *
  generalize w.heap.size + 1 = bE at *
  generalize w.heap.size = bX at *
  clear hsp him hRS hS hE hv2 hv1 hz hz0 hb ha hF hs hbl GB hx hxF hSX hvx1 hR1
  have K1 : Hid (∀ w', Gr B w' → Gr B w' ∧ w'.cell? ⟨bX, 0, none⟩ = some (.slice xa ces.length xcap) ∧ w'.cell? ⟨bE, 0, none⟩ = some (.bool d) ∧ w'.cell? ⟨bE, 1, none⟩ = some (.string s) ∧ w'.cell? ⟨bE, 2, none⟩ = some (.slice ea bs.length ecap)) := fun w' h => ⟨h, (bx_gr HBX.out h).2, (tri_gr HT0.out h).2⟩
  obtain ⟨WQ, hWQ⟩ : ∃ x, x = w2 := ⟨_, rfl⟩
  subst hWQ
  go_upto_region 11 with fail
  clear hz2
  go_cut [8] (fun s8 wx => ∃ b a5 c5 cs5, s8 = .pointer (some ⟨b, 0, none⟩) ∧ Gr B wx ∧ Hid (BX wx b (.slice a5 (List.length (α := Cx) cs5) c5)) ∧ Hid (OwnX B.heap.size wx (.slice a5 cs5.length c5) cs5) ∧ Hid (IdxIs RL (idxOf cs5)))
  case first =>
    have hH := K1.out _ G.drew
    refine wp_region_held (S := fun w' => Gr B w' ∧ w'.cell? ⟨bX, 0, none⟩ = some (.slice xa ces.length xcap) ∧ w'.cell? ⟨bE, 0, none⟩ = some (.bool d) ∧ w'.cell? ⟨bE, 1, none⟩ = some (.string s) ∧ w'.cell? ⟨bE, 2, none⟩ = some (.slice ea bs.length ecap)) (by kernel_rfl) ?_
    change wpAnyH _ _ _ _ _ _ _ _ (World.drew _)
    refine takeI (i := 0) (d := 32) (v := .agg #[.slice xa ces.length xcap]) rfl rfl (by kernel_rfl) (by kernel_rfl) (by kernel_rfl) (fun _ _ _ h => h) hH (Or.inl ⟨by rfl, by rintro w' ⟨-, s0, s1, s2, s3⟩; go_simp⟩) ?_
    simp only [Act.put, List.setIfInBounds_toArray, List.set_cons_zero, List.set_cons_succ]
    refine takeI (i := 2) (d := 34) (v := .slice a ts.length cap) rfl rfl (by kernel_rfl) (by kernel_rfl) (by kernel_rfl) (fun _ _ _ h => h) hH (Or.inl ⟨by rfl, by rintro w' ⟨-, s0, s1, s2, s3⟩; go_simp⟩) ?_
    simp only [Act.put, List.setIfInBounds_toArray, List.set_cons_zero, List.set_cons_succ]
    refine takeI (i := 4) (d := 36) (v := .agg #[.bool d, .string s, .slice ea bs.length ecap]) rfl rfl (by kernel_rfl) (by kernel_rfl) (by kernel_rfl) (fun _ _ _ h => h) hH (Or.inl ⟨by rfl, by rintro w' ⟨-, s0, s1, s2, s3⟩; go_simp⟩) ?_
    simp only [Act.put, List.setIfInBounds_toArray, List.set_cons_zero, List.set_cons_succ]
    have GC := G.drew
    refine wpAnyH_ready (rs := [1, 7]) (by kernel_rfl) (by simp) ?_
    refine AllReadyH.cons (o := _) rfl (fun K hK => ?_) (AllReadyH.cons (o := _) rfl (fun K hK => ?_) AllReadyH.nil)
    · refine step_call rfl 9 #[.agg #[.slice xa ces.length xcap]] (by go_simp) (HTX.out _ GC) ?_
      rintro e w3 ⟨⟨q3, ds3, rfl, -, -, -⟩, Q3⟩
      refine ⟨_, rfl, ?_⟩
      replace GC := GC.trans Q3
      (try replace HO3 := hidE (ownT_gr HO3.out Q3))
      (try replace HO4 := hidE (boxes_gr HO4.out Q3))
      (try replace HX5 := hidE (ownX_gr HX5.out Q3))
      clear Q3
      refine hK.out _ _ (K1.out _ GC) (fun hH => ?_)
      clear hK K
      (try simp only [Act.put, List.setIfInBounds_toArray, List.set_cons_zero, List.set_cons_succ])
      refine wpAnyH_ready (rs := [3, 7]) (by kernel_rfl) (by simp) ?_
      refine AllReadyH.cons (o := _) rfl (fun K hK => ?_) (AllReadyH.cons (o := _) rfl (fun K hK => ?_) AllReadyH.nil)
      · refine step_call rfl 10 #[.slice a ts.length cap] (by go_simp) (HTT.out _ GC) ?_
        rintro e w4 ⟨⟨us3, rfl, hL3, hO3, hM3⟩, Q4⟩
        refine ⟨_, rfl, ?_⟩
        replace GC := GC.trans Q4
        (try replace HO3 := hidE (ownT_gr HO3.out Q4))
        (try replace HO4 := hidE (boxes_gr HO4.out Q4))
        (try replace HX5 := hidE (ownX_gr HX5.out Q4))
        have HO3 := hidE hO3
        have HM3 := hidE hM3
        have HL3 := hidE hL3
        clear hO3 hM3 hL3
        clear Q4
        refine hK.out _ _ (K1.out _ GC) (fun hH => ?_)
        clear hK K
        (try simp only [Act.put, List.setIfInBounds_toArray, List.set_cons_zero, List.set_cons_succ])
        refine wpAnyH_ready (rs := [5, 7]) (by kernel_rfl) (by simp) ?_
        refine AllReadyH.cons (o := _) rfl (fun K hK => ?_) (AllReadyH.cons (o := _) rfl (fun K hK => ?_) AllReadyH.nil)
        · refine step_call rfl 11 #[.agg #[.bool d, .string s, .slice ea bs.length ecap]] (by go_simp) (HTE.out _ GC) ?_
          rintro e w5 ⟨⟨g4, rfl, hO4⟩, Q5⟩
          refine ⟨_, rfl, ?_⟩
          replace GC := GC.trans Q5
          (try replace HO3 := hidE (ownT_gr HO3.out Q5))
          (try replace HO4 := hidE (boxes_gr HO4.out Q5))
          (try replace HX5 := hidE (ownX_gr HX5.out Q5))
          have HO4 := hidE hO4.2.2.2
          clear hO4
          clear Q5
          refine hK.out _ _ (K1.out _ GC) (fun hH => ?_)
          clear hK K
          (try simp only [Act.put, List.setIfInBounds_toArray, List.set_cons_zero, List.set_cons_succ])
          refine wpAnyH_ready (rs := [6, 7]) (by kernel_rfl) (by simp) ?_
          refine AllReadyH.cons (o := _) rfl (fun K hK => ?_) (AllReadyH.cons (o := _) rfl (fun K hK => ?_) AllReadyH.nil)
          · refine step_call rfl 8 #[.agg #[.slice (some ⟨q3, 0, none⟩) ds3.length ds3.length], .slice _ us3.length us3.length, .agg #[.bool d, .string s, .slice (some ⟨g4, 0, none⟩) bs.length bs.length]] (by go_simp) (HSP.out _ _ _ _ us3 _ g4 _ HO3.out HM3.out HL3.out HO4.out GC) ?_
            rintro e w6 ⟨⟨v5, cs5, rfl, hX5, hI5⟩, Q6⟩
            refine ⟨_, rfl, ?_⟩
            have hlo6 := GC.size
            replace GC := GC.trans Q6
            (try replace HO3 := hidE (ownT_gr HO3.out Q6))
            (try replace HO4 := hidE (boxes_gr HO4.out Q6))
            (try replace HX5 := hidE (ownX_gr HX5.out Q6))
            obtain ⟨a5, c5, e5⟩ := row_form hX5.row
            subst e5
            have HX5 := hidE (ownX_lo hX5 hlo6)
            have HI5 := hidE hI5
            clear hX5 hI5
            clear Q6
            refine hK.out _ _ (K1.out _ GC) (fun hH => ?_)
            clear hK K
            (try simp only [Act.put, List.setIfInBounds_toArray, List.set_cons_zero, List.set_cons_succ])
            refine wpAnyH_ready (rs := [7]) (by kernel_rfl) (by simp) ?_
            refine AllReadyH.cons (o := _) rfl (fun K hK => ?_) AllReadyH.nil
            go_simp
            have hb8 : B.heap.size ≤ w6.heap.size := GC.size
            have GCo := GC
            have HXo := HX5
            have HB8 : Hid (BZ (w6.alloc (.cells #[.slice none 0 0] 36)) w6.heap.size) := World.alloc_heap_new _ _
            have Q8 : Gr w6 (w6.alloc (.cells #[.slice none 0 0] 36)) := (Gr.refl _).alloc _
            replace GC := GC.trans Q8
            (try replace HO3 := hidE (ownT_gr HO3.out Q8))
            (try replace HO4 := hidE (boxes_gr HO4.out Q8))
            (try replace HX5 := hidE (ownX_gr HX5.out Q8))
            clear Q8
            refine hK.out _ _ (K1.out _ GC) (fun hH => ?_)
            clear hK K
            (try simp only [Act.put, List.setIfInBounds_toArray, List.set_cons_zero, List.set_cons_succ])
            refine wpAnyH_ready (rs := [8]) (by kernel_rfl) (by simp) ?_
            refine AllReadyH.cons (o := _) rfl (fun K hK => ?_) AllReadyH.nil
            have GZ : Gr B (w6.alloc (.cells #[.slice a5 cs5.length c5] 36)) := GCo.alloc _
            have HF8 : Hid (BX (w6.alloc (.cells #[.slice a5 cs5.length c5] 36)) w6.heap.size (.slice a5 cs5.length c5)) := bx_make _ _ _
            have HF9 := hidE (ownX_gr HXo.out ((Gr.refl w6).alloc (.cells #[.slice a5 cs5.length c5] 36)))
            go_simp
            refine hK.out _ _ (K1.out _ GZ) (fun hH => ?_)
            clear hK K
            (try simp only [Act.put, List.setIfInBounds_toArray, List.set_cons_zero, List.set_cons_succ])
            refine wpAnyH_done (by kernel_rfl) ?_ _
            go_wp2_with fail
            go_meet
            exact ⟨_, a5, c5, cs5, rfl, GZ, HF8, HF9, HI5⟩
          · go_simp
            have hb8 : B.heap.size ≤ w5.heap.size := GC.size
            have HB8 : Hid (BZ (w5.alloc (.cells #[.slice none 0 0] 36)) w5.heap.size) := World.alloc_heap_new _ _
            have Q8 : Gr w5 (w5.alloc (.cells #[.slice none 0 0] 36)) := (Gr.refl _).alloc _
            replace GC := GC.trans Q8
            (try replace HO3 := hidE (ownT_gr HO3.out Q8))
            (try replace HO4 := hidE (boxes_gr HO4.out Q8))
            (try replace HX5 := hidE (ownX_gr HX5.out Q8))
            clear Q8
            refine hK.out _ _ (K1.out _ GC) (fun hH => ?_)
            clear hK K
            (try simp only [Act.put, List.setIfInBounds_toArray, List.set_cons_zero, List.set_cons_succ])
            refine wpAnyH_ready (rs := [6]) (by kernel_rfl) (by simp) ?_
            refine AllReadyH.cons (o := _) rfl (fun K hK => ?_) AllReadyH.nil
            refine step_call rfl 8 #[.agg #[.slice (some ⟨q3, 0, none⟩) ds3.length ds3.length], .slice _ us3.length us3.length, .agg #[.bool d, .string s, .slice (some ⟨g4, 0, none⟩) bs.length bs.length]] (by go_simp) (HSP.out _ _ _ _ us3 _ g4 _ HO3.out HM3.out HL3.out HO4.out GC) ?_
            rintro e w6 ⟨⟨v5, cs5, rfl, hX5, hI5⟩, Q6⟩
            refine ⟨_, rfl, ?_⟩
            have hlo6 := GC.size
            replace GC := GC.trans Q6
            (try replace HO3 := hidE (ownT_gr HO3.out Q6))
            (try replace HO4 := hidE (boxes_gr HO4.out Q6))
            (try replace HX5 := hidE (ownX_gr HX5.out Q6))
            replace HB8 := hidE (bz_gr HB8.out Q6)
            obtain ⟨a5, c5, e5⟩ := row_form hX5.row
            subst e5
            have HX5 := hidE (ownX_lo hX5 hlo6)
            have HI5 := hidE hI5
            clear hX5 hI5
            clear Q6
            refine hK.out _ _ (K1.out _ GC) (fun hH => ?_)
            clear hK K
            (try simp only [Act.put, List.setIfInBounds_toArray, List.set_cons_zero, List.set_cons_succ])
            have k8 : w6.cell? ⟨w5.heap.size, 0, none⟩ = some (.slice none 0 0) := bz_cell HB8.out
            have f8 : w6.frozen? ⟨w5.heap.size, 0, none⟩ = false := bz_froz HB8.out
            have HF8 := hidE (bz_set HB8.out HX5.out).1
            have HF9 := hidE (bz_set HB8.out HX5.out).2
            have GZ : Gr B (w6.setCell ⟨w5.heap.size, 0, none⟩ (.slice a5 cs5.length c5)) := GC.setCell hb8 _
            refine wpAnyH_ready (rs := [8]) (by kernel_rfl) (by simp) ?_
            refine AllReadyH.cons (o := _) rfl (fun K hK => ?_) AllReadyH.nil
            go_simp
            refine hK.out _ _ (K1.out _ GZ) (fun hH => ?_)
            clear hK K k8 f8
            (try simp only [Act.put, List.setIfInBounds_toArray, List.set_cons_zero, List.set_cons_succ])
            refine wpAnyH_done (by kernel_rfl) ?_ _
            go_wp2_with fail
            go_meet
            exact ⟨_, a5, c5, cs5, rfl, GZ, HF8, HF9, HI5⟩
        · go_simp
          have hb8 : B.heap.size ≤ w4.heap.size := GC.size
          have HB8 : Hid (BZ (w4.alloc (.cells #[.slice none 0 0] 36)) w4.heap.size) := World.alloc_heap_new _ _
          have Q8 : Gr w4 (w4.alloc (.cells #[.slice none 0 0] 36)) := (Gr.refl _).alloc _
          replace GC := GC.trans Q8
          (try replace HO3 := hidE (ownT_gr HO3.out Q8))
          (try replace HO4 := hidE (boxes_gr HO4.out Q8))
          (try replace HX5 := hidE (ownX_gr HX5.out Q8))
          clear Q8
          refine hK.out _ _ (K1.out _ GC) (fun hH => ?_)
          clear hK K
          (try simp only [Act.put, List.setIfInBounds_toArray, List.set_cons_zero, List.set_cons_succ])
          refine wpAnyH_ready (rs := [5]) (by kernel_rfl) (by simp) ?_
          refine AllReadyH.cons (o := _) rfl (fun K hK => ?_) AllReadyH.nil
          refine step_call rfl 11 #[.agg #[.bool d, .string s, .slice ea bs.length ecap]] (by go_simp) (HTE.out _ GC) ?_
          rintro e w5 ⟨⟨g4, rfl, hO4⟩, Q5⟩
          refine ⟨_, rfl, ?_⟩
          replace GC := GC.trans Q5
          (try replace HO3 := hidE (ownT_gr HO3.out Q5))
          (try replace HO4 := hidE (boxes_gr HO4.out Q5))
          (try replace HX5 := hidE (ownX_gr HX5.out Q5))
          replace HB8 := hidE (bz_gr HB8.out Q5)
          have HO4 := hidE hO4.2.2.2
          clear hO4
          clear Q5
          refine hK.out _ _ (K1.out _ GC) (fun hH => ?_)
          clear hK K
          (try simp only [Act.put, List.setIfInBounds_toArray, List.set_cons_zero, List.set_cons_succ])
          refine wpAnyH_ready (rs := [6]) (by kernel_rfl) (by simp) ?_
          refine AllReadyH.cons (o := _) rfl (fun K hK => ?_) AllReadyH.nil
          refine step_call rfl 8 #[.agg #[.slice (some ⟨q3, 0, none⟩) ds3.length ds3.length], .slice _ us3.length us3.length, .agg #[.bool d, .string s, .slice (some ⟨g4, 0, none⟩) bs.length bs.length]] (by go_simp) (HSP.out _ _ _ _ us3 _ g4 _ HO3.out HM3.out HL3.out HO4.out GC) ?_
          rintro e w6 ⟨⟨v5, cs5, rfl, hX5, hI5⟩, Q6⟩
          refine ⟨_, rfl, ?_⟩
          have hlo6 := GC.size
          replace GC := GC.trans Q6
          (try replace HO3 := hidE (ownT_gr HO3.out Q6))
          (try replace HO4 := hidE (boxes_gr HO4.out Q6))
          (try replace HX5 := hidE (ownX_gr HX5.out Q6))
          replace HB8 := hidE (bz_gr HB8.out Q6)
          obtain ⟨a5, c5, e5⟩ := row_form hX5.row
          subst e5
          have HX5 := hidE (ownX_lo hX5 hlo6)
          have HI5 := hidE hI5
          clear hX5 hI5
          clear Q6
          refine hK.out _ _ (K1.out _ GC) (fun hH => ?_)
          clear hK K
          (try simp only [Act.put, List.setIfInBounds_toArray, List.set_cons_zero, List.set_cons_succ])
          have k8 : w6.cell? ⟨w4.heap.size, 0, none⟩ = some (.slice none 0 0) := bz_cell HB8.out
          have f8 : w6.frozen? ⟨w4.heap.size, 0, none⟩ = false := bz_froz HB8.out
          have HF8 := hidE (bz_set HB8.out HX5.out).1
          have HF9 := hidE (bz_set HB8.out HX5.out).2
          have GZ : Gr B (w6.setCell ⟨w4.heap.size, 0, none⟩ (.slice a5 cs5.length c5)) := GC.setCell hb8 _
          refine wpAnyH_ready (rs := [8]) (by kernel_rfl) (by simp) ?_
          refine AllReadyH.cons (o := _) rfl (fun K hK => ?_) AllReadyH.nil
          go_simp
          refine hK.out _ _ (K1.out _ GZ) (fun hH => ?_)
          clear hK K k8 f8
          (try simp only [Act.put, List.setIfInBounds_toArray, List.set_cons_zero, List.set_cons_succ])
          refine wpAnyH_done (by kernel_rfl) ?_ _
          go_wp2_with fail
          go_meet
          exact ⟨_, a5, c5, cs5, rfl, GZ, HF8, HF9, HI5⟩
      · go_simp
        have hb8 : B.heap.size ≤ w3.heap.size := GC.size
        have HB8 : Hid (BZ (w3.alloc (.cells #[.slice none 0 0] 36)) w3.heap.size) := World.alloc_heap_new _ _
        have Q8 : Gr w3 (w3.alloc (.cells #[.slice none 0 0] 36)) := (Gr.refl _).alloc _
        replace GC := GC.trans Q8
        (try replace HO3 := hidE (ownT_gr HO3.out Q8))
        (try replace HO4 := hidE (boxes_gr HO4.out Q8))
        (try replace HX5 := hidE (ownX_gr HX5.out Q8))
        clear Q8
        refine hK.out _ _ (K1.out _ GC) (fun hH => ?_)
        clear hK K
        (try simp only [Act.put, List.setIfInBounds_toArray, List.set_cons_zero, List.set_cons_succ])
        refine wpAnyH_ready (rs := [3]) (by kernel_rfl) (by simp) ?_
        refine AllReadyH.cons (o := _) rfl (fun K hK => ?_) AllReadyH.nil
        refine step_call rfl 10 #[.slice a ts.length cap] (by go_simp) (HTT.out _ GC) ?_
        rintro e w4 ⟨⟨us3, rfl, hL3, hO3, hM3⟩, Q4⟩
        refine ⟨_, rfl, ?_⟩
        replace GC := GC.trans Q4
        (try replace HO3 := hidE (ownT_gr HO3.out Q4))
        (try replace HO4 := hidE (boxes_gr HO4.out Q4))
        (try replace HX5 := hidE (ownX_gr HX5.out Q4))
        replace HB8 := hidE (bz_gr HB8.out Q4)
        have HO3 := hidE hO3
        have HM3 := hidE hM3
        have HL3 := hidE hL3
        clear hO3 hM3 hL3
        clear Q4
        refine hK.out _ _ (K1.out _ GC) (fun hH => ?_)
        clear hK K
        (try simp only [Act.put, List.setIfInBounds_toArray, List.set_cons_zero, List.set_cons_succ])
        refine wpAnyH_ready (rs := [5]) (by kernel_rfl) (by simp) ?_
        refine AllReadyH.cons (o := _) rfl (fun K hK => ?_) AllReadyH.nil
        refine step_call rfl 11 #[.agg #[.bool d, .string s, .slice ea bs.length ecap]] (by go_simp) (HTE.out _ GC) ?_
        rintro e w5 ⟨⟨g4, rfl, hO4⟩, Q5⟩
        refine ⟨_, rfl, ?_⟩
        replace GC := GC.trans Q5
        (try replace HO3 := hidE (ownT_gr HO3.out Q5))
        (try replace HO4 := hidE (boxes_gr HO4.out Q5))
        (try replace HX5 := hidE (ownX_gr HX5.out Q5))
        replace HB8 := hidE (bz_gr HB8.out Q5)
        have HO4 := hidE hO4.2.2.2
        clear hO4
        clear Q5
        refine hK.out _ _ (K1.out _ GC) (fun hH => ?_)
        clear hK K
        (try simp only [Act.put, List.setIfInBounds_toArray, List.set_cons_zero, List.set_cons_succ])
        refine wpAnyH_ready (rs := [6]) (by kernel_rfl) (by simp) ?_
        refine AllReadyH.cons (o := _) rfl (fun K hK => ?_) AllReadyH.nil
        refine step_call rfl 8 #[.agg #[.slice (some ⟨q3, 0, none⟩) ds3.length ds3.length], .slice _ us3.length us3.length, .agg #[.bool d, .string s, .slice (some ⟨g4, 0, none⟩) bs.length bs.length]] (by go_simp) (HSP.out _ _ _ _ us3 _ g4 _ HO3.out HM3.out HL3.out HO4.out GC) ?_
        rintro e w6 ⟨⟨v5, cs5, rfl, hX5, hI5⟩, Q6⟩
        refine ⟨_, rfl, ?_⟩
        have hlo6 := GC.size
        replace GC := GC.trans Q6
        (try replace HO3 := hidE (ownT_gr HO3.out Q6))
        (try replace HO4 := hidE (boxes_gr HO4.out Q6))
        (try replace HX5 := hidE (ownX_gr HX5.out Q6))
        replace HB8 := hidE (bz_gr HB8.out Q6)
        obtain ⟨a5, c5, e5⟩ := row_form hX5.row
        subst e5
        have HX5 := hidE (ownX_lo hX5 hlo6)
        have HI5 := hidE hI5
        clear hX5 hI5
        clear Q6
        refine hK.out _ _ (K1.out _ GC) (fun hH => ?_)
        clear hK K
        (try simp only [Act.put, List.setIfInBounds_toArray, List.set_cons_zero, List.set_cons_succ])
        have k8 : w6.cell? ⟨w3.heap.size, 0, none⟩ = some (.slice none 0 0) := bz_cell HB8.out
        have f8 : w6.frozen? ⟨w3.heap.size, 0, none⟩ = false := bz_froz HB8.out
        have HF8 := hidE (bz_set HB8.out HX5.out).1
        have HF9 := hidE (bz_set HB8.out HX5.out).2
        have GZ : Gr B (w6.setCell ⟨w3.heap.size, 0, none⟩ (.slice a5 cs5.length c5)) := GC.setCell hb8 _
        refine wpAnyH_ready (rs := [8]) (by kernel_rfl) (by simp) ?_
        refine AllReadyH.cons (o := _) rfl (fun K hK => ?_) AllReadyH.nil
        go_simp
        refine hK.out _ _ (K1.out _ GZ) (fun hH => ?_)
        clear hK K k8 f8
        (try simp only [Act.put, List.setIfInBounds_toArray, List.set_cons_zero, List.set_cons_succ])
        refine wpAnyH_done (by kernel_rfl) ?_ _
        go_wp2_with fail
        go_meet
        exact ⟨_, a5, c5, cs5, rfl, GZ, HF8, HF9, HI5⟩
    · go_simp
      have hb8 : B.heap.size ≤ WQ.heap.size := GC.size
      have HB8 : Hid (BZ ((WQ.alloc (.cells #[.slice none 0 0] 36)).drew) WQ.heap.size) := World.alloc_heap_new _ _
      replace GC : Gr B ((WQ.alloc (.cells #[.slice none 0 0] 36)).drew) := (G.alloc _).drew
      refine hK.out _ _ (K1.out _ GC) (fun hH => ?_)
      clear hK K
      (try simp only [Act.put, List.setIfInBounds_toArray, List.set_cons_zero, List.set_cons_succ])
      refine wpAnyH_ready (rs := [1]) (by kernel_rfl) (by simp) ?_
      refine AllReadyH.cons (o := _) rfl (fun K hK => ?_) AllReadyH.nil
      refine step_call rfl 9 #[.agg #[.slice xa ces.length xcap]] (by go_simp) (HTX.out _ GC) ?_
      rintro e w3 ⟨⟨q3, ds3, rfl, -, -, -⟩, Q3⟩
      refine ⟨_, rfl, ?_⟩
      replace GC := GC.trans Q3
      (try replace HO3 := hidE (ownT_gr HO3.out Q3))
      (try replace HO4 := hidE (boxes_gr HO4.out Q3))
      (try replace HX5 := hidE (ownX_gr HX5.out Q3))
      replace HB8 := hidE (bz_gr HB8.out Q3)
      clear Q3
      refine hK.out _ _ (K1.out _ GC) (fun hH => ?_)
      clear hK K
      (try simp only [Act.put, List.setIfInBounds_toArray, List.set_cons_zero, List.set_cons_succ])
      refine wpAnyH_ready (rs := [3]) (by kernel_rfl) (by simp) ?_
      refine AllReadyH.cons (o := _) rfl (fun K hK => ?_) AllReadyH.nil
      refine step_call rfl 10 #[.slice a ts.length cap] (by go_simp) (HTT.out _ GC) ?_
      rintro e w4 ⟨⟨us3, rfl, hL3, hO3, hM3⟩, Q4⟩
      refine ⟨_, rfl, ?_⟩
      replace GC := GC.trans Q4
      (try replace HO3 := hidE (ownT_gr HO3.out Q4))
      (try replace HO4 := hidE (boxes_gr HO4.out Q4))
      (try replace HX5 := hidE (ownX_gr HX5.out Q4))
      replace HB8 := hidE (bz_gr HB8.out Q4)
      have HO3 := hidE hO3
      have HM3 := hidE hM3
      have HL3 := hidE hL3
      clear hO3 hM3 hL3
      clear Q4
      refine hK.out _ _ (K1.out _ GC) (fun hH => ?_)
      clear hK K
      (try simp only [Act.put, List.setIfInBounds_toArray, List.set_cons_zero, List.set_cons_succ])
      refine wpAnyH_ready (rs := [5]) (by kernel_rfl) (by simp) ?_
      refine AllReadyH.cons (o := _) rfl (fun K hK => ?_) AllReadyH.nil
      refine step_call rfl 11 #[.agg #[.bool d, .string s, .slice ea bs.length ecap]] (by go_simp) (HTE.out _ GC) ?_
      rintro e w5 ⟨⟨g4, rfl, hO4⟩, Q5⟩
      refine ⟨_, rfl, ?_⟩
      replace GC := GC.trans Q5
      (try replace HO3 := hidE (ownT_gr HO3.out Q5))
      (try replace HO4 := hidE (boxes_gr HO4.out Q5))
      (try replace HX5 := hidE (ownX_gr HX5.out Q5))
      replace HB8 := hidE (bz_gr HB8.out Q5)
      have HO4 := hidE hO4.2.2.2
      clear hO4
      clear Q5
      refine hK.out _ _ (K1.out _ GC) (fun hH => ?_)
      clear hK K
      (try simp only [Act.put, List.setIfInBounds_toArray, List.set_cons_zero, List.set_cons_succ])
      refine wpAnyH_ready (rs := [6]) (by kernel_rfl) (by simp) ?_
      refine AllReadyH.cons (o := _) rfl (fun K hK => ?_) AllReadyH.nil
      refine step_call rfl 8 #[.agg #[.slice (some ⟨q3, 0, none⟩) ds3.length ds3.length], .slice _ us3.length us3.length, .agg #[.bool d, .string s, .slice (some ⟨g4, 0, none⟩) bs.length bs.length]] (by go_simp) (HSP.out _ _ _ _ us3 _ g4 _ HO3.out HM3.out HL3.out HO4.out GC) ?_
      rintro e w6 ⟨⟨v5, cs5, rfl, hX5, hI5⟩, Q6⟩
      refine ⟨_, rfl, ?_⟩
      have hlo6 := GC.size
      replace GC := GC.trans Q6
      (try replace HO3 := hidE (ownT_gr HO3.out Q6))
      (try replace HO4 := hidE (boxes_gr HO4.out Q6))
      (try replace HX5 := hidE (ownX_gr HX5.out Q6))
      replace HB8 := hidE (bz_gr HB8.out Q6)
      obtain ⟨a5, c5, e5⟩ := row_form hX5.row
      subst e5
      have HX5 := hidE (ownX_lo hX5 hlo6)
      have HI5 := hidE hI5
      clear hX5 hI5
      clear Q6
      refine hK.out _ _ (K1.out _ GC) (fun hH => ?_)
      clear hK K
      (try simp only [Act.put, List.setIfInBounds_toArray, List.set_cons_zero, List.set_cons_succ])
      have k8 : w6.cell? ⟨WQ.heap.size, 0, none⟩ = some (.slice none 0 0) := bz_cell HB8.out
      have f8 : w6.frozen? ⟨WQ.heap.size, 0, none⟩ = false := bz_froz HB8.out
      have HF8 := hidE (bz_set HB8.out HX5.out).1
      have HF9 := hidE (bz_set HB8.out HX5.out).2
      have GZ : Gr B (w6.setCell ⟨WQ.heap.size, 0, none⟩ (.slice a5 cs5.length c5)) := GC.setCell hb8 _
      refine wpAnyH_ready (rs := [8]) (by kernel_rfl) (by simp) ?_
      refine AllReadyH.cons (o := _) rfl (fun K hK => ?_) AllReadyH.nil
      go_simp
      refine hK.out _ _ (K1.out _ GZ) (fun hH => ?_)
      clear hK K k8 f8
      (try simp only [Act.put, List.setIfInBounds_toArray, List.set_cons_zero, List.set_cons_succ])
      refine wpAnyH_done (by kernel_rfl) ?_ _
      go_wp2_with fail
      go_meet
      exact ⟨_, a5, c5, cs5, rfl, GZ, HF8, HF9, HI5⟩
  obtain ⟨b8, a5, c5, cs5, rfl, G, HB8, HX5, HI5⟩ := hcut
  obtain ⟨wA, hA⟩ : ∃ x, x = wc := ⟨_, rfl⟩
  subst hA
  have HGC := hid G
  obtain ⟨-, x0⟩ := bx_gr HBX.out G
  clear HSP
  go_wp2_with fail
  (with_reducible refine Calls.mono (HTX.out _ G) ?_)
  rintro e w6 ⟨⟨q6, ds6, rfl, hI6, hO6, -⟩, q6g⟩
  have q6a : Gr w6 (w6.alloc (.cells #[.slice (some ⟨q6, 0, none⟩) ds6.length ds6.length] 36)) := (Gr.refl _).alloc _
  have B9 := bx_make w6 (.slice (some ⟨q6, 0, none⟩) ds6.length ds6.length) 36
  have n6 := q6g.size
  have hsP : (w6.alloc (.cells #[.slice (some ⟨q6, 0, none⟩) ds6.length ds6.length] 36)).heap.size = w6.heap.size + 1 := by simp
  have H6 := hid (ownX_hi hO6)
  have HX0 := hid (ownX_gr hO6 q6a)
  have HI6 := hid hI6
  have C : Gr wA (w6.alloc (.cells #[.slice (some ⟨q6, 0, none⟩) ds6.length ds6.length] 36)) := q6g.trans q6a
  clear x0 hO6 hI6 q6g q6a G
  go_wp2_with fail
  (with_reducible refine Calls.mono (HTT.out _ (HGC.out.trans C)) ?_)
  rintro e w7 ⟨⟨us7, rfl, hL7, hO7, hM7⟩, q7⟩
  rw [hsP] at hO7
  have H7 := hid (own_hi hO7)
  have n7 := q7.size
  rw [hsP] at n7
  replace B9 := bx_gr B9 q7
  replace HX0 := hid (ownX_gr HX0.out q7)
  have HX1 := hid hO7
  have HM7 := hid hM7
  have HL7 := hid hL7
  replace C := C.trans q7
  obtain ⟨-, t0, t1, t2⟩ := tri_gr HT0.out (HGC.out.trans C)
  clear hO7 hM7 hL7 q7
  go_wp2_with fail
  (with_reducible refine Calls.mono (HTE.out _ (HGC.out.trans C)) ?_)
  rintro e w8 ⟨⟨g8, rfl, hO8⟩, q8⟩
  have q8a : Gr w8 (w8.alloc (.cells #[.bool d, .string s, .slice (some ⟨g8, 0, none⟩) bs.length bs.length] 45)) := (Gr.refl _).alloc _
  have TX8 := tri_make w8 (.bool d) (.string s) (.slice (some ⟨g8, 0, none⟩) bs.length bs.length) 45
  have hI8 : InT w7.heap.size w8 (⟨s, some ⟨g8, 0, none⟩, bs.length, bs⟩ : Tb) := owned_inT hO8
  have n8 := q8.size
  have n8g := (id hO8).1
  have n8h := (id hO8).2.1
  have hsR : (w8.alloc (.cells #[.bool d, .string s, .slice (some ⟨g8, 0, none⟩) bs.length bs.length] 45)).heap.size = w8.heap.size + 1 := by simp
  replace B9 := bx_gr B9 (q8.trans q8a)
  replace HX0 := hid (ownX_gr HX0.out (q8.trans q8a))
  replace HX1 := hid (ownT_gr HX1.out (q8.trans q8a))
  have HI8 := hid (inT_gr hI8 q8a)
  replace C := C.trans (q8.trans q8a)
  have x9 := B9.2
  clear t0 t1 t2 hO8 hI8 q8 q8a
  go_upto_region 15 with fail
  generalize hwR : w8.alloc (.cells #[.bool d, .string s, .slice (some ⟨g8, 0, none⟩) bs.length bs.length] 45) = wR at *
  clear hwR
  obtain ⟨-, y0, y1, y2⟩ := id TX8
  go_wp2_with fail
  have hJ8 := HI8.out.2
  (with_reducible refine Calls.mono (HIM.out _ _ _ _ us7 _ g8 _ HX1.out HM7.out HL7.out hJ8 (HGC.out.trans C)) ?_)
  clear hJ8
  rintro e w9 ⟨⟨v9, cs9, rfl, hX9, hI9⟩, q9⟩
  obtain ⟨a9, c9, e9⟩ := row_form hX9.row
  subst e9
  have n9 := q9.size
  rw [hsR] at n9
  have q9a : Gr w9 (w9.alloc (.cells #[.slice a9 cs9.length c9] 36)) := (Gr.refl _).alloc _
  have B12 := bx_make w9 (.slice a9 cs9.length c9) 36
  replace B9 := bx_gr B9 (q9.trans q9a)
  replace TX8 := tri_gr TX8 (q9.trans q9a)
  replace HX0 := hid (ownX_gr HX0.out (q9.trans q9a))
  replace HX1 := hid (ownT_gr HX1.out (q9.trans q9a))
  replace HI8 := hid (inT_gr HI8.out (q9.trans q9a))
  rw [hsR] at hX9
  have H9 := hid (ownX_hi hX9)
  have HG0 := hid (ownX_gr hX9 q9a)
  replace C := C.trans (q9.trans q9a)
  have HI9 := hid hI9
  have HSM9 := hid (idxIs_small hI9)
  have HEQ := hid (idxIs_one HI9.out HI5.out)
  have B8 := bx_gr HB8.out C
  have x8 := B8.2
  have x12 := B12.2
  clear x9 y0 y1 y2 hX9 hI9 q9 q9a
  go_upto_region 16 with fail
  generalize hwT : w9.alloc (.cells #[.slice a9 cs9.length c9] 36) = wT at *
  clear hwT
  go_wp2_with fail
  refine (eqIndex_same _ _ _ _ cs9 cs5 _ HG0.out (ownX_gr HX5.out C) HEQ.out HSM9.out.1 HSM9.out.2).mono ?_
  rintro e w10 ⟨rfl, q10⟩
  replace B9 := bx_gr B9 q10
  replace B12 := bx_gr B12 q10
  replace TX8 := tri_gr TX8 q10
  replace HX0 := hid (ownX_gr HX0.out q10)
  replace HX1 := hid (ownT_gr HX1.out q10)
  replace HI8 := hid (inT_gr HI8.out q10)
  replace HG0 := hid (ownX_gr HG0.out q10)
  replace C := C.trans q10
  clear q10 x8 x12 B8
  have HSM6 := hid (smallX_like HI6.out HSX.out)
  have K2 : Hid (∀ w', Gr w10 w' → Gr w10 w' ∧ w'.cell? ⟨w6.heap.size, 0, none⟩ = some (.slice (some ⟨q6, 0, none⟩) ds6.length ds6.length) ∧ w'.cell? ⟨bX, 0, none⟩ = some (.slice xa ces.length xcap)) := fun w' h => ⟨h, (bx_gr B9 h).2, (bx_gr HBX.out (HGC.out.trans (C.trans h))).2⟩
  have HTX2 : Hid (∀ w', Gr w10 w' → Calls Tryz.prog 9 #[.agg #[.slice xa ces.length xcap]] w' fun e w'' => CopyX ces w'.heap.size e w'' ∧ Gr w' w'') := fun w' g => HTX.out w' (HGC.out.trans (C.trans g))
  have HEX : Hid (∀ w', Gr w10 w' → ∀ (lo q : Nat) (ds : List Cx), OwnX lo w' (.slice (some ⟨q, 0, none⟩) ds.length ds.length) ds → idxOf ds = ceIdx ces → Calls Tryz.prog 13 #[.agg #[.slice (some ⟨q6, 0, none⟩) ds6.length ds6.length], .agg #[.slice (some ⟨q, 0, none⟩) ds.length ds.length]] w' fun e w'' => e = .returned (.bool true) ∧ Gr w' w'') := fun w' g lo q ds h1 h2 => eqIndex_same _ _ _ _ ds6 ds w' (ownX_gr HX0.out g) h1 (HI6.out.trans h2.symm) HSM6.out.1.1 HSM6.out.1.2
  have G0 := Gr.refl w10
  go_upto_region 18 with fail
  go_cut [57] (fun s57 wx => s57 = .bool false ∧ Gr w10 wx)
  case first =>
    go_region_held3 (fun w' => Gr w10 w' ∧ w'.cell? ⟨w6.heap.size, 0, none⟩ = some (.slice (some ⟨q6, 0, none⟩) ds6.length ds6.length) ∧ w'.cell? ⟨bX, 0, none⟩ = some (.slice xa ces.length xcap))
      ((refine K2.out _ ?_; repeat (first | with_reducible exact G0 | with_reducible assumption | with_reducible exact And.left (by assumption) | with_reducible refine Gr.drew ?_ | with_reducible refine Gr.alloc ?_ _)))
      (first
        | (go_at_call 9; (with_reducible refine Calls.mono (HTX2.out _ (And.left (by assumption))) ?_); rintro e w12 ⟨⟨q12, ds12, rfl, hI12, hO12, -⟩, q12g⟩; have G12 := Gr.trans (And.left (by assumption)) q12g; have HO12 := hid hO12; have HI12 := hid hI12; clear hO12 hI12)
        | (go_at_call 13; (with_reducible refine Calls.mono (HEX.out _ (And.left (by assumption)) _ q12 ds12 (by first | exact HO12.out | exact ownX_gr HO12.out (Gr.drew (Gr.refl _))) HI12.out) ?_); rintro e w13 ⟨rfl, q13⟩; have G13 := Gr.trans (And.left (by assumption)) q13))
    all_goals (go_wp2_with fail; go_meet)
    all_goals exact ⟨rfl, G13⟩
  obtain ⟨rfl, q13⟩ := hcut
  replace B9 := bx_gr B9 q13
  replace B12 := bx_gr B12 q13
  replace TX8 := tri_gr TX8 q13
  replace HX0 := hid (ownX_gr HX0.out q13)
  replace HX1 := hid (ownT_gr HX1.out q13)
  replace HI8 := hid (inT_gr HI8.out q13)
  replace HG0 := hid (ownX_gr HG0.out q13)
  replace C := C.trans q13
  clear q13 K2 HTX2 HEX G0
  obtain ⟨wB, hB⟩ : ∃ x, x = wc := ⟨_, rfl⟩
  subst hB
  go_wp2_with fail
  (with_reducible refine Calls.mono (HTT.out _ (HGC.out.trans C)) ?_)
  rintro e w14 ⟨⟨us14, rfl, hL14, hO14, -⟩, q14⟩
  go_wp2_with fail
  refine (eqTubeS_same _ _ _ _ us7 us14 _ (own_tub (ownT_gr HX1.out q14)) (own_tub hO14) (like_two HL7.out hL14) (small_like HL7.out HS.out)).mono ?_
  rintro e w15 ⟨rfl, q15⟩
  replace B9 := bx_gr B9 (q14.trans q15)
  replace B12 := bx_gr B12 (q14.trans q15)
  replace TX8 := tri_gr TX8 (q14.trans q15)
  replace HX0 := hid (ownX_gr HX0.out (q14.trans q15))
  replace HX1 := hid (ownT_gr HX1.out (q14.trans q15))
  replace HI8 := hid (inT_gr HI8.out (q14.trans q15))
  replace HG0 := hid (ownX_gr HG0.out (q14.trans q15))
  replace C := C.trans (q14.trans q15)
  clear q14 q15 hL14 hO14
  have K2 : Hid (∀ w', Gr w15 w' → Gr w15 w' ∧ (w'.cell? ⟨bE, 0, none⟩ = some (.bool d) ∧ w'.cell? ⟨bE, 1, none⟩ = some (.string s) ∧ w'.cell? ⟨bE, 2, none⟩ = some (.slice ea bs.length ecap)) ∧ (w'.cell? ⟨w8.heap.size, 0, none⟩ = some (.bool d) ∧ w'.cell? ⟨w8.heap.size, 1, none⟩ = some (.string s) ∧ w'.cell? ⟨w8.heap.size, 2, none⟩ = some (.slice (some ⟨g8, 0, none⟩) bs.length bs.length))) := fun w' h => ⟨h, (tri_gr HT0.out (HGC.out.trans (C.trans h))).2, (tri_gr TX8 h).2⟩
  have HTE2 : Hid (∀ w', Gr w15 w' → Calls Tryz.prog 11 #[.agg #[.bool d, .string s, .slice ea bs.length ecap]] w' fun e w'' => (∃ g, e = .returned (.agg #[.bool d, .string s, .slice (some ⟨g, 0, none⟩) bs.length bs.length]) ∧ Owned w' w'' g bs) ∧ Gr w' w'') := fun w' g => HTE.out w' (HGC.out.trans (C.trans g))
  have HB7 : Hid (∀ w', Gr w15 w' → Boxes w' (some ⟨g8, 0, none⟩) bs) := fun w' g => boxes_gr HI8.out.2 g
  have G0 := Gr.refl w15
  go_upto_region 22 with fail
  go_cut [67] (fun s67 wx => s67 = .bool false ∧ Gr w15 wx)
  case first =>
    go_region_held3 (fun w' => Gr w15 w' ∧ (w'.cell? ⟨bE, 0, none⟩ = some (.bool d) ∧ w'.cell? ⟨bE, 1, none⟩ = some (.string s) ∧ w'.cell? ⟨bE, 2, none⟩ = some (.slice ea bs.length ecap)) ∧ (w'.cell? ⟨w8.heap.size, 0, none⟩ = some (.bool d) ∧ w'.cell? ⟨w8.heap.size, 1, none⟩ = some (.string s) ∧ w'.cell? ⟨w8.heap.size, 2, none⟩ = some (.slice (some ⟨g8, 0, none⟩) bs.length bs.length)))
      ((refine K2.out _ ?_; repeat (first | with_reducible exact G0 | with_reducible assumption | with_reducible exact And.left (by assumption) | with_reducible refine Gr.drew ?_ | with_reducible refine Gr.alloc ?_ _)))
      (first
        | (go_at_call 11; (with_reducible refine Calls.mono (HTE2.out _ (And.left (by assumption))) ?_); rintro e w12 ⟨⟨g12, rfl, hO12⟩, q12⟩; have G12 := Gr.trans (And.left (by assumption)) q12; have HO12 := hid hO12.2.2.2; clear hO12)
        | (go_at_call 15; (with_reducible refine Calls.mono (eqEvent_same d s _ _ _ _ bs _ (HB7.out _ (And.left (by assumption))) (by first | exact HO12.out | exact boxes_gr HO12.out (Gr.drew (Gr.refl _))) hbn) ?_); rintro e w13 ⟨rfl, q13⟩; have G13 := Gr.trans (And.left (by assumption)) q13))
    all_goals (go_wp2_with fail; go_meet)
    all_goals exact ⟨rfl, G13⟩
  obtain ⟨rfl, q13⟩ := hcut
  replace B9 := bx_gr B9 q13
  replace B12 := bx_gr B12 q13
  replace TX8 := tri_gr TX8 q13
  replace HX0 := hid (ownX_gr HX0.out q13)
  replace HX1 := hid (ownT_gr HX1.out q13)
  replace HI8 := hid (inT_gr HI8.out q13)
  replace HG0 := hid (ownX_gr HG0.out q13)
  replace C := C.trans q13
  clear q13 K2 HTE2 HB7 G0
  obtain ⟨wD, hD⟩ : ∃ x, x = wc := ⟨_, rfl⟩
  subst hD
  have x9 := B9.2
  go_wp2_with fail
  refine (markIndex_any _ w6.heap.size _ ds6 _ HX0.out H6.out HSM6.out.1).mono ?_
  rintro e w16 ⟨rfl, -, m16⟩
  replace B12 := bx_rm B12 m16 (by omega)
  replace TX8 := tri_rm TX8 m16 (by omega)
  replace HX1 := hid (ownT_rm HX1.out m16 (by omega))
  replace HI8 := hid (inT_rm HI8.out m16 (fun q e => by simp only [Tb.blk, Option.map_some, Option.some.injEq] at e; omega))
  replace HG0 := hid (ownX_rm HG0.out m16 (Or.inl (by omega)))
  replace C := gr_rm C m16 (Nat.le_refl _)
  have hk6a := HSM6.out.2.1
  have hk6b := HSM6.out.2.2
  generalize endX 1 ds6 = K6 at *
  clear x9 m16 HX0 H6 B9
  go_wp2_with fail
  refine (markTubeS_gen _ w7.heap.size _ us7 K6 _ HX1.out H7.out (small_like HL7.out HS.out) hk6b hk6a).mono ?_
  rintro e w17 ⟨rfl, -, m17⟩
  replace B12 := bx_rm B12 m17 (by omega)
  replace TX8 := tri_rm TX8 m17 (by omega)
  replace HI8 := hid (inT_rm HI8.out m17 (fun q e => by simp only [Tb.blk, Option.map_some, Option.some.injEq] at e; omega))
  replace HG0 := hid (ownX_rm HG0.out m17 (Or.inl (by omega)))
  replace C := gr_rm C m17 (by omega)
  obtain ⟨-, t0, t1, t2⟩ := TX8
  have hk7 := endK_le K6 us7 (small_mem (small_like HL7.out HS.out)).2
  have hl7 := (small_like HL7.out HS.out).1
  generalize endK K6 us7 = K7 at *
  have hk70 : 0 ≤ K7 := by omega
  have hk71 : K7 ≤ 10000000000000 := by omega
  have hk72 : ¬ K7 + 6 * (bs.length : Int) < 0 := by omega
  obtain ⟨-, -, -, hgl, hro⟩ := HI8.out.1 g8 0 none rfl
  clear hk7 hl7 HX1 H7 HL7 HI8 m17 hk6a hk6b HM7
  go_wp2_with fail
  refine (markEvent_own d s g8 bs.length bs.length K7 _ hro hgl hbn hk70 hk71).mono ?_
  rintro e wE ⟨rfl, mE⟩
  replace B12 := bx_rm B12 mE (by omega)
  replace HG0 := hid (ownX_rm HG0.out mE (Or.inl (by omega)))
  replace C := gr_rm C mE (by omega)
  have B8 := bx_gr HB8.out C
  have x8 := B8.2
  have x12 := B12.2
  clear mE t0 t1 t2 hro hgl hk70 hk71 B8
  go_wp2_with fail
  refine (eqIndex_same _ _ _ _ cs9 cs5 _ HG0.out (ownX_gr HX5.out C) HEQ.out HSM9.out.1 HSM9.out.2).mono ?_
  rintro e wF ⟨rfl, qF⟩
  replace B12 := bx_gr B12 qF
  replace HG0 := hid (ownX_gr HG0.out qF)
  replace C := C.trans qF
  clear qF x8 x12
  have x12 := B12.2
  go_wp2_with fail
  refine (markIndex_any _ w9.heap.size _ cs9 _ HG0.out H9.out HSM9.out).mono ?_
  rintro e wG ⟨rfl, hMG, mG⟩
  replace B12 := bx_rm B12 mG (by omega)
  replace C := gr_rm C mG (by omega)
  have HM := hid hMG
  have hk9 := (endX_le 1 cs9 HSM9.out.2).1
  have HHE : Hid (∀ w', OwnX (w8.heap.size + 1) w' (.slice a9 cs9.length c9) (markX 1 cs9) → Calls Tryz.prog 19 #[.agg #[.slice a9 cs9.length c9], .int .i64 1] w' fun e w'' => e = .returned (.int .i64 (endX 1 cs9)) ∧ Gr w' w'') := fun w' h => heldIndex_any _ _ cs9 w' h HSM9.out
  generalize endX 1 cs9 = K9 at *
  have hk90 : ¬ K9 < 0 := by omega
  clear x12 mG hMG HG0 H9 hk9 hk72
  have x12 := B12.2
  go_wp2_with fail
  (with_reducible refine Calls.mono (HHE.out _ HM.out) ?_)
  rintro e w18 ⟨rfl, q18⟩
  replace HM := hid (ownX_gr HM.out q18)
  replace B12 := bx_gr B12 q18
  replace C := C.trans q18
  clear q18 x12
  have K3 : Hid (∀ w', Gr w18 w' → Gr w18 w' ∧ w'.cell? ⟨bX, 0, none⟩ = some (.slice xa ces.length xcap) ∧ w'.cell? ⟨bE, 0, none⟩ = some (.bool d) ∧ w'.cell? ⟨bE, 1, none⟩ = some (.string s) ∧ w'.cell? ⟨bE, 2, none⟩ = some (.slice ea bs.length ecap)) := fun w' h => ⟨h, (bx_gr HBX.out (HGC.out.trans (C.trans h))).2, (tri_gr HT0.out (HGC.out.trans (C.trans h))).2⟩
  have HTX3 : Hid (∀ w', Gr w18 w' → Calls Tryz.prog 9 #[.agg #[.slice xa ces.length xcap]] w' fun e w'' => CopyX ces w'.heap.size e w'' ∧ Gr w' w'') := fun w' g => HTX.out w' (HGC.out.trans (C.trans g))
  have HTT3 : Hid (∀ w', Gr w18 w' → Calls Tryz.prog 10 #[.slice a ts.length cap] w' fun e w'' => CopyQ ts w'.heap.size e w'' ∧ Gr w' w'') := fun w' g => HTT.out w' (HGC.out.trans (C.trans g))
  have HTE3 : Hid (∀ w', Gr w18 w' → Calls Tryz.prog 11 #[.agg #[.bool d, .string s, .slice ea bs.length ecap]] w' fun e w'' => (∃ g, e = .returned (.agg #[.bool d, .string s, .slice (some ⟨g, 0, none⟩) bs.length bs.length]) ∧ Owned w' w'' g bs) ∧ Gr w' w'') := fun w' g => HTE.out w' (HGC.out.trans (C.trans g))
  have HIM3 : Hid (∀ (w' : World) (xv : Value) (a' : Option Addr) (cap' : Nat) (us : List Tb) (lo q tc : Nat), OwnT lo w' (.slice a' us.length cap') us → Made us → Like us ts → Boxes w' (some ⟨q, 0, none⟩) bs → Gr w18 w' → Calls Tryz.prog 12 #[.agg #[xv], .slice a' us.length cap', .agg #[.bool d, .string s, .slice (some ⟨q, 0, none⟩) bs.length tc]] w' fun e w'' => XQ RL w'.heap.size e w'' ∧ Gr w' w'') := fun w' xv a' cap' us lo q tc h1 h2 h3 h4 h5 => HIM.out w' xv a' cap' us lo q tc h1 h2 h3 h4 (HGC.out.trans (C.trans h5))
  have G0 := Gr.refl w18
  go_upto_region 38 with fail
  go_cut [16] (fun s8 wx => ∃ b a5 c5 cs5, s8 = .pointer (some ⟨b, 0, none⟩) ∧ Gr w18 wx ∧ Hid (BX wx b (.slice a5 (List.length (α := Cx) cs5) c5)) ∧ Hid (OwnX w18.heap.size wx (.slice a5 cs5.length c5) cs5) ∧ Hid (IdxIs RL (idxOf cs5)))
  case first =>
    clear HM B12 HX5 HB8 HI5 HI9 HEQ
    have hH := K3.out _ G0.drew
    refine wp_region_held (S := fun w' => Gr w18 w' ∧ w'.cell? ⟨bX, 0, none⟩ = some (.slice xa ces.length xcap) ∧ w'.cell? ⟨bE, 0, none⟩ = some (.bool d) ∧ w'.cell? ⟨bE, 1, none⟩ = some (.string s) ∧ w'.cell? ⟨bE, 2, none⟩ = some (.slice ea bs.length ecap)) (by kernel_rfl) ?_
    change wpAnyH _ _ _ _ _ _ _ _ (World.drew _)
    refine takeI (i := 0) (d := 96) (v := .agg #[.slice xa ces.length xcap]) rfl rfl (by kernel_rfl) (by kernel_rfl) (by kernel_rfl) (fun _ _ _ h => h) hH (Or.inl ⟨by rfl, by rintro w' ⟨-, s0, s1, s2, s3⟩; go_simp⟩) ?_
    simp only [Act.put, List.setIfInBounds_toArray, List.set_cons_zero, List.set_cons_succ]
    refine takeI (i := 2) (d := 98) (v := .slice a ts.length cap) rfl rfl (by kernel_rfl) (by kernel_rfl) (by kernel_rfl) (fun _ _ _ h => h) hH (Or.inl ⟨by rfl, by rintro w' ⟨-, s0, s1, s2, s3⟩; go_simp⟩) ?_
    simp only [Act.put, List.setIfInBounds_toArray, List.set_cons_zero, List.set_cons_succ]
    refine takeI (i := 4) (d := 100) (v := .agg #[.bool d, .string s, .slice ea bs.length ecap]) rfl rfl (by kernel_rfl) (by kernel_rfl) (by kernel_rfl) (fun _ _ _ h => h) hH (Or.inl ⟨by rfl, by rintro w' ⟨-, s0, s1, s2, s3⟩; go_simp⟩) ?_
    simp only [Act.put, List.setIfInBounds_toArray, List.set_cons_zero, List.set_cons_succ]
    have GC := G0.drew
    refine wpAnyH_ready (rs := [1, 7]) (by kernel_rfl) (by simp) ?_
    refine AllReadyH.cons (o := _) rfl (fun K hK => ?_) (AllReadyH.cons (o := _) rfl (fun K hK => ?_) AllReadyH.nil)
    · refine step_call rfl 9 #[.agg #[.slice xa ces.length xcap]] (by go_simp) (HTX3.out _ GC) ?_
      rintro e w3 ⟨⟨q3, ds3, rfl, -, -, -⟩, Q3⟩
      refine ⟨_, rfl, ?_⟩
      replace GC := GC.trans Q3
      (try replace HO3 := hidE (ownT_gr HO3.out Q3))
      (try replace HO4 := hidE (boxes_gr HO4.out Q3))
      (try replace HX5 := hidE (ownX_gr HX5.out Q3))
      clear Q3
      refine hK.out _ _ (K3.out _ GC) (fun hH => ?_)
      clear hK K
      (try simp only [Act.put, List.setIfInBounds_toArray, List.set_cons_zero, List.set_cons_succ])
      refine wpAnyH_ready (rs := [3, 7]) (by kernel_rfl) (by simp) ?_
      refine AllReadyH.cons (o := _) rfl (fun K hK => ?_) (AllReadyH.cons (o := _) rfl (fun K hK => ?_) AllReadyH.nil)
      · refine step_call rfl 10 #[.slice a ts.length cap] (by go_simp) (HTT3.out _ GC) ?_
        rintro e w4 ⟨⟨us3, rfl, hL3, hO3, hM3⟩, Q4⟩
        refine ⟨_, rfl, ?_⟩
        replace GC := GC.trans Q4
        (try replace HO3 := hidE (ownT_gr HO3.out Q4))
        (try replace HO4 := hidE (boxes_gr HO4.out Q4))
        (try replace HX5 := hidE (ownX_gr HX5.out Q4))
        have HO3 := hidE hO3
        have HM3 := hidE hM3
        have HL3 := hidE hL3
        clear hO3 hM3 hL3
        clear Q4
        refine hK.out _ _ (K3.out _ GC) (fun hH => ?_)
        clear hK K
        (try simp only [Act.put, List.setIfInBounds_toArray, List.set_cons_zero, List.set_cons_succ])
        refine wpAnyH_ready (rs := [5, 7]) (by kernel_rfl) (by simp) ?_
        refine AllReadyH.cons (o := _) rfl (fun K hK => ?_) (AllReadyH.cons (o := _) rfl (fun K hK => ?_) AllReadyH.nil)
        · refine step_call rfl 11 #[.agg #[.bool d, .string s, .slice ea bs.length ecap]] (by go_simp) (HTE3.out _ GC) ?_
          rintro e w5 ⟨⟨g4, rfl, hO4⟩, Q5⟩
          refine ⟨_, rfl, ?_⟩
          replace GC := GC.trans Q5
          (try replace HO3 := hidE (ownT_gr HO3.out Q5))
          (try replace HO4 := hidE (boxes_gr HO4.out Q5))
          (try replace HX5 := hidE (ownX_gr HX5.out Q5))
          have HO4 := hidE hO4.2.2.2
          clear hO4
          clear Q5
          refine hK.out _ _ (K3.out _ GC) (fun hH => ?_)
          clear hK K
          (try simp only [Act.put, List.setIfInBounds_toArray, List.set_cons_zero, List.set_cons_succ])
          refine wpAnyH_ready (rs := [6, 7]) (by kernel_rfl) (by simp) ?_
          refine AllReadyH.cons (o := _) rfl (fun K hK => ?_) (AllReadyH.cons (o := _) rfl (fun K hK => ?_) AllReadyH.nil)
          · refine step_call rfl 12 #[.agg #[.slice (some ⟨q3, 0, none⟩) ds3.length ds3.length], .slice _ us3.length us3.length, .agg #[.bool d, .string s, .slice (some ⟨g4, 0, none⟩) bs.length bs.length]] (by go_simp) (HIM3.out _ _ _ _ us3 _ g4 _ HO3.out HM3.out HL3.out HO4.out GC) ?_
            rintro e w6 ⟨⟨v5, cs5, rfl, hX5, hI5⟩, Q6⟩
            refine ⟨_, rfl, ?_⟩
            have hlo6 := GC.size
            replace GC := GC.trans Q6
            (try replace HO3 := hidE (ownT_gr HO3.out Q6))
            (try replace HO4 := hidE (boxes_gr HO4.out Q6))
            (try replace HX5 := hidE (ownX_gr HX5.out Q6))
            obtain ⟨a5, c5, e5⟩ := row_form hX5.row
            subst e5
            have HX5 := hidE (ownX_lo hX5 hlo6)
            have HI5 := hidE hI5
            clear hX5 hI5
            clear Q6
            refine hK.out _ _ (K3.out _ GC) (fun hH => ?_)
            clear hK K
            (try simp only [Act.put, List.setIfInBounds_toArray, List.set_cons_zero, List.set_cons_succ])
            refine wpAnyH_ready (rs := [7]) (by kernel_rfl) (by simp) ?_
            refine AllReadyH.cons (o := _) rfl (fun K hK => ?_) AllReadyH.nil
            go_simp
            have hb8 : w18.heap.size ≤ w6.heap.size := GC.size
            have GCo := GC
            have HXo := HX5
            have HB8 : Hid (BZ (w6.alloc (.cells #[.slice none 0 0] 36)) w6.heap.size) := World.alloc_heap_new _ _
            have Q8 : Gr w6 (w6.alloc (.cells #[.slice none 0 0] 36)) := (Gr.refl _).alloc _
            replace GC := GC.trans Q8
            (try replace HO3 := hidE (ownT_gr HO3.out Q8))
            (try replace HO4 := hidE (boxes_gr HO4.out Q8))
            (try replace HX5 := hidE (ownX_gr HX5.out Q8))
            clear Q8
            refine hK.out _ _ (K3.out _ GC) (fun hH => ?_)
            clear hK K
            (try simp only [Act.put, List.setIfInBounds_toArray, List.set_cons_zero, List.set_cons_succ])
            refine wpAnyH_ready (rs := [8]) (by kernel_rfl) (by simp) ?_
            refine AllReadyH.cons (o := _) rfl (fun K hK => ?_) AllReadyH.nil
            have GZ : Gr w18 (w6.alloc (.cells #[.slice a5 cs5.length c5] 36)) := GCo.alloc _
            have HF8 : Hid (BX (w6.alloc (.cells #[.slice a5 cs5.length c5] 36)) w6.heap.size (.slice a5 cs5.length c5)) := bx_make _ _ _
            have HF9 := hidE (ownX_gr HXo.out ((Gr.refl w6).alloc (.cells #[.slice a5 cs5.length c5] 36)))
            go_simp
            refine hK.out _ _ (K3.out _ GZ) (fun hH => ?_)
            clear hK K
            (try simp only [Act.put, List.setIfInBounds_toArray, List.set_cons_zero, List.set_cons_succ])
            refine wpAnyH_done (by kernel_rfl) ?_ _
            go_wp2_with fail
            go_meet
            exact ⟨_, a5, c5, cs5, rfl, GZ, HF8, HF9, HI5⟩
          · go_simp
            have hb8 : w18.heap.size ≤ w5.heap.size := GC.size
            have HB8 : Hid (BZ (w5.alloc (.cells #[.slice none 0 0] 36)) w5.heap.size) := World.alloc_heap_new _ _
            have Q8 : Gr w5 (w5.alloc (.cells #[.slice none 0 0] 36)) := (Gr.refl _).alloc _
            replace GC := GC.trans Q8
            (try replace HO3 := hidE (ownT_gr HO3.out Q8))
            (try replace HO4 := hidE (boxes_gr HO4.out Q8))
            (try replace HX5 := hidE (ownX_gr HX5.out Q8))
            clear Q8
            refine hK.out _ _ (K3.out _ GC) (fun hH => ?_)
            clear hK K
            (try simp only [Act.put, List.setIfInBounds_toArray, List.set_cons_zero, List.set_cons_succ])
            refine wpAnyH_ready (rs := [6]) (by kernel_rfl) (by simp) ?_
            refine AllReadyH.cons (o := _) rfl (fun K hK => ?_) AllReadyH.nil
            refine step_call rfl 12 #[.agg #[.slice (some ⟨q3, 0, none⟩) ds3.length ds3.length], .slice _ us3.length us3.length, .agg #[.bool d, .string s, .slice (some ⟨g4, 0, none⟩) bs.length bs.length]] (by go_simp) (HIM3.out _ _ _ _ us3 _ g4 _ HO3.out HM3.out HL3.out HO4.out GC) ?_
            rintro e w6 ⟨⟨v5, cs5, rfl, hX5, hI5⟩, Q6⟩
            refine ⟨_, rfl, ?_⟩
            have hlo6 := GC.size
            replace GC := GC.trans Q6
            (try replace HO3 := hidE (ownT_gr HO3.out Q6))
            (try replace HO4 := hidE (boxes_gr HO4.out Q6))
            (try replace HX5 := hidE (ownX_gr HX5.out Q6))
            replace HB8 := hidE (bz_gr HB8.out Q6)
            obtain ⟨a5, c5, e5⟩ := row_form hX5.row
            subst e5
            have HX5 := hidE (ownX_lo hX5 hlo6)
            have HI5 := hidE hI5
            clear hX5 hI5
            clear Q6
            refine hK.out _ _ (K3.out _ GC) (fun hH => ?_)
            clear hK K
            (try simp only [Act.put, List.setIfInBounds_toArray, List.set_cons_zero, List.set_cons_succ])
            have k8 : w6.cell? ⟨w5.heap.size, 0, none⟩ = some (.slice none 0 0) := bz_cell HB8.out
            have f8 : w6.frozen? ⟨w5.heap.size, 0, none⟩ = false := bz_froz HB8.out
            have HF8 := hidE (bz_set HB8.out HX5.out).1
            have HF9 := hidE (bz_set HB8.out HX5.out).2
            have GZ : Gr w18 (w6.setCell ⟨w5.heap.size, 0, none⟩ (.slice a5 cs5.length c5)) := GC.setCell hb8 _
            refine wpAnyH_ready (rs := [8]) (by kernel_rfl) (by simp) ?_
            refine AllReadyH.cons (o := _) rfl (fun K hK => ?_) AllReadyH.nil
            go_simp
            refine hK.out _ _ (K3.out _ GZ) (fun hH => ?_)
            clear hK K k8 f8
            (try simp only [Act.put, List.setIfInBounds_toArray, List.set_cons_zero, List.set_cons_succ])
            refine wpAnyH_done (by kernel_rfl) ?_ _
            go_wp2_with fail
            go_meet
            exact ⟨_, a5, c5, cs5, rfl, GZ, HF8, HF9, HI5⟩
        · go_simp
          have hb8 : w18.heap.size ≤ w4.heap.size := GC.size
          have HB8 : Hid (BZ (w4.alloc (.cells #[.slice none 0 0] 36)) w4.heap.size) := World.alloc_heap_new _ _
          have Q8 : Gr w4 (w4.alloc (.cells #[.slice none 0 0] 36)) := (Gr.refl _).alloc _
          replace GC := GC.trans Q8
          (try replace HO3 := hidE (ownT_gr HO3.out Q8))
          (try replace HO4 := hidE (boxes_gr HO4.out Q8))
          (try replace HX5 := hidE (ownX_gr HX5.out Q8))
          clear Q8
          refine hK.out _ _ (K3.out _ GC) (fun hH => ?_)
          clear hK K
          (try simp only [Act.put, List.setIfInBounds_toArray, List.set_cons_zero, List.set_cons_succ])
          refine wpAnyH_ready (rs := [5]) (by kernel_rfl) (by simp) ?_
          refine AllReadyH.cons (o := _) rfl (fun K hK => ?_) AllReadyH.nil
          refine step_call rfl 11 #[.agg #[.bool d, .string s, .slice ea bs.length ecap]] (by go_simp) (HTE3.out _ GC) ?_
          rintro e w5 ⟨⟨g4, rfl, hO4⟩, Q5⟩
          refine ⟨_, rfl, ?_⟩
          replace GC := GC.trans Q5
          (try replace HO3 := hidE (ownT_gr HO3.out Q5))
          (try replace HO4 := hidE (boxes_gr HO4.out Q5))
          (try replace HX5 := hidE (ownX_gr HX5.out Q5))
          replace HB8 := hidE (bz_gr HB8.out Q5)
          have HO4 := hidE hO4.2.2.2
          clear hO4
          clear Q5
          refine hK.out _ _ (K3.out _ GC) (fun hH => ?_)
          clear hK K
          (try simp only [Act.put, List.setIfInBounds_toArray, List.set_cons_zero, List.set_cons_succ])
          refine wpAnyH_ready (rs := [6]) (by kernel_rfl) (by simp) ?_
          refine AllReadyH.cons (o := _) rfl (fun K hK => ?_) AllReadyH.nil
          refine step_call rfl 12 #[.agg #[.slice (some ⟨q3, 0, none⟩) ds3.length ds3.length], .slice _ us3.length us3.length, .agg #[.bool d, .string s, .slice (some ⟨g4, 0, none⟩) bs.length bs.length]] (by go_simp) (HIM3.out _ _ _ _ us3 _ g4 _ HO3.out HM3.out HL3.out HO4.out GC) ?_
          rintro e w6 ⟨⟨v5, cs5, rfl, hX5, hI5⟩, Q6⟩
          refine ⟨_, rfl, ?_⟩
          have hlo6 := GC.size
          replace GC := GC.trans Q6
          (try replace HO3 := hidE (ownT_gr HO3.out Q6))
          (try replace HO4 := hidE (boxes_gr HO4.out Q6))
          (try replace HX5 := hidE (ownX_gr HX5.out Q6))
          replace HB8 := hidE (bz_gr HB8.out Q6)
          obtain ⟨a5, c5, e5⟩ := row_form hX5.row
          subst e5
          have HX5 := hidE (ownX_lo hX5 hlo6)
          have HI5 := hidE hI5
          clear hX5 hI5
          clear Q6
          refine hK.out _ _ (K3.out _ GC) (fun hH => ?_)
          clear hK K
          (try simp only [Act.put, List.setIfInBounds_toArray, List.set_cons_zero, List.set_cons_succ])
          have k8 : w6.cell? ⟨w4.heap.size, 0, none⟩ = some (.slice none 0 0) := bz_cell HB8.out
          have f8 : w6.frozen? ⟨w4.heap.size, 0, none⟩ = false := bz_froz HB8.out
          have HF8 := hidE (bz_set HB8.out HX5.out).1
          have HF9 := hidE (bz_set HB8.out HX5.out).2
          have GZ : Gr w18 (w6.setCell ⟨w4.heap.size, 0, none⟩ (.slice a5 cs5.length c5)) := GC.setCell hb8 _
          refine wpAnyH_ready (rs := [8]) (by kernel_rfl) (by simp) ?_
          refine AllReadyH.cons (o := _) rfl (fun K hK => ?_) AllReadyH.nil
          go_simp
          refine hK.out _ _ (K3.out _ GZ) (fun hH => ?_)
          clear hK K k8 f8
          (try simp only [Act.put, List.setIfInBounds_toArray, List.set_cons_zero, List.set_cons_succ])
          refine wpAnyH_done (by kernel_rfl) ?_ _
          go_wp2_with fail
          go_meet
          exact ⟨_, a5, c5, cs5, rfl, GZ, HF8, HF9, HI5⟩
      · go_simp
        have hb8 : w18.heap.size ≤ w3.heap.size := GC.size
        have HB8 : Hid (BZ (w3.alloc (.cells #[.slice none 0 0] 36)) w3.heap.size) := World.alloc_heap_new _ _
        have Q8 : Gr w3 (w3.alloc (.cells #[.slice none 0 0] 36)) := (Gr.refl _).alloc _
        replace GC := GC.trans Q8
        (try replace HO3 := hidE (ownT_gr HO3.out Q8))
        (try replace HO4 := hidE (boxes_gr HO4.out Q8))
        (try replace HX5 := hidE (ownX_gr HX5.out Q8))
        clear Q8
        refine hK.out _ _ (K3.out _ GC) (fun hH => ?_)
        clear hK K
        (try simp only [Act.put, List.setIfInBounds_toArray, List.set_cons_zero, List.set_cons_succ])
        refine wpAnyH_ready (rs := [3]) (by kernel_rfl) (by simp) ?_
        refine AllReadyH.cons (o := _) rfl (fun K hK => ?_) AllReadyH.nil
        refine step_call rfl 10 #[.slice a ts.length cap] (by go_simp) (HTT3.out _ GC) ?_
        rintro e w4 ⟨⟨us3, rfl, hL3, hO3, hM3⟩, Q4⟩
        refine ⟨_, rfl, ?_⟩
        replace GC := GC.trans Q4
        (try replace HO3 := hidE (ownT_gr HO3.out Q4))
        (try replace HO4 := hidE (boxes_gr HO4.out Q4))
        (try replace HX5 := hidE (ownX_gr HX5.out Q4))
        replace HB8 := hidE (bz_gr HB8.out Q4)
        have HO3 := hidE hO3
        have HM3 := hidE hM3
        have HL3 := hidE hL3
        clear hO3 hM3 hL3
        clear Q4
        refine hK.out _ _ (K3.out _ GC) (fun hH => ?_)
        clear hK K
        (try simp only [Act.put, List.setIfInBounds_toArray, List.set_cons_zero, List.set_cons_succ])
        refine wpAnyH_ready (rs := [5]) (by kernel_rfl) (by simp) ?_
        refine AllReadyH.cons (o := _) rfl (fun K hK => ?_) AllReadyH.nil
        refine step_call rfl 11 #[.agg #[.bool d, .string s, .slice ea bs.length ecap]] (by go_simp) (HTE3.out _ GC) ?_
        rintro e w5 ⟨⟨g4, rfl, hO4⟩, Q5⟩
        refine ⟨_, rfl, ?_⟩
        replace GC := GC.trans Q5
        (try replace HO3 := hidE (ownT_gr HO3.out Q5))
        (try replace HO4 := hidE (boxes_gr HO4.out Q5))
        (try replace HX5 := hidE (ownX_gr HX5.out Q5))
        replace HB8 := hidE (bz_gr HB8.out Q5)
        have HO4 := hidE hO4.2.2.2
        clear hO4
        clear Q5
        refine hK.out _ _ (K3.out _ GC) (fun hH => ?_)
        clear hK K
        (try simp only [Act.put, List.setIfInBounds_toArray, List.set_cons_zero, List.set_cons_succ])
        refine wpAnyH_ready (rs := [6]) (by kernel_rfl) (by simp) ?_
        refine AllReadyH.cons (o := _) rfl (fun K hK => ?_) AllReadyH.nil
        refine step_call rfl 12 #[.agg #[.slice (some ⟨q3, 0, none⟩) ds3.length ds3.length], .slice _ us3.length us3.length, .agg #[.bool d, .string s, .slice (some ⟨g4, 0, none⟩) bs.length bs.length]] (by go_simp) (HIM3.out _ _ _ _ us3 _ g4 _ HO3.out HM3.out HL3.out HO4.out GC) ?_
        rintro e w6 ⟨⟨v5, cs5, rfl, hX5, hI5⟩, Q6⟩
        refine ⟨_, rfl, ?_⟩
        have hlo6 := GC.size
        replace GC := GC.trans Q6
        (try replace HO3 := hidE (ownT_gr HO3.out Q6))
        (try replace HO4 := hidE (boxes_gr HO4.out Q6))
        (try replace HX5 := hidE (ownX_gr HX5.out Q6))
        replace HB8 := hidE (bz_gr HB8.out Q6)
        obtain ⟨a5, c5, e5⟩ := row_form hX5.row
        subst e5
        have HX5 := hidE (ownX_lo hX5 hlo6)
        have HI5 := hidE hI5
        clear hX5 hI5
        clear Q6
        refine hK.out _ _ (K3.out _ GC) (fun hH => ?_)
        clear hK K
        (try simp only [Act.put, List.setIfInBounds_toArray, List.set_cons_zero, List.set_cons_succ])
        have k8 : w6.cell? ⟨w3.heap.size, 0, none⟩ = some (.slice none 0 0) := bz_cell HB8.out
        have f8 : w6.frozen? ⟨w3.heap.size, 0, none⟩ = false := bz_froz HB8.out
        have HF8 := hidE (bz_set HB8.out HX5.out).1
        have HF9 := hidE (bz_set HB8.out HX5.out).2
        have GZ : Gr w18 (w6.setCell ⟨w3.heap.size, 0, none⟩ (.slice a5 cs5.length c5)) := GC.setCell hb8 _
        refine wpAnyH_ready (rs := [8]) (by kernel_rfl) (by simp) ?_
        refine AllReadyH.cons (o := _) rfl (fun K hK => ?_) AllReadyH.nil
        go_simp
        refine hK.out _ _ (K3.out _ GZ) (fun hH => ?_)
        clear hK K k8 f8
        (try simp only [Act.put, List.setIfInBounds_toArray, List.set_cons_zero, List.set_cons_succ])
        refine wpAnyH_done (by kernel_rfl) ?_ _
        go_wp2_with fail
        go_meet
        exact ⟨_, a5, c5, cs5, rfl, GZ, HF8, HF9, HI5⟩
    · go_simp
      have hb8 : w18.heap.size ≤ w18.heap.size := GC.size
      have HB8 : Hid (BZ ((w18.alloc (.cells #[.slice none 0 0] 36)).drew) w18.heap.size) := World.alloc_heap_new _ _
      replace GC : Gr w18 ((w18.alloc (.cells #[.slice none 0 0] 36)).drew) := (G0.alloc _).drew
      refine hK.out _ _ (K3.out _ GC) (fun hH => ?_)
      clear hK K
      (try simp only [Act.put, List.setIfInBounds_toArray, List.set_cons_zero, List.set_cons_succ])
      refine wpAnyH_ready (rs := [1]) (by kernel_rfl) (by simp) ?_
      refine AllReadyH.cons (o := _) rfl (fun K hK => ?_) AllReadyH.nil
      refine step_call rfl 9 #[.agg #[.slice xa ces.length xcap]] (by go_simp) (HTX3.out _ GC) ?_
      rintro e w3 ⟨⟨q3, ds3, rfl, -, -, -⟩, Q3⟩
      refine ⟨_, rfl, ?_⟩
      replace GC := GC.trans Q3
      (try replace HO3 := hidE (ownT_gr HO3.out Q3))
      (try replace HO4 := hidE (boxes_gr HO4.out Q3))
      (try replace HX5 := hidE (ownX_gr HX5.out Q3))
      replace HB8 := hidE (bz_gr HB8.out Q3)
      clear Q3
      refine hK.out _ _ (K3.out _ GC) (fun hH => ?_)
      clear hK K
      (try simp only [Act.put, List.setIfInBounds_toArray, List.set_cons_zero, List.set_cons_succ])
      refine wpAnyH_ready (rs := [3]) (by kernel_rfl) (by simp) ?_
      refine AllReadyH.cons (o := _) rfl (fun K hK => ?_) AllReadyH.nil
      refine step_call rfl 10 #[.slice a ts.length cap] (by go_simp) (HTT3.out _ GC) ?_
      rintro e w4 ⟨⟨us3, rfl, hL3, hO3, hM3⟩, Q4⟩
      refine ⟨_, rfl, ?_⟩
      replace GC := GC.trans Q4
      (try replace HO3 := hidE (ownT_gr HO3.out Q4))
      (try replace HO4 := hidE (boxes_gr HO4.out Q4))
      (try replace HX5 := hidE (ownX_gr HX5.out Q4))
      replace HB8 := hidE (bz_gr HB8.out Q4)
      have HO3 := hidE hO3
      have HM3 := hidE hM3
      have HL3 := hidE hL3
      clear hO3 hM3 hL3
      clear Q4
      refine hK.out _ _ (K3.out _ GC) (fun hH => ?_)
      clear hK K
      (try simp only [Act.put, List.setIfInBounds_toArray, List.set_cons_zero, List.set_cons_succ])
      refine wpAnyH_ready (rs := [5]) (by kernel_rfl) (by simp) ?_
      refine AllReadyH.cons (o := _) rfl (fun K hK => ?_) AllReadyH.nil
      refine step_call rfl 11 #[.agg #[.bool d, .string s, .slice ea bs.length ecap]] (by go_simp) (HTE3.out _ GC) ?_
      rintro e w5 ⟨⟨g4, rfl, hO4⟩, Q5⟩
      refine ⟨_, rfl, ?_⟩
      replace GC := GC.trans Q5
      (try replace HO3 := hidE (ownT_gr HO3.out Q5))
      (try replace HO4 := hidE (boxes_gr HO4.out Q5))
      (try replace HX5 := hidE (ownX_gr HX5.out Q5))
      replace HB8 := hidE (bz_gr HB8.out Q5)
      have HO4 := hidE hO4.2.2.2
      clear hO4
      clear Q5
      refine hK.out _ _ (K3.out _ GC) (fun hH => ?_)
      clear hK K
      (try simp only [Act.put, List.setIfInBounds_toArray, List.set_cons_zero, List.set_cons_succ])
      refine wpAnyH_ready (rs := [6]) (by kernel_rfl) (by simp) ?_
      refine AllReadyH.cons (o := _) rfl (fun K hK => ?_) AllReadyH.nil
      refine step_call rfl 12 #[.agg #[.slice (some ⟨q3, 0, none⟩) ds3.length ds3.length], .slice _ us3.length us3.length, .agg #[.bool d, .string s, .slice (some ⟨g4, 0, none⟩) bs.length bs.length]] (by go_simp) (HIM3.out _ _ _ _ us3 _ g4 _ HO3.out HM3.out HL3.out HO4.out GC) ?_
      rintro e w6 ⟨⟨v5, cs5, rfl, hX5, hI5⟩, Q6⟩
      refine ⟨_, rfl, ?_⟩
      have hlo6 := GC.size
      replace GC := GC.trans Q6
      (try replace HO3 := hidE (ownT_gr HO3.out Q6))
      (try replace HO4 := hidE (boxes_gr HO4.out Q6))
      (try replace HX5 := hidE (ownX_gr HX5.out Q6))
      replace HB8 := hidE (bz_gr HB8.out Q6)
      obtain ⟨a5, c5, e5⟩ := row_form hX5.row
      subst e5
      have HX5 := hidE (ownX_lo hX5 hlo6)
      have HI5 := hidE hI5
      clear hX5 hI5
      clear Q6
      refine hK.out _ _ (K3.out _ GC) (fun hH => ?_)
      clear hK K
      (try simp only [Act.put, List.setIfInBounds_toArray, List.set_cons_zero, List.set_cons_succ])
      have k8 : w6.cell? ⟨w18.heap.size, 0, none⟩ = some (.slice none 0 0) := bz_cell HB8.out
      have f8 : w6.frozen? ⟨w18.heap.size, 0, none⟩ = false := bz_froz HB8.out
      have HF8 := hidE (bz_set HB8.out HX5.out).1
      have HF9 := hidE (bz_set HB8.out HX5.out).2
      have GZ : Gr w18 (w6.setCell ⟨w18.heap.size, 0, none⟩ (.slice a5 cs5.length c5)) := GC.setCell hb8 _
      refine wpAnyH_ready (rs := [8]) (by kernel_rfl) (by simp) ?_
      refine AllReadyH.cons (o := _) rfl (fun K hK => ?_) AllReadyH.nil
      go_simp
      refine hK.out _ _ (K3.out _ GZ) (fun hH => ?_)
      clear hK K k8 f8
      (try simp only [Act.put, List.setIfInBounds_toArray, List.set_cons_zero, List.set_cons_succ])
      refine wpAnyH_done (by kernel_rfl) ?_ _
      go_wp2_with fail
      go_meet
      exact ⟨_, a5, c5, cs5, rfl, GZ, HF8, HF9, HI5⟩
  obtain ⟨b16, a25, c25, cs25, rfl, q25, HB16, HX25, HI25⟩ := hcut
  obtain ⟨wH, hH⟩ : ∃ x, x = wc := ⟨_, rfl⟩
  subst hH
  replace HM := hid (ownX_gr HM.out q25)
  replace B12 := bx_gr B12 q25
  replace C := C.trans q25
  have HSM25 := hid (idxIs_small HI25.out)
  have HEQ25 := hid (idxIs_one HI25.out HI5.out)
  have B8 := bx_gr HB8.out C
  have x8 := B8.2
  have x16 := HB16.out.2
  clear K3 HTX3 HTT3 HTE3 HIM3 G0 q25 HTT HTE HIM K1 HTX B8
  go_wp2_with fail
  refine (eqIndex_same _ _ _ _ cs25 cs5 _ HX25.out (ownX_gr HX5.out C) HEQ25.out HSM25.out.1 HSM25.out.2).mono ?_
  rintro e w26 ⟨rfl, q26⟩
  replace HM := hid (ownX_gr HM.out q26)
  replace B12 := bx_gr B12 q26
  replace C := C.trans q26
  clear q26 x8 x16
  have x12 := B12.2
  go_wp2_with fail
  (with_reducible refine Calls.mono (HHE.out _ HM.out) ?_)
  rintro e w27 ⟨rfl, q27⟩
  go_wp2
  go_ret
  exact ⟨rfl, HGB.out.trans (HGC.out.trans (C.trans q27))⟩
end Go.Proofs.YtpdcgjkfilohcabGreatDoor
