import Derived.Test.YtpdcgjkfilohcabGreatAskP
import Derived.Test.YtpdcgjkfilohcabGreatFolA
namespace Go.Proofs.YtpdcgjkfilohcabGreat
open Go.RowKit Go.Sort Go.Maps
set_option linter.unusedSimpArgs false
set_option linter.unusedVariables false

/-! The law of ProbeAsk. -/

/-- Two cells of a box. -/
def DuoAt (w : World) (b : Nat) (u v : Value) : Prop := b < w.heap.size ∧ w.cell? ⟨b, 0, none⟩ = some u ∧ w.cell? ⟨b, 1, none⟩ = some v
theorem duo_gr {w w' : World} {b : Nat} {u v : Value} (h : DuoAt w b u v) (g : Gr w w') : DuoAt w' b u v := ⟨Nat.lt_of_lt_of_le h.1 g.size, (g.cells.1 _ _ h.1).trans h.2.1, (g.cells.1 _ _ h.1).trans h.2.2⟩
theorem duo_make (w : World) (u v : Value) (t : TypeId) : DuoAt (w.alloc (.cells #[u, v] t)) w.heap.size u v := ⟨by simp, by simp, by simp⟩
theorem duo_rm {lo hi : Nat} {w w' : World} {b : Nat} {u v : Value} (h : DuoAt w b u v) (g : RM lo hi w w') (ho : b < lo ∨ hi ≤ b) : DuoAt w' b u v := ⟨Nat.lt_of_lt_of_le h.1 g.2.2.2.1, (World.cell?_of_block (g.2.2.2.2 b h.1 ho)).trans h.2.1, (World.cell?_of_block (g.2.2.2.2 b h.1 ho)).trans h.2.2⟩
/-- The copy of an index that the law makes. -/
def CopyZ (ces : List Ce) (lo : Nat) (e : Ending) (w' : World) : Prop := ∃ (q : Nat) (ds : List Cx), e = .returned (.agg #[.slice (some ⟨q, 0, none⟩) ds.length ds.length]) ∧ idxOf ds = ceIdx ces ∧ OwnX lo w' (.slice (some ⟨q, 0, none⟩) ds.length ds.length) ds ∧ MadeX ds
/-- What is answered: clashes. -/
def KQ (s : ByteArray) (bs : List Bx) (pts : List Pt) (ks : List Kc) : Prop := ∃ l, ks = l.map (kcOf s) ∧ AnsQ (tubeB s bs) bs pts s l
theorem ansQ_one {ok : Bool} {bs : List Bx} {pts : List Pt} {tn : ByteArray} {a b : List (ByteArray × K3)} (ha : AnsQ ok bs pts tn a) (hb : AnsQ ok bs pts tn b) : a = b := by
  cases ok
  · rw [ha.2 rfl, hb.2 rfl]
  · exact ans_one (ha.1 rfl) (hb.1 rfl)
theorem kq_one {s : ByteArray} {bs : List Bx} {pts : List Pt} {a b : List Kc} (ha : KQ s bs pts a) (hb : KQ s bs pts b) : a = b := by
  obtain ⟨l, rfl, h⟩ := ha
  obtain ⟨m, rfl, h'⟩ := hb
  rw [ansQ_one h h']
theorem kq_len {s : ByteArray} {bs : List Bx} {pts : List Pt} {ks : List Kc} (h : KQ s bs pts ks) (hP : pts.length ≤ 1048576) : ks.length ≤ 1048576 := by
  obtain ⟨l, rfl, h⟩ := h
  rw [List.length_map]
  cases hok : tubeB s bs
  · rw [h.2 hok]
    simp
  · have hA := h.1 hok
    have h1 : (l.map (·.1)).Nodup := List.pairwise_map.2 (hA.asc.imp fun {a b} hab => nm_ne hab)
    have h2 := names_le (l.map (·.1)) pts h1 (fun n hn => by
      obtain ⟨⟨n', k⟩, hm, rfl⟩ := List.mem_map.1 hn
      obtain ⟨-, hF⟩ := (hA.mem n' k).1 hm
      obtain ⟨j, -, p, hp, e, -⟩ := hF.1
      exact ⟨p, hp, e⟩)
    rw [List.length_map] at h2
    omega
theorem pts_sum : ∀ cs : List Ce, (ptsOf (ceIdx cs)).length = (cs.map fun c => c.ss.length).sum
  | [] => rfl
  | c :: cs => by
    have := pts_sum cs
    simp only [ceIdx, ptsOf, ptsC, List.map_cons, List.flatMap_cons, List.length_append, List.length_map, List.sum_cons] at *
    omega
theorem pts_small {cs : List Ce} (h : SmallC cs) : (ptsOf (ceIdx cs)).length ≤ 1048576 := by
  unfold SmallC sumTo at h
  rw [List.take_length] at h
  rw [pts_sum]
  omega
theorem ce_mem {cs : List Ce} {c : Cl} (h : c ∈ ceIdx cs) : ∃ k, k < cs.length ∧ c = (((cs.getD k Ce.nil).x, (cs.getD k Ce.nil).y), (cs.getD k Ce.nil).ss) := by
  obtain ⟨ce, hm, rfl⟩ := List.mem_map.1 h
  obtain ⟨k, hk, e⟩ := List.getElem_of_mem hm
  exact ⟨k, hk, by rw [List.getD_eq_getElem?_getD, List.getElem?_eq_getElem hk, Option.getD_some, e]⟩
theorem fits_keys {cs : List Ce} (hF : FitsX cs) {ds : List Cx} (h : idxOf ds = ceIdx cs) : ∀ c ∈ ds, Wk c.1 := fun c hc => by
  have hm : (c.1, c.2.2) ∈ ceIdx cs := h ▸ List.mem_map.2 ⟨c, hc, rfl⟩
  obtain ⟨k, hk, e⟩ := ce_mem hm
  rw [(Prod.ext_iff.1 e).1]
  exact (hF.2 k hk).2.1
theorem fits_names {cs : List Ce} (hF : FitsX cs) : ∀ p ∈ ptsOf (ceIdx cs), p.2.s.size ≤ maxLen := fun p hp => by
  obtain ⟨c, hc, hp⟩ := List.mem_flatMap.1 hp
  obtain ⟨k, hk, rfl⟩ := ce_mem hc
  obtain ⟨s, hs, rfl⟩ := List.mem_map.1 hp
  obtain ⟨j, hj, e⟩ := List.getElem_of_mem hs
  have := (hF.2 k hk).2.2 j hj
  rw [List.getD_eq_getElem?_getD, List.getElem?_eq_getElem hj, Option.getD_some, e] at this
  exact this

set_option maxRecDepth 100000 in
set_option maxHeartbeats 8000000 in
theorem lawAsk_any (xa : Option Addr) (xcap : Nat) (ces : List Ce) (s : ByteArray) (ta : Option Addr) (tc : Nat) (bs : List Bx) (w : World) (hx : Cells w xa ces) (hxF : FitsX ces) (hs : s.size ≤ maxLen) (hbl : bs.length ≤ maxLen) (hb : Boxes w ta bs) :
    Calls Tryz.prog 7 #[.agg #[.slice xa ces.length xcap], .agg #[.string s, .slice ta bs.length tc]] w fun e w' => e = .returned (.bool true) ∧ Gr w w' := by
  have GB : Gr w ((w.alloc (.cells #[.slice xa ces.length xcap] 54)).alloc (.cells #[.string s, .slice ta bs.length tc] 35)) := ((Gr.refl _).alloc _).alloc _
  have HT0 : Hid (DuoAt ((w.alloc (.cells #[.slice xa ces.length xcap] 54)).alloc (.cells #[.string s, .slice ta bs.length tc] 35)) (w.heap.size + 1) (.string s) (.slice ta bs.length tc)) := by
    have := duo_make (w.alloc (.cells #[.slice xa ces.length xcap] 54)) (.string s) (.slice ta bs.length tc) 35
    rwa [World.size_alloc] at this
  have HBX : Hid (BX ((w.alloc (.cells #[.slice xa ces.length xcap] 54)).alloc (.cells #[.string s, .slice ta bs.length tc] 35)) w.heap.size (.slice xa ces.length xcap)) := bx_gr (bx_make w _ _) ((Gr.refl _).alloc _)
  have e0 := HBX.out.2
  go_enter Tryz.func7, Tryz.ntmps7
  go_wp2_with fail
  refine (szIndex_any xa xcap ces 1048576 _ (cells_gr hx GB) hxF (by omega) (by omega)).mono ?_
  rintro e wS ⟨⟨vx, rfl, hvx⟩, GX⟩
  by_cases hz0 : vx < 0
  · clear hvx
    go_wp2
    go_ret
    exact ⟨rfl, GB.trans GX⟩
  obtain ⟨hSX, hvx1⟩ := hvx hz0
  clear hvx e0
  obtain ⟨-, t0, t1⟩ := duo_gr HT0.out GX
  go_wp2_with fail
  refine (szTube_any s ta bs.length tc vx _ hs (by omega) hvx1 hbl).mono ?_
  rintro e w2 ⟨rfl, q2⟩
  have G := GX.trans q2
  clear q2 t0 t1 GX
  obtain ⟨v2, hv2⟩ : ∃ v2, v2 = szT vx s.size bs.length := ⟨_, rfl⟩
  rw [← hv2]
  by_cases hz2 : v2 < 0
  · clear hv2
    go_wp2
    go_ret
    exact ⟨rfl, GB.trans G⟩
  have hbn : bs.length ≤ 1048576 := (szT_le hvx1 (by rw [← hv2]; exact hz2)).2.1
  clear hv2
  have hPL := pts_small hSX
  have HSX := hid hSX
  have HFX := hid hxF
  have HTX : Hid (∀ w', Gr ((w.alloc (.cells #[.slice xa ces.length xcap] 54)).alloc (.cells #[.string s, .slice ta bs.length tc] 35)) w' → Calls Tryz.prog 32 #[.agg #[.slice xa ces.length xcap]] w' fun e w'' => CopyZ ces w'.heap.size e w'' ∧ Gr w' w'') := fun w' g => toIndex_any xa xcap ces w' (cells_gr hx (GB.trans g)) hSX
  have HTT : Hid (∀ w', Gr ((w.alloc (.cells #[.slice xa ces.length xcap] 54)).alloc (.cells #[.string s, .slice ta bs.length tc] 35)) w' → Calls Tryz.prog 19 #[.agg #[.string s, .slice ta bs.length tc]] w' fun e w'' => (∃ g, e = .returned (.agg #[.string s, .slice (some ⟨g, 0, none⟩) bs.length bs.length]) ∧ Owned w' w'' g bs) ∧ Gr w' w'') := fun w' g => toTube_any s ta tc bs w' (boxes_gr hb (GB.trans g)) hbn
  have HSP : Hid (∀ (w' : World) (lo q g : Nat) (ds : List Cx), OwnX lo w' (.slice (some ⟨q, 0, none⟩) ds.length ds.length) ds → MadeX ds → idxOf ds = ceIdx ces → Boxes w' (some ⟨g, 0, none⟩) bs → Calls Tryz.prog 31 #[.agg #[.slice (some ⟨q, 0, none⟩) ds.length ds.length], .agg #[.string s, .slice (some ⟨g, 0, none⟩) bs.length bs.length]] w' fun e w'' => (∃ rv, ∃ ks : List Kc, e = .returned rv ∧ w''.ownsRow w'.heap.size 61 5 rv ks.length (ks.flatMap encC) ∧ KQ s bs (ptsOf (ceIdx ces)) ks) ∧ Gr w' w'') := fun w' lo q g ds h1 h2 h3 h4 => by
    refine (specAsk_any lo _ ds s (some ⟨g, 0, none⟩) bs.length bs w' h1 (smallX_like h3 HSX.out).1 (by rw [h3]; exact hPL) hs h4 hbn).mono ?_
    rintro e w'' ⟨⟨rv, l, rfl, h5, h6⟩, g5⟩
    rw [h3] at h6
    exact ⟨⟨rv, l.map (kcOf s), rfl, by rw [List.length_map, ← encA_kc]; exact h5, l, rfl, h6⟩, g5⟩
  have HIM : Hid (∀ (w' : World) (lo q g : Nat) (ds : List Cx), OwnX lo w' (.slice (some ⟨q, 0, none⟩) ds.length ds.length) ds → MadeX ds → idxOf ds = ceIdx ces → Boxes w' (some ⟨g, 0, none⟩) bs → Calls Tryz.prog 33 #[.agg #[.slice (some ⟨q, 0, none⟩) ds.length ds.length], .agg #[.string s, .slice (some ⟨g, 0, none⟩) bs.length bs.length]] w' fun e w'' => (∃ rv, ∃ ks : List Kc, e = .returned rv ∧ w''.ownsRow w'.heap.size 61 5 rv ks.length (ks.flatMap encC) ∧ KQ s bs (ptsOf (ceIdx ces)) ks) ∧ Gr w' w'') := fun w' lo q g ds h1 h2 h3 h4 => by
    refine (implAsk_any lo _ ds s (some ⟨g, 0, none⟩) bs.length bs w' h1 h2 (smallX_like h3 HSX.out).1 (by rw [h3]; exact hPL) hs h4 hbn (fits_keys HFX.out h3) (by rw [h3]; exact fits_names HFX.out)).mono ?_
    rintro e w'' ⟨⟨rv, l, rfl, h5, h6⟩, g5⟩
    rw [h3] at h6
    exact ⟨⟨rv, l.map (kcOf s), rfl, by rw [List.length_map, ← encA_kc]; exact h5, l, rfl, h6⟩, g5⟩
  have HKL : Hid (∀ ks, KQ s bs (ptsOf (ceIdx ces)) ks → ks.length ≤ 1048576) := fun ks h => kq_len h hPL
  have HGB := hid GB
  generalize ((w.alloc (.cells #[.slice xa ces.length xcap] 54)).alloc (.cells #[.string s, .slice ta bs.length tc] 35)) = B at *
  generalize w.heap.size + 1 = bT at *
  generalize w.heap.size = bX at *
  clear hz0 hb hs hbl GB hx hxF hSX hvx1 hPL HFX
  have K1 : Hid (∀ w', Gr B w' → Gr B w' ∧ w'.cell? ⟨bX, 0, none⟩ = some (.slice xa ces.length xcap) ∧ w'.cell? ⟨bT, 0, none⟩ = some (.string s) ∧ w'.cell? ⟨bT, 1, none⟩ = some (.slice ta bs.length tc)) := fun w' h => ⟨h, (bx_gr HBX.out h).2, (duo_gr HT0.out h).2⟩
  obtain ⟨WQ, hWQ⟩ : ∃ x, x = w2 := ⟨_, rfl⟩
  subst hWQ
  have G0 := G
  go_upto_region 8 with fail
  clear hz2
  go_cut [6] (fun s6 wx => ∃ rv, ∃ ks : List Kc, s6 = rv ∧ Gr B wx ∧ Hid (wx.ownsRow B.heap.size 61 5 rv ks.length (ks.flatMap encC)) ∧ Hid (KQ s bs (ptsOf (ceIdx ces)) ks))
  case first =>
    go_region_held3 (fun w' => Gr B w' ∧ w'.cell? ⟨bX, 0, none⟩ = some (.slice xa ces.length xcap) ∧ w'.cell? ⟨bT, 0, none⟩ = some (.string s) ∧ w'.cell? ⟨bT, 1, none⟩ = some (.slice ta bs.length tc))
      ((refine K1.out _ ?_; repeat (first | with_reducible exact G0 | with_reducible assumption | with_reducible exact And.left (by assumption) | with_reducible refine Gr.drew ?_ | with_reducible refine Gr.alloc ?_ _)))
      (first
        | (go_at_call 32; (with_reducible refine Calls.mono (HTX.out _ (And.left (by assumption))) ?_); rintro e w3 ⟨⟨q3, ds3, rfl, hI3, hO3, hM3⟩, q3g⟩; have G3 := Gr.trans (And.left (by assumption)) q3g; have HO3 := hid hO3; have HI3 := hid hI3; have HM3 := hid hM3; clear hO3 hI3 hM3)
        | (go_at_call 19; (with_reducible refine Calls.mono (HTT.out _ (And.left (by assumption))) ?_); rintro e w4 ⟨⟨g4, rfl, hO4⟩, q4⟩; have G4 := Gr.trans (And.left (by assumption)) q4; have HO4 := hid hO4.2.2.2; replace HO3 := hid (ownX_gr HO3.out (by first | exact q4 | exact Gr.trans (Gr.drew (Gr.refl _)) q4)); clear hO4)
        | (go_at_call 31; (with_reducible refine Calls.mono (HSP.out _ _ q3 g4 ds3 (by first | exact HO3.out | exact ownX_gr HO3.out (Gr.drew (Gr.refl _))) HM3.out HI3.out (by first | exact HO4.out | exact boxes_gr HO4.out (Gr.drew (Gr.refl _)))) ?_); rintro e w5 ⟨⟨rv5, ks5, rfl, hR5, hQ5⟩, q5⟩; have G5 := Gr.trans (And.left (by assumption)) q5; have HR5 := hid (own_lo hR5 (Nat.le_trans (Gr.size G4) (by first | exact Nat.le_refl _ | exact Gr.size (Gr.drew (Gr.refl _))))); have HQ5 := hid hQ5; clear hR5 hQ5))
    all_goals (go_wp2_with fail; go_meet)
    all_goals exact ⟨rv5, ks5, rfl, G5, HR5, HQ5⟩
  obtain ⟨rv3, ks3, e3, G, HR3, HQ3⟩ := hcut
  replace e3 := e3.symm
  subst e3
  obtain ⟨wA, hA⟩ : ∃ x, x = wc := ⟨_, rfl⟩
  subst hA
  have HGC := hid G
  have hkl := HKL.out _ HQ3.out
  obtain ⟨-, x0⟩ := bx_gr HBX.out G
  clear HSP K1 G0
  go_wp2_with fail
  (with_reducible refine Calls.mono (HTX.out _ G) ?_)
  rintro e w6 ⟨⟨q6, ds6, rfl, hI6, hO6, hM6⟩, q6g⟩
  have q6a : Gr w6 (w6.alloc (.cells #[.slice (some ⟨q6, 0, none⟩) ds6.length ds6.length] 48)) := (Gr.refl _).alloc _
  have B7 := bx_make w6 (.slice (some ⟨q6, 0, none⟩) ds6.length ds6.length) 48
  have n6 := q6g.size
  have hsP : (w6.alloc (.cells #[.slice (some ⟨q6, 0, none⟩) ds6.length ds6.length] 48)).heap.size = w6.heap.size + 1 := by simp
  have H6 := hid (ownX_hi hO6)
  have HX0 := hid (ownX_gr hO6 q6a)
  have HI6 := hid hI6
  have HM6 := hid hM6
  have C : Gr wA (w6.alloc (.cells #[.slice (some ⟨q6, 0, none⟩) ds6.length ds6.length] 48)) := q6g.trans q6a
  obtain ⟨-, t0, t1⟩ := duo_gr HT0.out (HGC.out.trans C)
  clear x0 hO6 hI6 hM6 q6g q6a G
  go_wp2_with fail
  (with_reducible refine Calls.mono (HTT.out _ (HGC.out.trans C)) ?_)
  rintro e w8 ⟨⟨g8, rfl, hO8⟩, q8⟩
  have q8a : Gr w8 (w8.alloc (.cells #[.string s, .slice (some ⟨g8, 0, none⟩) bs.length bs.length] 40)) := (Gr.refl _).alloc _
  have D8 := duo_make w8 (.string s) (.slice (some ⟨g8, 0, none⟩) bs.length bs.length) 40
  have hI8 : InT _ w8 (⟨s, some ⟨g8, 0, none⟩, bs.length, bs⟩ : Tb) := owned_inT hO8
  have n8 := q8.size
  rw [hsP] at n8
  have n8g := (id hO8).1
  rw [hsP] at n8g
  have n8h := (id hO8).2.1
  have hsR : (w8.alloc (.cells #[.string s, .slice (some ⟨g8, 0, none⟩) bs.length bs.length] 40)).heap.size = w8.heap.size + 1 := by simp
  replace B7 := bx_gr B7 (q8.trans q8a)
  replace HX0 := hid (ownX_gr HX0.out (q8.trans q8a))
  have HI8 := hid (inT_gr hI8 q8a)
  replace C := C.trans (q8.trans q8a)
  have x9 := B7.2
  clear t0 t1 hO8 hI8 q8 q8a
  go_upto_region 11 with fail
  generalize hwR : w8.alloc (.cells #[.string s, .slice (some ⟨g8, 0, none⟩) bs.length bs.length] 40) = wR at *
  clear hwR
  obtain ⟨-, y0, y1⟩ := id D8
  go_wp2_with fail
  have hJ8 := HI8.out.2
  (with_reducible refine Calls.mono (HIM.out _ _ q6 g8 ds6 HX0.out HM6.out HI6.out hJ8) ?_)
  clear hJ8
  rintro e w9 ⟨⟨rv9, ks9, rfl, hR9, hQ9⟩, q9⟩
  have n9 := q9.size
  rw [hsR] at n9 hR9
  obtain rfl : ks9 = ks3 := kq_one hQ9 HQ3.out
  have HB9 : Hid (∀ g, rv9.ownBlock = some g → w8.heap.size + 1 ≤ g) := fun g hg => (row_block hR9 hg).1
  have HG0 := hid hR9
  replace B7 := bx_gr B7 q9
  replace D8 := duo_gr D8 q9
  replace HX0 := hid (ownX_gr HX0.out q9)
  replace HI8 := hid (inT_gr HI8.out q9)
  replace C := C.trans q9
  clear x9 y0 y1 hR9 hQ9 q9
  go_wp2_with fail
  refine (eqClashS_same _ _ rv9 rv3 ks9 _ HG0.out (owns_gr HR3.out C) hkl).mono ?_
  rintro e w10 ⟨rfl, q10⟩
  replace B7 := bx_gr B7 q10
  replace D8 := duo_gr D8 q10
  replace HX0 := hid (ownX_gr HX0.out q10)
  replace HI8 := hid (inT_gr HI8.out q10)
  replace HG0 := hid (owns_gr HG0.out q10)
  replace C := C.trans q10
  clear q10
  have HSM6 := hid (smallX_like HI6.out HSX.out)
  have K2 : Hid (∀ w', Gr w10 w' → Gr w10 w' ∧ w'.cell? ⟨w6.heap.size, 0, none⟩ = some (.slice (some ⟨q6, 0, none⟩) ds6.length ds6.length) ∧ w'.cell? ⟨bX, 0, none⟩ = some (.slice xa ces.length xcap)) := fun w' h => ⟨h, (bx_gr B7 h).2, (bx_gr HBX.out (HGC.out.trans (C.trans h))).2⟩
  have HTX2 : Hid (∀ w', Gr w10 w' → Calls Tryz.prog 32 #[.agg #[.slice xa ces.length xcap]] w' fun e w'' => CopyZ ces w'.heap.size e w'' ∧ Gr w' w'') := fun w' g => HTX.out w' (HGC.out.trans (C.trans g))
  have HEX : Hid (∀ w', Gr w10 w' → ∀ (lo q : Nat) (ds : List Cx), OwnX lo w' (.slice (some ⟨q, 0, none⟩) ds.length ds.length) ds → idxOf ds = ceIdx ces → Calls Tryz.prog 27 #[.agg #[.slice (some ⟨q6, 0, none⟩) ds6.length ds6.length], .agg #[.slice (some ⟨q, 0, none⟩) ds.length ds.length]] w' fun e w'' => e = .returned (.bool true) ∧ Gr w' w'') := fun w' g lo q ds h1 h2 => eqIndex_same _ _ _ _ ds6 ds w' (ownX_gr HX0.out g) h1 (HI6.out.trans h2.symm) HSM6.out.1.1 HSM6.out.1.2
  have G0 := Gr.refl w10
  go_upto_region 14 with fail
  go_cut [44] (fun s44 wx => s44 = .bool false ∧ Gr w10 wx)
  case first =>
    go_region_held3 (fun w' => Gr w10 w' ∧ w'.cell? ⟨w6.heap.size, 0, none⟩ = some (.slice (some ⟨q6, 0, none⟩) ds6.length ds6.length) ∧ w'.cell? ⟨bX, 0, none⟩ = some (.slice xa ces.length xcap))
      ((refine K2.out _ ?_; repeat (first | with_reducible exact G0 | with_reducible assumption | with_reducible exact And.left (by assumption) | with_reducible refine Gr.drew ?_ | with_reducible refine Gr.alloc ?_ _)))
      (first
        | (go_at_call 32; (with_reducible refine Calls.mono (HTX2.out _ (And.left (by assumption))) ?_); rintro e w12 ⟨⟨q12, ds12, rfl, hI12, hO12, -⟩, q12g⟩; have G12 := Gr.trans (And.left (by assumption)) q12g; have HO12 := hid hO12; have HI12 := hid hI12; clear hO12 hI12)
        | (go_at_call 27; (with_reducible refine Calls.mono (HEX.out _ (And.left (by assumption)) _ q12 ds12 (by first | exact HO12.out | exact ownX_gr HO12.out (Gr.drew (Gr.refl _))) HI12.out) ?_); rintro e w13 ⟨rfl, q13⟩; have G13 := Gr.trans (And.left (by assumption)) q13))
    all_goals (go_wp2_with fail; go_meet)
    all_goals exact ⟨rfl, G13⟩
  obtain ⟨rfl, q13⟩ := hcut
  replace B7 := bx_gr B7 q13
  replace D8 := duo_gr D8 q13
  replace HX0 := hid (ownX_gr HX0.out q13)
  replace HI8 := hid (inT_gr HI8.out q13)
  replace HG0 := hid (owns_gr HG0.out q13)
  replace C := C.trans q13
  clear q13 K2 HTX2 HEX G0
  obtain ⟨wB, hB⟩ : ∃ x, x = wc := ⟨_, rfl⟩
  subst hB
  have K2 : Hid (∀ w', Gr wB w' → Gr wB w' ∧ (w'.cell? ⟨bT, 0, none⟩ = some (.string s) ∧ w'.cell? ⟨bT, 1, none⟩ = some (.slice ta bs.length tc)) ∧ (w'.cell? ⟨w8.heap.size, 0, none⟩ = some (.string s) ∧ w'.cell? ⟨w8.heap.size, 1, none⟩ = some (.slice (some ⟨g8, 0, none⟩) bs.length bs.length))) := fun w' h => ⟨h, (duo_gr HT0.out (HGC.out.trans (C.trans h))).2, (duo_gr D8 h).2⟩
  have HTT2 : Hid (∀ w', Gr wB w' → Calls Tryz.prog 19 #[.agg #[.string s, .slice ta bs.length tc]] w' fun e w'' => (∃ g, e = .returned (.agg #[.string s, .slice (some ⟨g, 0, none⟩) bs.length bs.length]) ∧ Owned w' w'' g bs) ∧ Gr w' w'') := fun w' g => HTT.out w' (HGC.out.trans (C.trans g))
  have HB7 : Hid (∀ w', Gr wB w' → Boxes w' (some ⟨g8, 0, none⟩) bs) := fun w' g => boxes_gr HI8.out.2 g
  have G0 := Gr.refl wB
  go_upto_region 16 with fail
  go_cut [49] (fun s49 wx => s49 = .bool false ∧ Gr wB wx)
  case first =>
    go_region_held3 (fun w' => Gr wB w' ∧ (w'.cell? ⟨bT, 0, none⟩ = some (.string s) ∧ w'.cell? ⟨bT, 1, none⟩ = some (.slice ta bs.length tc)) ∧ (w'.cell? ⟨w8.heap.size, 0, none⟩ = some (.string s) ∧ w'.cell? ⟨w8.heap.size, 1, none⟩ = some (.slice (some ⟨g8, 0, none⟩) bs.length bs.length)))
      ((refine K2.out _ ?_; repeat (first | with_reducible exact G0 | with_reducible assumption | with_reducible exact And.left (by assumption) | with_reducible refine Gr.drew ?_ | with_reducible refine Gr.alloc ?_ _)))
      (first
        | (go_at_call 19; (with_reducible refine Calls.mono (HTT2.out _ (And.left (by assumption))) ?_); rintro e w12 ⟨⟨g12, rfl, hO12⟩, q12⟩; have G12 := Gr.trans (And.left (by assumption)) q12; have HO12 := hid hO12.2.2.2; clear hO12)
        | (go_at_call 21; (with_reducible refine Calls.mono (eqTube_same s _ _ _ _ bs _ (HB7.out _ (And.left (by assumption))) (by first | exact HO12.out | exact boxes_gr HO12.out (Gr.drew (Gr.refl _))) hbn) ?_); rintro e w13 ⟨rfl, q13⟩; have G13 := Gr.trans (And.left (by assumption)) q13))
    all_goals (go_wp2_with fail; go_meet)
    all_goals exact ⟨rfl, G13⟩
  obtain ⟨rfl, q13⟩ := hcut
  replace B7 := bx_gr B7 q13
  replace D8 := duo_gr D8 q13
  replace HX0 := hid (ownX_gr HX0.out q13)
  replace HI8 := hid (inT_gr HI8.out q13)
  replace HG0 := hid (owns_gr HG0.out q13)
  replace C := C.trans q13
  clear q13 K2 HTT2 HB7 G0
  obtain ⟨wD, hD⟩ : ∃ x, x = wc := ⟨_, rfl⟩
  subst hD
  have x9 := B7.2
  go_wp2_with fail
  refine (markIndex_any _ w6.heap.size _ ds6 _ HX0.out H6.out HSM6.out.1).mono ?_
  rintro e w16 ⟨rfl, -, m16⟩
  replace D8 := duo_rm D8 m16 (by omega)
  replace HI8 := hid (inT_rm HI8.out m16 (fun q e => by simp only [Tb.blk, Option.map_some, Option.some.injEq] at e; omega))
  replace HG0 := hid (row_rm HG0.out m16 (fun g hg => by have := HB9.out g hg; omega))
  replace C := gr_rm C m16 (Nat.le_refl _)
  have hk6a := HSM6.out.2.1
  have hk6b := HSM6.out.2.2
  generalize endX 1 ds6 = K6 at *
  obtain ⟨-, t0, t1⟩ := D8
  obtain ⟨-, -, -, hgl, hro⟩ := HI8.out.1 g8 0 none rfl
  have hk70 : 0 ≤ K6 := by omega
  have hk71 : K6 ≤ 10000000000000 := by omega
  have hk72 : ¬ K6 + 6 * (bs.length : Int) < 0 := by omega
  clear x9 m16 HX0 H6 B7 HI8
  go_wp2_with fail
  refine (markTube_own s g8 bs.length bs.length K6 _ hro hgl hbn hk70 hk71).mono ?_
  rintro e wE ⟨rfl, mE⟩
  replace HG0 := hid (row_rm HG0.out mE (fun g hg => by have := HB9.out g hg; omega))
  replace C := gr_rm C mE (by omega)
  clear mE t0 t1 hro hgl hk70 hk71 hk6a hk6b
  go_wp2_with fail
  refine (eqClashS_same _ _ rv9 rv3 ks9 _ HG0.out (owns_gr HR3.out C) hkl).mono ?_
  rintro e wF ⟨rfl, qF⟩
  replace HG0 := hid (owns_gr HG0.out qF)
  replace C := C.trans qF
  clear qF
  obtain ⟨K9, hK9⟩ : ∃ K : Int, K = 1 + 5 * (ks9.length : Int) := ⟨_, rfl⟩
  have HMC := hid (markClashS_any _ rv9 ks9 1 _ HG0.out hkl (by omega) (by omega))
  rw [← hK9] at HMC
  have HHE : Hid (∀ w', w'.ownsRow (w8.heap.size + 1) 61 5 rv9 ks9.length ((markKs 1 ks9.length).flatMap encC) → Calls Tryz.prog 16 #[rv9, .int .i64 1] w' fun e w'' => e = .returned (.int .i64 K9) ∧ Gr w' w'') := fun w' h => by
    have := heldClashS_any _ _ rv9 1 w' h hkl (by omega) (by omega)
    rw [← hK9] at this
    exact this
  have hk90 : ¬ K9 < 0 := by omega
  clear hK9
  go_wp2_with fail
  (with_reducible refine Calls.mono HMC.out ?_)
  rintro e wG ⟨rfl, mG, hMG⟩
  replace C : Gr wA wG := Below.grown C mG C.size (fun k e => by have := HB9.out k e; omega)
  have HM := hid hMG
  clear mG hMG HG0 HMC
  go_wp2_with fail
  (with_reducible refine Calls.mono (HHE.out _ HM.out) ?_)
  rintro e w18 ⟨rfl, q18⟩
  replace HM := hid (owns_gr HM.out q18)
  replace C := C.trans q18
  clear q18
  have K3 : Hid (∀ w', Gr w18 w' → Gr w18 w' ∧ w'.cell? ⟨bX, 0, none⟩ = some (.slice xa ces.length xcap) ∧ w'.cell? ⟨bT, 0, none⟩ = some (.string s) ∧ w'.cell? ⟨bT, 1, none⟩ = some (.slice ta bs.length tc)) := fun w' h => ⟨h, (bx_gr HBX.out (HGC.out.trans (C.trans h))).2, (duo_gr HT0.out (HGC.out.trans (C.trans h))).2⟩
  have HTX3 : Hid (∀ w', Gr w18 w' → Calls Tryz.prog 32 #[.agg #[.slice xa ces.length xcap]] w' fun e w'' => CopyZ ces w'.heap.size e w'' ∧ Gr w' w'') := fun w' g => HTX.out w' (HGC.out.trans (C.trans g))
  have HTT3 : Hid (∀ w', Gr w18 w' → Calls Tryz.prog 19 #[.agg #[.string s, .slice ta bs.length tc]] w' fun e w'' => (∃ g, e = .returned (.agg #[.string s, .slice (some ⟨g, 0, none⟩) bs.length bs.length]) ∧ Owned w' w'' g bs) ∧ Gr w' w'') := fun w' g => HTT.out w' (HGC.out.trans (C.trans g))
  have G0 := Gr.refl w18
  go_upto_region 31 with fail
  go_cut [13] (fun s13 wx => ∃ rv, ∃ ks : List Kc, s13 = rv ∧ Gr w18 wx ∧ Hid (wx.ownsRow w18.heap.size 61 5 rv ks.length (ks.flatMap encC)) ∧ Hid (KQ s bs (ptsOf (ceIdx ces)) ks))
  case first =>
    go_region_held3 (fun w' => Gr w18 w' ∧ w'.cell? ⟨bX, 0, none⟩ = some (.slice xa ces.length xcap) ∧ w'.cell? ⟨bT, 0, none⟩ = some (.string s) ∧ w'.cell? ⟨bT, 1, none⟩ = some (.slice ta bs.length tc))
      ((refine K3.out _ ?_; repeat (first | with_reducible exact G0 | with_reducible assumption | with_reducible exact And.left (by assumption) | with_reducible refine Gr.drew ?_ | with_reducible refine Gr.alloc ?_ _)))
      (first
        | (go_at_call 32; (with_reducible refine Calls.mono (HTX3.out _ (And.left (by assumption))) ?_); rintro e w3 ⟨⟨q3, ds3, rfl, hI3, hO3, hM3⟩, q3g⟩; have G3 := Gr.trans (And.left (by assumption)) q3g; have HO3 := hid hO3; have HI3 := hid hI3; have HM3 := hid hM3; clear hO3 hI3 hM3)
        | (go_at_call 19; (with_reducible refine Calls.mono (HTT3.out _ (And.left (by assumption))) ?_); rintro e w4 ⟨⟨g4, rfl, hO4⟩, q4⟩; have G4 := Gr.trans (And.left (by assumption)) q4; have HO4 := hid hO4.2.2.2; replace HO3 := hid (ownX_gr HO3.out (by first | exact q4 | exact Gr.trans (Gr.drew (Gr.refl _)) q4)); clear hO4)
        | (go_at_call 33; (with_reducible refine Calls.mono (HIM.out _ _ q3 g4 ds3 (by first | exact HO3.out | exact ownX_gr HO3.out (Gr.drew (Gr.refl _))) HM3.out HI3.out (by first | exact HO4.out | exact boxes_gr HO4.out (Gr.drew (Gr.refl _)))) ?_); rintro e w5 ⟨⟨rv5, ks5, rfl, hR5, hQ5⟩, q5⟩; have G5 := Gr.trans (And.left (by assumption)) q5; have HR5 := hid (own_lo hR5 (Nat.le_trans (Gr.size G4) (by first | exact Nat.le_refl _ | exact Gr.size (Gr.drew (Gr.refl _))))); have HQ5 := hid hQ5; clear hR5 hQ5))
    all_goals (go_wp2_with fail; go_meet)
    all_goals exact ⟨rv5, ks5, rfl, G5, HR5, HQ5⟩
  obtain ⟨rv20, ks20, e20, q20, HR20, HQ20⟩ := hcut
  replace e20 := e20.symm
  subst e20
  obtain ⟨wH, hH⟩ : ∃ x, x = wc := ⟨_, rfl⟩
  subst hH
  obtain rfl : ks20 = ks9 := kq_one HQ20.out HQ3.out
  replace HM := hid (owns_gr HM.out q20)
  replace C := C.trans q20
  clear q20 K3 HTX3 HTT3 G0
  go_wp2_with fail
  refine (eqClashS_same _ _ rv20 rv3 ks20 _ HR20.out (owns_gr HR3.out C) hkl).mono ?_
  rintro e wI ⟨rfl, qI⟩
  replace HM := hid (owns_gr HM.out qI)
  replace C := C.trans qI
  clear qI
  go_wp2_with fail
  (with_reducible refine Calls.mono (HHE.out _ HM.out) ?_)
  rintro e wJ ⟨rfl, qJ⟩
  go_wp2
  go_ret
  exact ⟨rfl, HGB.out.trans (HGC.out.trans (C.trans qJ))⟩
end Go.Proofs.YtpdcgjkfilohcabGreat
