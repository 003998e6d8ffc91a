import Derived.Test.YtpdcgjkfilohcabGreatAskD
import Derived.Test.YtpdcgjkfilohcabGreatTubeOk
namespace Go.Proofs.YtpdcgjkfilohcabGreat
open Go.RowKit Go.Sort Go.Maps
attribute [local go_sem ↓] Go.wp_at_zero Go.wp_at_succ
set_option linter.unusedSimpArgs false
set_option linter.unusedVariables false

/-! What is told, name by name. -/

/-- A clash that is told. -/
def encA (tn : ByteArray) (p : ByteArray × K3) : List Value := [.string tn, .string p.1, .int .i64 p.2.1, .int .i64 p.2.2.1, .int .i64 p.2.2.2]
theorem encA_len (tn : ByteArray) (l : List (ByteArray × K3)) : (l.flatMap (encA tn)).length = l.length * 5 := by
  induction l with
  | nil => rfl
  | cons x l ih => rw [List.flatMap_cons, List.length_append, ih, List.length_cons]; simp [encA]; omega
theorem encA_one {tn : ByteArray} {l : List (ByteArray × K3)} {u : Value} (h : u ∈ l.flatMap (encA tn)) : u.oneCell' = true := by
  obtain ⟨p, -, hu⟩ := List.mem_flatMap.1 h
  unfold encA at hu
  simp only [List.mem_cons, List.not_mem_nil, or_false] at hu
  rcases hu with rfl | rfl | rfl | rfl | rfl <;> rfl
/-- What is told of a name. -/
def toldOf (bs : List Bx) (pts : List Pt) (tn n : ByteArray) : Option (ByteArray × K3) := if n = tn then none else (least (cands bs n pts)).map fun k => (n, k)
def AnsQ (ok : Bool) (bs : List Bx) (pts : List Pt) (tn : ByteArray) (l : List (ByteArray × K3)) : Prop := (ok = true → AnsIs bs pts tn l) ∧ (ok = false → l = [])
theorem told_succ {bs : List Bx} {pts : List Pt} {tn n : ByteArray} {ns : List ByteArray} {i : Nat} (h : ns[i]? = some n) : (ns.take (i + 1)).filterMap (toldOf bs pts tn) = (ns.take i).filterMap (toldOf bs pts tn) ++ (toldOf bs pts tn n).toList := by
  rw [List.take_add_one, h, List.filterMap_append]
  congr 1
theorem kV_form (s t : ByteArray) (st : Option K3) : ∃ s1 t1 x1 x2 x3, kV s t st = #[.string s1, .string t1, .int .i64 x1, .int .i64 x2, .int .i64 x3] ∧ ∀ k, st = some k → s1 = s ∧ t1 = t ∧ k = (x1, x2, x3) := by
  cases st with
  | none => exact ⟨_, _, _, _, _, rfl, fun k h => by cases h⟩
  | some k => exact ⟨_, _, _, _, _, rfl, fun k' h => by cases h; exact ⟨rfl, rfl, rfl⟩⟩
/-- Rows of two kinds lie apart. -/
theorem rows_apart {w : World} {lo lo' e e' size size' n n' : Nat} {v v' : Value} {xs xs' : List Value} (h : w.ownsRow lo e size v n xs) (h' : w.ownsRow lo' e' size' v' n' xs') (he : e ≠ e') {g g' : Nat} (hg : v.ownBlock = some g) (hg' : v'.ownBlock = some g') : g ≠ g' := by
  obtain ⟨-, -, cur, h1⟩ := row_block h hg
  obtain ⟨-, -, cur', h2⟩ := row_block h' hg'
  rintro rfl
  rw [h1] at h2
  cases h2
  exact he rfl
/-- A row stays where another one grows. -/
theorem row_stays {w w' : World} {lo e size n : Nat} {v : Value} {xs : List Value} {r : Option Nat} (h : w.ownsRow lo e size v n xs) (hg : w.grownBy w' r) (hr : ∀ g, v.ownBlock = some g → some g ≠ r) : w'.ownsRow lo e size v n xs := by
  refine ⟨h.1, h.2.imp id (fun ⟨g, cap, cur, e1, hb, hh, rest⟩ => ⟨g, cap, cur, e1, hb, ?_, rest⟩)⟩
  rw [hg.block g (Array.getElem?_eq_some_iff.1 hh).1 (hr g (by rw [e1]; rfl))]
  exact hh
theorem Tryz.info61 : (Tryz.prog.info? 61).map (fun i => (i.zero, i.size, i.bytes)) = some (some (.agg #[.string ⟨#[]⟩, .string ⟨#[]⟩, .int .i64 0, .int .i64 0, .int .i64 0]), 5, 56) := by kernel_rfl

set_option maxRecDepth 100000 in
set_option maxHeartbeats 4000000 in
theorem specAsk_any (lo : Nat) (v : Value) (cs : List Cx) (tn : ByteArray) (ba : Option Addr) (bc : Nat) (bs : List Bx) (w : World) (h : OwnX lo w v cs) (hS : SmallX cs) (hP : (ptsOf (idxOf cs)).length ≤ 1048576) (hs : tn.size ≤ maxLen) (hb : Boxes w ba bs) (hbn : bs.length ≤ 1048576) :
    Calls Tryz.prog 31 #[.agg #[v], .agg #[.string tn, .slice ba bs.length bc]] w fun e w' => (∃ rv l, e = .returned rv ∧ w'.ownsRow w.heap.size 61 5 rv l.length (l.flatMap (encA tn)) ∧ AnsQ (tubeB tn bs) bs (ptsOf (idxOf cs)) tn l) ∧ Gr w w' := by
  obtain ⟨i0, hi, hz0, hz1, hz2⟩ := info_parts Tryz.info61
  obtain ⟨a, cap, rfl⟩ := row_form h.row
  have HX := hidE h
  have HBS := hidE hb
  have G1 : Gr w (((w.alloc (.cells #[.slice a cs.length cap] 48)).alloc (.cells #[.string tn, .slice ba bs.length bc] 40)).alloc (.cells #[] 61)) := (((Gr.refl w).alloc _).alloc _).alloc _
  have HG1 := hidE G1
  have HT := hidE (specTubeOk_any tn ba bc bs (((w.alloc (.cells #[.slice a cs.length cap] 48)).alloc (.cells #[.string tn, .slice ba bs.length bc] 40)).alloc (.cells #[] 61)) hs (boxes_gr hb G1) hbn)
  have HBX : Hid (∀ w', Gr ((w.alloc (.cells #[.slice a cs.length cap] 48)).alloc (.cells #[.string tn, .slice ba bs.length bc] 40)) w' → w'.cell? ⟨w.heap.size, 0, none⟩ = some (.slice a cs.length cap) ∧ w'.cell? ⟨w.heap.size + 1, 0, none⟩ = some (.string tn) ∧ w'.cell? ⟨w.heap.size + 1, 1, none⟩ = some (.slice ba bs.length bc)) := fun w' g' => by
    refine ⟨?_, ?_, ?_⟩
    · exact (g'.cells.1 _ _ (by simp <;> omega)).trans ((cell_old (by simp)).trans ((cell_new (by simp)).trans rfl))
    · exact (g'.cells.1 _ _ (by simp)).trans ((cell_new (by simp)).trans rfl)
    · exact (g'.cells.1 _ _ (by simp)).trans ((cell_new (by simp)).trans rfl)
  have HO0 : Hid ((((w.alloc (.cells #[.slice a cs.length cap] 48)).alloc (.cells #[.string tn, .slice ba bs.length bc] 40)).alloc (.cells #[] 61)).ownsRow (w.heap.size + 1 + 1) 61 5 (.slice (some ⟨w.heap.size + 1 + 1, 0, none⟩) 0 0) 0 []) := own_empty 5 (Nat.le_refl _) (by have h9 := World.alloc_heap_new ((w.alloc (.cells #[.slice a cs.length cap] 48)).alloc (.cells #[.string tn, .slice ba bs.length bc] 40)) (.cells #[] 61); simpa only [World.size_alloc] using h9)
  clear h hb G1
  go_enter Tryz.func31, Tryz.ntmps31
  go_wp2_with fail
  (with_reducible refine Calls.mono HT.out ?_)
  rintro e w1 ⟨rfl, g1⟩
  have HO1 := hidE (owns_gr HO0.out g1)
  have HG2 := hidE (((Gr.refl ((w.alloc (.cells #[.slice a cs.length cap] 48)).alloc (.cells #[.string tn, .slice ba bs.length bc] 40))).alloc (.cells #[] 61)).trans g1)
  have HG3 := hidE (HG1.out.trans g1)
  clear g1
  cases hok : tubeB tn bs
  · go_wp2
    go_ret
    exact ⟨⟨_, [], rfl, own_lo HO1.out (by omega), fun h => by (try cases h) <;> simp_all, fun _ => rfl⟩, HG3.out⟩
  · obtain ⟨b0, b1, b2⟩ := HBX.out _ HG2.out
    have HN := hidE (l5Names_any lo _ cs w1 (ownX_gr HX.out HG3.out) hS hP)
    go_wp2_with fail
    (with_reducible refine Calls.mono HN.out ?_)
    rintro e w2 ⟨⟨rv, ns, rfl, hN2, hA2⟩, g2⟩
    obtain ⟨an, cn, e⟩ := row_form hN2
    subst e
    have hnl : ns.length ≤ 1048576 := Nat.le_trans (names_len hA2) hP
    have HNR := hidE (own_lo hN2 HG3.out.size)
    have HOR := hidE (owns_gr HO1.out g2)
    have HA := hidE hA2
    have HG4 := hidE (HG2.out.trans g2)
    have HGW : Hid (Gr w ((w.alloc (.cells #[.slice a cs.length cap] 48)).alloc (.cells #[.string tn, .slice ba bs.length bc] 40))) := ((Gr.refl w).alloc _).alloc _
    clear hN2 hA2 g2 HO0 HO1 HN HT b0 b1 b2
    have HOK := hidE hok
    clear hok
    go_wp2
    go_loopw [5, 7] (fun vo nn wr => ∃ (i c q : Nat) (l : List (ByteArray × K3)), i ≤ ns.length ∧ nn = .int .i64 i ∧ vo = .slice (some ⟨q, 0, none⟩) l.length c ∧ Hid (wr.ownsRow (w.heap.size + 1 + 1) 61 5 (.slice (some ⟨q, 0, none⟩) l.length c) l.length (l.flatMap (encA tn))) ∧ Hid (wr.ownsRow w.heap.size 9 1 (.slice an ns.length cn) ns.length (strs ns)) ∧ Hid (l = (ns.take i).filterMap (toldOf bs (ptsOf (idxOf cs)) tn)) ∧ Gr ((w.alloc (.cells #[.slice a cs.length cap] 48)).alloc (.cells #[.string tn, .slice ba bs.length bc] 40)) wr) (fun _ nn _ => ns.length - (intOf nn).toNat)
    case atStart => exact ⟨0, 0, _, [], Nat.zero_le _, rfl, rfl, HOR, HNR, rfl, HG4.out⟩
    case round =>
      clear HOR HNR HG4
      obtain ⟨i, c, q, l, hil, rfl, rfl, HO, HNR, HL, gr⟩ := hrel
      obtain ⟨wR, hR⟩ : ∃ x, x = wr := ⟨_, rfl⟩
      subst hR
      obtain ⟨b0, b1, b2⟩ := HBX.out _ gr
      by_cases hin : i < ns.length
      · obtain ⟨n, hn⟩ : ∃ n, ns[i]? = some n := ⟨_, List.getElem?_eq_getElem hin⟩
        obtain ⟨gN, cN, eN⟩ := row_some HNR.out (by omega)
        simp only [Value.slice.injEq, true_and] at eN
        obtain ⟨rfl, rfl⟩ := eN
        have HNC : Hid (∀ w', Gr wR w' → w'.cell? ⟨gN, i, none⟩ = some (.string n)) := fun w' g' => strs_cell (owns_gr HNR.out g') rfl hn
        have HTS := hidE (told_succ (bs := bs) (pts := ptsOf (idxOf cs)) (tn := tn) hn)
        have hi0 : (0 : Int) ≤ (i : Int) := by omega
        have hi1 : (i : Int) < (ns.length : Int) := by omega
        obtain ⟨st, hst⟩ : ∃ st, least (cands bs n (ptsOf (idxOf cs))) = st := ⟨_, rfl⟩
        obtain ⟨s1, t1, x1, x2, x3, hkV, hkE⟩ := kV_form tn n st
        have HF : Hid (∀ w', Gr wR w' → Calls Tryz.prog 56 #[.agg #[.slice a cs.length cap], .agg #[.string tn, .slice ba bs.length bc], .string n] w' fun e w'' => e = .returned (.tuple #[.agg #[.string s1, .string t1, .int .i64 x1, .int .i64 x2, .int .i64 x3], .bool st.isSome]) ∧ Gr w' w'') := fun w' g' => by
          have h9 := l5First_any lo (.slice a cs.length cap) cs tn n ba bc bs w' (ownX_gr HX.out ((HGW.out.trans gr).trans g')) hS (boxes_gr HBS.out ((HGW.out.trans gr).trans g')) hbn
          rw [hst, hkV] at h9
          exact h9
        have HKE := hidE hkE
        have HTO : Hid (toldOf bs (ptsOf (idxOf cs)) tn n = if n = tn then none else st.map fun k => (n, k)) := by
          show _ = _
          unfold toldOf
          rw [hst]
        generalize hfb : st.isSome = fb at *
        have HFB := hidE hfb
        have KK : Hid (∀ w', Gr wR w' → Gr wR w' ∧ w'.cell? ⟨w.heap.size, 0, none⟩ = some (.slice a cs.length cap) ∧ w'.cell? ⟨w.heap.size + 1, 0, none⟩ = some (.string tn) ∧ w'.cell? ⟨w.heap.size + 1, 1, none⟩ = some (.slice ba bs.length bc) ∧ w'.cell? ⟨gN, i, none⟩ = some (.string n)) := fun w' g' => ⟨g', (HBX.out _ (gr.trans g')).1, (HBX.out _ (gr.trans g')).2.1, (HBX.out _ (gr.trans g')).2.2, HNC.out _ g'⟩
        have q0 := Gr.refl wR
        have HGR := hidE gr
        clear hst hkV hkE hfb gr hn b0 b1 b2
        go_upto_region 8 with fail
        go_cut [8, 9] from 23 to 46 (fun s8 s9 wx => (∃ p, s8 = .pointer (some ⟨p, 0, none⟩) ∧ p < wx.heap.size ∧ wx.cell? ⟨p, 0, none⟩ = some (.string s1) ∧ wx.cell? ⟨p, 1, none⟩ = some (.string t1) ∧ wx.cell? ⟨p, 2, none⟩ = some (.int .i64 x1) ∧ wx.cell? ⟨p, 3, none⟩ = some (.int .i64 x2) ∧ wx.cell? ⟨p, 4, none⟩ = some (.int .i64 x3)) ∧ s9 = .bool fb ∧ Gr wR wx)
        case first =>
          go_region_held3 (fun w' => Gr wR w' ∧ w'.cell? ⟨w.heap.size, 0, none⟩ = some (.slice a cs.length cap) ∧ w'.cell? ⟨w.heap.size + 1, 0, none⟩ = some (.string tn) ∧ w'.cell? ⟨w.heap.size + 1, 1, none⟩ = some (.slice ba bs.length bc) ∧ w'.cell? ⟨gN, i, none⟩ = some (.string n))
            ((refine KK.out _ ?_; repeat (first | with_reducible exact q0 | with_reducible assumption | with_reducible exact And.left (by assumption) | with_reducible refine Gr.drew ?_ | with_reducible refine Gr.alloc ?_ _ | with_reducible refine Gr.setCell ?_ (Gr.size (by assumption)) _)))
            (first
              | (go_at_call 56; (with_reducible refine Calls.mono (HF.out _ (And.left (by assumption))) ?_); rintro e wc ⟨rfl, g1⟩; have g2 := Gr.trans (And.left (by assumption)) g1; (first | have hz := Gr.lt_alloc g1 | have hz := Gr.lt_alloc_drew g1 | have hz := Nat.lt_of_lt_of_le hz g1.size | skip); obtain ⟨hc, hf⟩ := g1.cells) | fail)
          all_goals (go_wp2_with fail; go_meet)
          all_goals (refine ⟨⟨_, rfl, ?_, ?_, ?_, ?_, ?_, ?_⟩, rfl, And.left (by assumption)⟩)
          all_goals (first | (go_simp; done) | (simp; omega))
        obtain ⟨⟨p, rfl, hp, p0, p1, p2, p3, p4⟩, rfl, g3⟩ := hcut
        obtain ⟨wC, hC⟩ : ∃ x, x = wc := ⟨_, rfl⟩
        subst hC
        have HCP : Hid (∀ w', Gr wC w' → w'.cell? ⟨p, 0, none⟩ = some (.string s1) ∧ w'.cell? ⟨p, 1, none⟩ = some (.string t1) ∧ w'.cell? ⟨p, 2, none⟩ = some (.int .i64 x1) ∧ w'.cell? ⟨p, 3, none⟩ = some (.int .i64 x2) ∧ w'.cell? ⟨p, 4, none⟩ = some (.int .i64 x3)) := fun w' g' => by
          obtain ⟨hc, -⟩ := g'.cells
          simp only [hc p _ hp]
          exact ⟨p0, p1, p2, p3, p4⟩
        obtain ⟨-, b0, b1, b2, n0⟩ := KK.out _ g3
        clear p0 p1 p2 p3 p4
        go_upto_region 9 with fail
        go_cut [42] from 33 to 46 (fun s42 wx => s42 = .bool (fb && !(n.toList == tn.toList)) ∧ Gr wC wx)
        case first =>
          cases fb
          · go_quiet (fail)
            go_wp2_with fail
            go_meet
            exact ⟨rfl, (Gr.refl _).drewN _⟩
          · go_quiet (fail)
            go_wp2_with fail
            go_meet
            exact ⟨rfl, (Gr.refl _).drewN _⟩
        obtain ⟨rfl, g4⟩ := hcut
        obtain ⟨wD, hD⟩ : ∃ x, x = wc := ⟨_, rfl⟩
        subst hD
        have HO4 := hidE (owns_gr HO.out (g3.trans g4))
        have HN4 := hidE (owns_gr HNR.out (g3.trans g4))
        have HG4 := hidE (HGR.out.trans (g3.trans g4))
        obtain ⟨p0, p1, p2, p3, p4⟩ := HCP.out _ g4
        have hp4 := Nat.lt_of_lt_of_le hp g4.size
        have hll : l.length ≤ ns.length := by
          have h9 := HL.out
          rw [h9]
          exact Nat.le_trans (List.length_filterMap_le _ _) (by simp; omega)
        clear HO HNR b0 b1 b2 n0 HF KK q0
        cases hgo : (fb && !(n.toList == tn.toList))
        · have HL2 : Hid (l = (ns.take (i + 1)).filterMap (toldOf bs (ptsOf (idxOf cs)) tn)) := by
            show _ = _
            rw [HTS.out, ← HL.out]
            have e : toldOf bs (ptsOf (idxOf cs)) tn n = none := by
              rw [HTO.out]
              by_cases e1 : n = tn
              · rw [if_pos e1]
              · rw [if_neg e1]
                have e2 : (n.toList == tn.toList) = false := by
                  rw [beq_eq_false_iff_ne]
                  exact fun e3 => e1 (ba_ext e3)
                rw [e2] at hgo
                have e4 : fb = false := by simpa using hgo
                have e5 := HFB.out
                rw [e4] at e5
                cases st with
                | none => rfl
                | some k => cases e5
            rw [e]
            simp
          clear HL
          go_wp2
          go_roundw
          case rel => exact ⟨i + 1, c, q, l, by omega, by go_num, rfl, HO4, HN4, HL2, HG4.out⟩
          case measure => simp [intOf]; omega
        · obtain ⟨hf1, hf2⟩ : fb = true ∧ (n.toList == tn.toList) = false := by simpa using hgo
          obtain ⟨k, hk⟩ : ∃ k, st = some k := by
            have e5 := HFB.out
            rw [hf1] at e5
            exact Option.isSome_iff_exists.1 e5
          obtain ⟨e1, e2, e3⟩ := HKE.out k hk
          have e1' := e1.symm
          have e2' := e2.symm
          clear e1 e2
          subst e1' e2' e3
          have HTN : Hid (toldOf bs (ptsOf (idxOf cs)) tn n = some (n, (x1, x2, x3))) := by
            show _ = _
            have e6 : n ≠ tn := fun e => by rw [e] at hf2; simp at hf2
            rw [HTO.out, if_neg e6, hk]
            rfl
          have HL2 : Hid (l ++ [(n, (x1, x2, x3))] = (ns.take (i + 1)).filterMap (toldOf bs (ptsOf (idxOf cs)) tn)) := by
            show _ = _
            rw [HTS.out, ← HL.out, HTN.out]
            rfl
          have hsz := HG4.out.size
          have hsz2 : w.heap.size + 1 + 1 ≤ wD.heap.size := by simpa using hsz
          clear HL hf1 hf2 hk HKE HTO HFB hsz
          go_wp2_with (at_builtin; refine wpList_append_own _ rfl (.tmp 43) (.tmp 45) 24 rfl (w.heap.size + 1 + 1) 61 i0 _ 5 56 Tryz.underlying24 hi hz0 hz1 hz2 rfl (by decide) _ _ _ rfl (HO4.out.alloc _) ⟨wD.heap.size, 0, none⟩ 1 1 [.string tn, .string n, .int .i64 x1, .int .i64 x2, .int .i64 x3] rfl rfl (by exact news_cells wD _ rfl [.string tn, .string n, .int .i64 x1, .int .i64 x2, .int .i64 x3] _) (by simp [Value.oneCell']) (by unfold maxLen; omega) (by omega) (by simp; omega) ?_; intro v' w5 hown' hgrow hnil)
          have HN5 := hidE (row_stays (HN4.out.alloc (.cells #[.string tn, .string n, .int .i64 x1, .int .i64 x2, .int .i64 x3] 61)) hgrow (fun g hg e => rows_apart (HO4.out.alloc (.cells #[.string tn, .string n, .int .i64 x1, .int .i64 x2, .int .i64 x3] 61)) (HN4.out.alloc (.cells #[.string tn, .string n, .int .i64 x1, .int .i64 x2, .int .i64 x3] 61)) (by decide) rfl hg (Option.some.inj e).symm))
          have HG5 : Hid (Gr ((w.alloc (.cells #[.slice a cs.length cap] 48)).alloc (.cells #[.string tn, .slice ba bs.length bc] 40)) w5) := Below.grown (HG4.out.alloc (.cells #[.string tn, .string n, .int .i64 x1, .int .i64 x2, .int .i64 x3] 61)) hgrow (by simp; omega) (fun z hz => by have h9 := (row_block (HO4.out.alloc (.cells #[.string tn, .string n, .int .i64 x1, .int .i64 x2, .int .i64 x3] 61)) hz).1; simpa using h9)
          obtain ⟨g5, c5, e5⟩ := row_some hown' (by omega)
          subst e5
          have hl9 : (l ++ [(n, (x1, x2, x3))]).length = l.length + 1 := by simp
          have HO5 : Hid (w5.ownsRow (w.heap.size + 1 + 1) 61 5 (.slice (some ⟨g5, 0, none⟩) (l ++ [(n, (x1, x2, x3))]).length c5) (l ++ [(n, (x1, x2, x3))]).length ((l ++ [(n, (x1, x2, x3))]).flatMap (encA tn))) := by
            show World.ownsRow _ _ _ _ _ _ _
            rw [hl9, List.flatMap_append]
            simpa [encA] using hown'
          have HV9 := hidE (congrArg (fun z => Value.slice (some ⟨g5, 0, none⟩) z c5) hl9.symm)
          clear hown' hgrow hnil hl9
          go_wp2
          go_roundw
          case rel => exact ⟨i + 1, c5, g5, l ++ [(n, (x1, x2, x3))], by omega, by go_num, HV9.out, HO5, HN5, HL2, HG5.out⟩
          case measure => simp [intOf]; omega
      · have hd : decide (i < ns.length) = false := by simpa using hin
        have HQ : Hid (AnsQ (tubeB tn bs) bs (ptsOf (idxOf cs)) tn l) := by
          refine ⟨fun _ => ?_, fun h => by rw [HOK.out] at h; cases h⟩
          have e : ns.take i = ns := List.take_of_length_le (by omega)
          have h9 := HL.out
          rw [e] at h9
          rw [h9]
          exact ans_of HA.out
        have HG9 := hidE (HGW.out.trans gr)
        have HO9 := hidE (own_lo HO.out (by omega : w.heap.size ≤ w.heap.size + 1 + 1))
        clear hin HO
        go_wp2
        go_ret
        exact ⟨⟨_, l, rfl, HO9.out, HQ.out⟩, HG9.out⟩
end Go.Proofs.YtpdcgjkfilohcabGreat
