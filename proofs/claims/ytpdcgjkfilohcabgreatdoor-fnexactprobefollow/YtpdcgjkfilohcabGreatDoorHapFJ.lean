import Derived.Test.YtpdcgjkfilohcabGreatDoorHapAE
import Derived.Deep.CutRange
import Derived.Lib.Bytealg
import Derived.Deep.DeepAppendRoom
import Derived.Deep.RegionLaw
import Derived.Laws.CopyRow
import Derived.Lib.AppendZerosOnto
import Derived.Lib.AppendZeros
import Derived.Lib.Overlaps
namespace Go.Proofs.YtpdcgjkfilohcabGreatDoor
open Go.RowKit
attribute [local go_sem ↓] Go.wp_at_zero Go.wp_at_succ

theorem sky_tiny {ts : List Tb} (h : skyB ts = true) : ts.length ≤ 24 ∧ (∀ t ∈ ts, t.bs.length ≤ 40 ∧ tubeB t.s t.bs = true) ∧ ascTo ts ts.length = true := by
  simp only [skyB, Bool.and_eq_true, decide_eq_true_eq] at h
  refine ⟨h.1.1, fun t ht => ?_, h.2⟩
  obtain ⟨k, hk, rfl⟩ := List.mem_iff_getElem.1 ht
  have h1 := h.1.2
  rw [okTo, List.all_eq_true] at h1
  have h2 := h1 k (List.mem_range.2 hk)
  have e : ts.getD k Tb.nil = ts[k] := by rw [List.getD_eq_getElem?_getD, List.getElem?_eq_getElem hk]; rfl
  unfold tubeAt nm bx at h2
  rw [e] at h2
  refine ⟨?_, h2⟩
  simp only [tubeB, Bool.and_eq_true, decide_eq_true_eq] at h2
  exact h2.1.2
theorem less_place {ts : List Tb} {s : ByteArray} {p k : Nat} (h : PlaceIs ts s p) (hk : k < ts.length) : lessN ts s k = decide (k < p) := by
  by_cases hkp : k < p
  · rw [h.2.1 k hkp]; simp [hkp]
  · rw [h.2.2 k (by omega) hk]; simp [hkp]
/-- A round of the specification's loop. -/
theorem out_step {ts : List Tb} {s : ByteArray} {p k : Nat} {drop : Bool} (t : Tb) (hP : PlaceIs ts s p) (hk : k < ts.length) (hd : drop = true → there ts s p = true) (i : Int) (hi : i = if there ts s p then (p : Int) else -1) :
    outAt ts p (if there ts s p then 1 else 0) (if drop then [] else [t]) (k + 1) = outAt ts p (if there ts s p then 1 else 0) (if drop then [] else [t]) k ++ (if !(drop || decide (p < k)) && !lessN ts s k then [t] else []) ++ (if ((k : Int) != i) then [ts.getD k Tb.nil] else []) := by
  rw [less_place hP hk]
  subst hi
  rcases Nat.lt_trichotomy k p with hlt | rfl | hgt
  · have h1 : decide (k < p) = true := by simp [hlt]
    have h2 : ((k : Int) != if there ts s p then (p : Int) else -1) = true := by simp; split <;> omega
    rw [h1, h2, out_ahead hlt hP.1]
    simp
  · have h1 : decide (k < k) = false := by simp
    rw [h1]
    cases ht : there ts s k
    · have hdf : drop = false := by
        cases hdd : drop
        · rfl
        · have := hd hdd; rw [ht] at this; cases this
      subst hdf
      have h2 : ((k : Int) != -1) = true := by simp
      simp only [Bool.false_eq_true, if_false, h2, if_true, Bool.false_or, Bool.not_false, Bool.and_self]
      rw [out_in hk]
    · simp only [if_true, bne_self_eq_false, Bool.false_eq_true, if_false, List.append_nil, Bool.or_false, Bool.not_false, Bool.and_true]
      rw [out_skip]
      cases drop <;> simp
  · have h1 : decide (k < p) = false := by simp; omega
    have h3 : decide (p < k) = true := by simp [hgt]
    have h2 : ((k : Int) != if there ts s p then (p : Int) else -1) = true := by simp; split <;> omega
    rw [h1, h2, h3, out_behind hgt (by split <;> omega) hk]
    simp
theorem done_step {ts : List Tb} {s : ByteArray} {p k : Nat} (drop : Bool) (hP : PlaceIs ts s p) (hk : k < ts.length) : ((drop || decide (p < k)) || (!(drop || decide (p < k)) && !lessN ts s k)) = (drop || decide (p < k + 1)) := by
  rw [less_place hP hk]
  rcases Nat.lt_trichotomy k p with hlt | rfl | hgt
  · have h1 : decide (k < p) = true := by simp [hlt]
    have h2 : decide (p < k) = false := by simp; omega
    have h3 : decide (p < k + 1) = false := by simp; omega
    rw [h1, h2, h3]; cases drop <;> rfl
  · have h1 : decide (k < k) = false := by simp
    have h3 : decide (k < k + 1) = true := by simp
    rw [h1, h3]; cases drop <;> rfl
  · have h1 : decide (p < k) = true := by simp [hgt]
    have h3 : decide (p < k + 1) = true := by simp; omega
    rw [h1, h3]; cases drop <;> simp
theorem out_last {ts : List Tb} {s : ByteArray} {p : Nat} {drop : Bool} (t : Tb) (hP : PlaceIs ts s p) (hd : drop = true → there ts s p = true) :
    outAt ts p (if there ts s p then 1 else 0) (if drop then [] else [t]) ts.length ++ (if !(drop || decide (p < ts.length)) then [t] else []) = edit ts p (if there ts s p then 1 else 0) (if drop then [] else [t]) := by
  by_cases h : p < ts.length
  · have h1 : decide (p < ts.length) = true := by simp [h]
    rw [out_all h, h1]
    simp
  · have e : p = ts.length := by have := hP.1; omega
    have ht : there ts s p = false := by unfold there; simp [h]
    have hdf : drop = false := by
      cases hdd : drop
      · rfl
      · have := hd hdd; rw [ht] at this; cases this
    subst hdf
    rw [ht]
    subst e
    have h1 : decide (ts.length < ts.length) = false := by simp
    rw [h1]
    simp only [Bool.false_eq_true, if_false, Bool.or_self, Bool.not_false, if_true]
    exact out_end
theorem at_place {ts : List Tb} {s : ByteArray} {p : Nat} {i : Int} (ha : ascTo ts ts.length = true) (hP : PlaceIs ts s p) (h : (i = -1 ∧ ∀ k, k < ts.length → hasN ts s k = false) ∨ ∃ k : Nat, i = k ∧ k < ts.length ∧ hasN ts s k = true ∧ ∀ j, j < k → hasN ts s j = false) : i = if there ts s p then (p : Int) else -1 := by
  rcases h with ⟨rfl, hn⟩ | ⟨k, rfl, hk, hh, -⟩
  · have : there ts s p = false := by
      unfold there
      by_cases hp : p < ts.length
      · rw [hn p hp]; simp
      · simp [hp]
    rw [this]; rfl
  · have e := has_place ha hP hk hh
    subst e
    have : there ts s k = true := by unfold there; simp [hk, hh]
    rw [this]; rfl

theorem row_tubes {w : World} {base : Nat} {v : Value} {ts : List Tb} (h : w.ownsRow base 43 2 v ts.length (flatT ts)) (hb : ∀ t ∈ ts, Boxes w t.a t.bs) : ∃ a cap, v = .slice a ts.length cap ∧ Tubes w a ts := by
  obtain ⟨a, cap, e, -, h2⟩ := owns_tubes rfl h
  refine ⟨a, cap, e, fun k hk => ?_⟩
  obtain ⟨g, e1, hg, hx⟩ := h2 k hk
  exact ⟨g, 0, e1, hg, by rw [Nat.zero_add]; exact hx, hb _ (getD_mem hk)⟩
theorem tubes_boxes {w : World} {a : Option Addr} {ts : List Tb} (h : Tubes w a ts) {t : Tb} (ht : t ∈ ts) : Boxes w t.a t.bs := by
  obtain ⟨k, hk, rfl⟩ := List.mem_iff_getElem.1 ht
  have e : ts.getD k Tb.nil = ts[k] := by rw [List.getD_eq_getElem?_getD, List.getElem?_eq_getElem hk]; rfl
  obtain ⟨g, o, -, -, -, hb⟩ := h k hk
  rw [e] at hb
  exact hb

set_option maxRecDepth 100000 in
set_option maxHeartbeats 2000000 in
theorem specHappen_any (a : Option Addr) (cap : Nat) (ts : List Tb) (drop : Bool) (s : ByteArray) (q r tc : Nat) (bs : List Bx) (p : Nat) (w : World) (ha : Tubes w a ts) (hS : Small ts) (hM : Made ts) (hs : s.size ≤ maxLen) (hbl : bs.length ≤ 1048576) (hb : Boxes w (some ⟨q, r, none⟩) bs) (hP : skyB ts = true → PlaceIs ts s p) :
    Calls Tryz.prog 24 #[.slice a ts.length cap, .agg #[.bool drop, .string s, .slice (some ⟨q, r, none⟩) bs.length tc]] w fun e w' => (∃ v us, e = .returned (.tuple #[v, .int .i64 (happenR ts drop (⟨s, some ⟨q, r, none⟩, tc, bs⟩ : Tb) p).2]) ∧ OwnT w.heap.size w' v us ∧ Like us (happenR ts drop (⟨s, some ⟨q, r, none⟩, tc, bs⟩ : Tb) p).1) ∧ Gr w w' := by
  obtain ⟨i0, hi, hz0, hz1, hz2⟩ := info_parts Tryz.info43
  have HSK : Hid (∀ w', Gr w w' → Calls Tryz.prog 47 #[.slice a ts.length cap] w' fun e w'' => e = .returned (.bool (skyB ts)) ∧ Gr w' w'') := fun w' g => specSkyOk_any a cap ts w' (tubes_gr ha g) hS
  cases hsky : skyB ts
  · have HV : Hid ((happenR ts drop (⟨s, some ⟨q, r, none⟩, tc, bs⟩ : Tb) p) = ([], 1)) := by show (happenR ts drop (⟨s, some ⟨q, r, none⟩, tc, bs⟩ : Tb) p) = _; simp [happenR, hsky]
    rw [hsky] at HSK
    go_enter Tryz.func24, Tryz.ntmps24
    go_wp2_with (go_at_call 47; refine (HSK.out _ ((Gr.refl _).alloc _)).mono ?_; rintro e w1 ⟨rfl, g1⟩)
    go_ret2
    have G1 := ((Gr.refl w).alloc (.cells #[.bool drop, .string s, .slice (some ⟨q, r, none⟩) bs.length tc] 45)).trans g1
    exact ⟨⟨_, [], by rw [HV.out]; rfl, ownT_lo (ownT_empty w1) G1.size, by rw [HV.out]; exact ⟨rfl, fun k hk => by simp at hk⟩⟩, G1.alloc _⟩
  obtain ⟨hn, ht, hasc⟩ := sky_tiny hsky
  have hpl := hP hsky
  have HPl : Hid (PlaceIs ts s p) := hpl
  rw [hsky] at HSK
  have HCP : Hid (∀ w', Gr w w' → Calls Tryz.prog 49 #[.slice a ts.length cap] w' fun e w'' => (∃ v us, e = .returned v ∧ OwnT w'.heap.size w'' v us ∧ Like us ts) ∧ Gr w' w'') := fun w' g => l2List_any a cap ts w' (tubes_gr ha g) hM (by omega) (fun t h => by have := (ht t h).1; omega)
  have HTK : Hid (∀ w', Gr w w' → Calls Tryz.prog 48 #[.agg #[.string s, .slice (some ⟨q, r, none⟩) bs.length tc]] w' fun e w'' => e = .returned (.bool (tubeB s bs)) ∧ Gr w' w'') := fun w' g => specTubeOk_any s _ tc bs w' hs (boxes_gr hb g) hbl
  have HEV : Hid (∀ w', Gr (w.alloc (.cells #[.bool drop, .string s, .slice (some ⟨q, r, none⟩) bs.length tc] 45)) w' → w'.cell? ⟨w.heap.size, 0, none⟩ = some (.bool drop) ∧ w'.cell? ⟨w.heap.size, 1, none⟩ = some (.string s) ∧ w'.cell? ⟨w.heap.size, 2, none⟩ = some (.slice (some ⟨q, r, none⟩) bs.length tc)) := fun w' g => ⟨(g.cells.1 _ _ (by simp)).trans (by simp), (g.cells.1 _ _ (by simp)).trans (by simp), (g.cells.1 _ _ (by simp)).trans (by simp)⟩
  go_enter Tryz.func24, Tryz.ntmps24
  go_wp2_with fail
  refine (HSK.out _ ((Gr.refl _).alloc _)).mono ?_
  rintro e w1 ⟨rfl, G⟩
  obtain ⟨ev0, ev1, ev2⟩ := HEV.out _ G
  have hw1 : w.heap.size < w1.heap.size := by have := G.size; simp at this; omega
  by_cases h2 : drop = false ∧ tubeB s bs = false
  · obtain ⟨rfl, h2'⟩ := h2
    have HV : Hid ((happenR ts false (⟨s, some ⟨q, r, none⟩, tc, bs⟩ : Tb) p) = (ts, 2)) := by show (happenR ts false (⟨s, some ⟨q, r, none⟩, tc, bs⟩ : Tb) p) = _; simp [happenR, hsky, h2']
    rw [h2'] at HTK
    go_wp2_with (go_at_call 48; refine (HTK.out _ (Gr.trans ((Gr.refl w).alloc _) G)).mono ?_; rintro e w2 ⟨rfl, g2⟩)
    replace G := G.trans g2
    go_wp2_with fail
    (with_reducible refine Calls.mono (HCP.out _ (Gr.trans ((Gr.refl w).alloc _) G)) ?_)
    rintro e w8 ⟨⟨v8, us, rfl, hO8, hL8⟩, g8⟩
    obtain ⟨a8, c8, e8, -⟩ := ownT_tubes hO8
    subst e8
    go_wp2
    go_ret2
    have G8 := (Gr.trans ((Gr.refl w).alloc _) G).trans g8
    exact ⟨⟨_, us, by rw [HV.out]; rfl, ownT_lo hO8 (by have := (Gr.trans ((Gr.refl w).alloc _) G).size; exact this), by rw [HV.out]; exact hL8⟩, G8⟩
  have h2b : drop = false → tubeB s bs = true := fun h => by
    cases hh : tubeB s bs
    · exact absurd ⟨h, hh⟩ h2
    · rfl
  go_upto_region 3 with fail
  go_cut [22] (fun s22 wx => s22 = .bool false ∧ Gr w1 wx)
  case first =>
    cases drop
    · rw [h2b rfl] at HTK
      go_wp2_with (go_at_call 48; refine (HTK.out _ (Gr.trans ((Gr.refl w).alloc _) G)).mono ?_; rintro e w2 ⟨rfl, g2⟩)
      go_meet
      exact ⟨rfl, g2⟩
    · go_wp2_with fail
      go_meet
      exact ⟨rfl, Gr.refl _⟩
  obtain ⟨rfl, g2⟩ := hcut
  rename World => w2
  replace G := G.trans g2
  clear g2 ev0 ev1 ev2 HTK HSK
  have G2 : Hid (Gr w w2) := Gr.trans ((Gr.refl w).alloc _) G
  obtain ⟨ev0, ev1, ev2⟩ := HEV.out _ G
  have hw2 : w.heap.size < w2.heap.size := by have := G.size; simp at this; omega
  go_wp2_with fail
  refine (l6At_any a cap ts s w2 (tubes_gr ha G2.out) (by omega)).mono ?_
  rintro e w2' ⟨⟨i, rfl, hi'⟩, hw2'⟩
  replace hw2' := hw2'.symm
  subst hw2'
  have hI := at_place hasc hpl hi'
  clear hi'
  by_cases c3 : drop = true ∧ there ts s p = false
  · obtain ⟨rfl, hth⟩ := c3
    have HV : Hid ((happenR ts true (⟨s, some ⟨q, r, none⟩, tc, bs⟩ : Tb) p) = (ts, 3)) := by show (happenR ts true (⟨s, some ⟨q, r, none⟩, tc, bs⟩ : Tb) p) = _; simp [happenR, hsky, hth]
    rw [hth] at hI
    simp only [Bool.false_eq_true, if_false] at hI
    subst hI
    go_wp2_with fail
    (with_reducible refine Calls.mono (HCP.out _ (Gr.trans ((Gr.refl w).alloc _) G)) ?_)
    rintro e w8 ⟨⟨v8, us, rfl, hO8, hL8⟩, g8⟩
    obtain ⟨a8, c8, e8, -⟩ := ownT_tubes hO8
    subst e8
    go_wp2
    go_ret2
    have G8 := (Gr.trans ((Gr.refl w).alloc _) G).trans g8
    exact ⟨⟨_, us, by rw [HV.out]; rfl, ownT_lo hO8 (by have := (Gr.trans ((Gr.refl w).alloc _) G).size; exact this), by rw [HV.out]; exact hL8⟩, G8⟩
  by_cases c4 : drop = false ∧ there ts s p = false ∧ 24 ≤ ts.length
  · obtain ⟨rfl, hth, h24⟩ := c4
    have HV : Hid ((happenR ts false (⟨s, some ⟨q, r, none⟩, tc, bs⟩ : Tb) p) = (ts, 4)) := by show (happenR ts false (⟨s, some ⟨q, r, none⟩, tc, bs⟩ : Tb) p) = _; simp [happenR, hsky, hth, h2b, h24]
    rw [hth] at hI
    simp only [Bool.false_eq_true, if_false] at hI
    subst hI
    have hl24 : (24 : Int) ≤ (ts.length : Int) := by omega
    go_wp2_with fail
    (with_reducible refine Calls.mono (HCP.out _ (Gr.trans ((Gr.refl w).alloc _) G)) ?_)
    rintro e w8 ⟨⟨v8, us, rfl, hO8, hL8⟩, g8⟩
    obtain ⟨a8, c8, e8, -⟩ := ownT_tubes hO8
    subst e8
    go_wp2
    go_ret2
    have G8 := (Gr.trans ((Gr.refl w).alloc _) G).trans g8
    exact ⟨⟨_, us, by rw [HV.out]; rfl, ownT_lo hO8 (by have := (Gr.trans ((Gr.refl w).alloc _) G).size; exact this), by rw [HV.out]; exact hL8⟩, G8⟩
  have HD : Hid (drop = true → there ts s p = true) := fun h => by
    cases hh : there ts s p
    · exact absurd ⟨h, hh⟩ c3
    · rfl
  have HV : Hid ((happenR ts drop (⟨s, some ⟨q, r, none⟩, tc, bs⟩ : Tb) p) = (edit ts p (if there ts s p then 1 else 0) (if drop then [] else [(⟨s, some ⟨q, r, none⟩, tc, bs⟩ : Tb)]), 0)) := by
    show (happenR ts drop (⟨s, some ⟨q, r, none⟩, tc, bs⟩ : Tb) p) = _
    unfold happenR
    rw [if_neg (by rw [hsky]; simp), if_neg (by simpa using h2), if_neg c3, if_neg c4]
  have HI : Hid (i = if there ts s p then (p : Int) else -1) := hI
  have hneg : drop = true → ¬ i < 0 := fun h => by rw [hI, HD.out h]; simp
  have hneg2 : drop = false → i < 0 → ¬ (24 : Int) ≤ (ts.length : Int) := fun h h' => by
    intro h24
    refine c4 ⟨h, ?_, by omega⟩
    cases hh : there ts s p
    · rfl
    · rw [hI, hh] at h'
      simp at h' <;> omega
  have HTB : Hid (drop = false → tubeB s bs = true) := h2b
  clear hI c3 c4 h2 h2b HCP
  go_upto_region 6 with fail
  go_cut [35] (fun s35 wx => s35 = .bool false ∧ wx = w2)
  case first =>
    cases drop
    · go_wp2_with fail
      go_meet
      exact ⟨rfl, rfl⟩
    · have hx := hneg rfl
      have hx1 : decide (i < 0) = false := by simp; omega
      go_wp2_with fail
      go_meet
      exact ⟨rfl, rfl⟩
  obtain ⟨rfl, hwx⟩ := hcut
  replace hwx := hwx.symm
  subst hwx
  go_upto_region 8 with fail
  go_cut [49] (fun s49 wx => s49 = .bool false ∧ wx = w2)
  case first =>
    cases drop
    · by_cases hx : i < 0
      · have hy := hneg2 rfl hx
        have hx1 : decide (i < 0) = true := by simp [hx]
        have hy1 : decide ((24 : Int) ≤ (ts.length : Int)) = false := by simp; omega
        clear hy
        go_wp2_with fail
        go_meet
        exact ⟨rfl, rfl⟩
      · have hx1 : decide (i < 0) = false := by simp; omega
        go_wp2_with fail
        go_meet
        exact ⟨rfl, rfl⟩
    · go_wp2_with fail
      go_meet
      exact ⟨rfl, rfl⟩
  obtain ⟨rfl, hwx⟩ := hcut
  replace hwx := hwx.symm
  subst hwx
  clear hneg hneg2
  go_wp2_with fail
  go_loopw [7, 8, 9] (fun v dn i wr => ∃ k : Nat, k ≤ ts.length ∧ i = .int .i64 k ∧ dn = .bool (drop || decide (p < k)) ∧ Hid (wr.ownsRow w2.heap.size 43 2 v ((outAt ts p (if there ts s p then 1 else 0) (if drop then [] else [(⟨s, some ⟨q, r, none⟩, tc, bs⟩ : Tb)]) (k))).length (flatT ((outAt ts p (if there ts s p then 1 else 0) (if drop then [] else [(⟨s, some ⟨q, r, none⟩, tc, bs⟩ : Tb)]) (k))))) ∧ Gr w2 wr) (fun _ _ i _ => ts.length - (intOf i).toNat)
  case atStart =>
    refine ⟨0, Nat.zero_le _, rfl, by simp, ?_, (Gr.refl _).alloc _⟩
    show World.ownsRow _ _ _ _ _ _ _
    have h0 : (outAt ts p (if there ts s p then 1 else 0) (if drop then [] else [(⟨s, some ⟨q, r, none⟩, tc, bs⟩ : Tb)]) (0)) = [] := by simp [outAt]
    rw [h0]
    exact (ownT_empty w2).1
  case round =>
    clear ev0 ev1 ev2
    obtain ⟨k, hk, rfl, hdn, HO, gr⟩ := hrel
    subst hdn
    have hol : (outAt ts p (if there ts s p then 1 else 0) (if drop then [] else [(⟨s, some ⟨q, r, none⟩, tc, bs⟩ : Tb)]) (k)).length ≤ 100 := Nat.le_trans out_len (by split <;> simp <;> omega)
    obtain ⟨ev0, ev1, ev2⟩ := HEV.out _ (G.trans gr)
    have hgr := gr.size
    by_cases hkl : k < ts.length
    · have hx := (tubes_gr ha G2.out) k hkl
      obtain ⟨g, o, hav, hg, hx, -⟩ := hx
      subst hav
      obtain ⟨c0, c1⟩ := two_gr hx gr hg
      have HTW : Hid (Two w2 g (o + k * 2) (ts.getD k Tb.nil)) := hx
      have HST : Hid ((outAt ts p (if there ts s p then 1 else 0) (if drop then [] else [(⟨s, some ⟨q, r, none⟩, tc, bs⟩ : Tb)]) (k + 1)) = (outAt ts p (if there ts s p then 1 else 0) (if drop then [] else [(⟨s, some ⟨q, r, none⟩, tc, bs⟩ : Tb)]) (k)) ++ (if !(drop || decide (p < k)) && !Op.bytesLess (ts.getD k Tb.nil).s.toList s.toList then [(⟨s, some ⟨q, r, none⟩, tc, bs⟩ : Tb)] else []) ++ (if ((k : Int) != i) then [ts.getD k Tb.nil] else [])) := out_step (⟨s, some ⟨q, r, none⟩, tc, bs⟩ : Tb) HPl.out hkl HD.out i HI.out
      have HDN : Hid (((drop || decide (p < k)) || (!(drop || decide (p < k)) && !Op.bytesLess (ts.getD k Tb.nil).s.toList s.toList)) = (drop || decide (p < k + 1))) := done_step drop HPl.out hkl
      clear hx
      generalize ts.getD k Tb.nil = t at *
      obtain ⟨us, ua, uc, ub⟩ := t
      simp only at c0 c1 HST HDN HTW
      have hi0 : (0 : Int) ≤ (k : Int) := by omega
      have hi1 : (k : Int) < (ts.length : Int) := by omega
      generalize hD : (drop || decide (p < k)) = D at *
      generalize hL : Op.bytesLess us.toList s.toList = Lb at *
      generalize (outAt ts p (if there ts s p then 1 else 0) (if drop then [] else [(⟨s, some ⟨q, r, none⟩, tc, bs⟩ : Tb)]) (k)) = L0 at *
      have hLK : ∃ L1, (outAt ts p (if there ts s p then 1 else 0) (if drop then [] else [(⟨s, some ⟨q, r, none⟩, tc, bs⟩ : Tb)]) (k + 1)) = L1 := ⟨_, rfl⟩
      obtain ⟨L1, HLK⟩ := hLK
      rw [HLK] at HST
      go_upto_region 15 with fail
      go_cut [73] from 55 to 88 (fun s73 wx => s73 = .bool (!D && !Lb) ∧ Gr wr wx)
      case first =>
        cases D
        · go_quiet (fail)
          go_wp2_with fail
          go_meet
          exact ⟨by rw [← hL]; rfl, (Gr.refl _).drewN _⟩
        · go_quiet (fail)
          go_wp2_with fail
          go_meet
          exact ⟨rfl, (Gr.refl _).drewN _⟩
      obtain ⟨rfl, g3⟩ := hcut
      rename World => w3
      have HO3 : Hid (w3.ownsRow w2.heap.size 43 2 _ (L0).length (flatT (L0))) := owns_gr HO.out g3
      have gr3 := gr.trans g3
      clear HO ev0 ev1 ev2 c0 c1
      obtain ⟨ev0, ev1, ev2⟩ := HEV.out _ (G.trans gr3)
      generalize hT : (!D && !Lb) = tst at *
      go_upto_if 73 with fail
      go_cut [7, 8] from 55 to 88 (fun v7 v8 wx => ∃ L', Hid (wx.ownsRow w2.heap.size 43 2 v7 (L').length (flatT (L'))) ∧ L' = L0 ++ (if tst then [(⟨s, some ⟨q, r, none⟩, tc, bs⟩ : Tb)] else []) ∧ v8 = .bool (D || tst) ∧ Gr w2 wx)
      case first =>
        cases tst
        · go_wp2_with fail
          go_meet
          exact ⟨L0, HO3, by simp, by simp, gr3⟩
        · have hs3 := gr3.size
          go_wp2_with (at_builtin; refine wpList_append_own _ rfl (.tmp 74) (.tmp 77) 39 rfl w2.heap.size 43 i0 _ 2 40 Tryz.underlying39 hi hz0 hz1 hz2 rfl (by decide) _ _ _ rfl ((HO3.out).alloc _) ⟨w3.heap.size, 0, none⟩ 1 1 [.string s, .slice (some ⟨q, r, none⟩) bs.length tc] rfl rfl (by exact newsT _ _ (by simp) _ _ _) (tvals_one (⟨s, some ⟨q, r, none⟩, tc, bs⟩ : Tb)) (by unfold maxLen; omega) (by omega) (by simp; omega) ?_; intro v' w' hown' hgrow _)
          have RR : Hid (w'.ownsRow w2.heap.size 43 2 v' (L0 ++ [(⟨s, some ⟨q, r, none⟩, tc, bs⟩ : Tb)]).length (flatT (L0 ++ [(⟨s, some ⟨q, r, none⟩, tc, bs⟩ : Tb)]))) := by
            show World.ownsRow _ _ _ _ _ _ _
            rw [flatT_snoc, List.length_append]
            exact hown'
          have R2 : Gr w2 w' := Below.grown (gr3.alloc _) hgrow (by have := gr3.size; simp; omega) (owns_block HO3.out)
          clear hown' hgrow
          go_wp2_with fail
          go_meet
          exact ⟨_, RR, by simp, by simp, R2⟩
      obtain ⟨L2, HO4, hL2, rfl, gr4⟩ := hcut
      rename World => w4
      clear HO3 ev0 ev1 ev2
      have hl2 : L2.length ≤ 101 := by rw [hL2]; split <;> simp <;> omega
      obtain ⟨c0, c1⟩ := two_gr (t := ⟨us, ua, uc, ub⟩) HTW.out gr4 hg
      go_upto_if 81 with fail
      cases hki : ((k : Int) != i)
      · have hLL : L2 = L1 := by rw [HST.out, hL2, hki]; simp
        have HO6 : Hid (w4.ownsRow w2.heap.size 43 2 _ (L1).length (flatT (L1))) := hLL ▸ HO4.out
        clear HO4 hLL hL2
        go_wp2
        go_roundw
        case rel => exact ⟨k + 1, by omega, by go_num, congrArg Value.bool HDN.out, HLK ▸ HO6.out, gr4⟩
        case measure => simp [intOf]; omega
      · have hs4 := gr4.size
        go_wp2_with (at_builtin; refine wpList_append_own _ rfl (.tmp 82) (.tmp 87) 39 rfl w2.heap.size 43 i0 _ 2 40 Tryz.underlying39 hi hz0 hz1 hz2 rfl (by decide) _ _ _ rfl ((HO4.out).alloc _) ⟨w4.heap.size, 0, none⟩ 1 1 [.string us, .slice ua ub.length uc] rfl rfl (by exact newsT _ _ (by simp) _ _ _) (tvals_one ⟨us, ua, uc, ub⟩) (by unfold maxLen; omega) (by omega) (by simp; omega) ?_; intro v' w' hown' hgrow _)
        have hLL : L2 ++ [(⟨us, ua, uc, ub⟩ : Tb)] = L1 := by rw [HST.out, hL2, hki]; simp
        have HO6 : Hid (w'.ownsRow w2.heap.size 43 2 v' (L1).length (flatT (L1))) := by
          show World.ownsRow _ _ _ _ _ _ _
          rw [← hLL, flatT_snoc, List.length_append]
          exact hown'
        have R2 : Gr w2 w' := Below.grown (gr4.alloc _) hgrow (by have := gr4.size; simp; omega) (owns_block HO4.out)
        clear hown' hgrow HO4 hLL hL2
        go_wp2
        go_roundw
        case rel => exact ⟨k + 1, by omega, by go_num, congrArg Value.bool HDN.out, HLK ▸ HO6.out, R2⟩
        case measure => simp [intOf]; omega
    · have e : k = ts.length := by omega
      subst e
      have HE : Hid ((outAt ts p (if there ts s p then 1 else 0) (if drop then [] else [(⟨s, some ⟨q, r, none⟩, tc, bs⟩ : Tb)]) (ts.length)) ++ (if !(drop || decide (p < ts.length)) then [(⟨s, some ⟨q, r, none⟩, tc, bs⟩ : Tb)] else []) = edit ts p (if there ts s p then 1 else 0) (if drop then [] else [(⟨s, some ⟨q, r, none⟩, tc, bs⟩ : Tb)])) := out_last (⟨s, some ⟨q, r, none⟩, tc, bs⟩ : Tb) HPl.out HD.out
      generalize hD : (drop || decide (p < ts.length)) = D at *
      generalize (outAt ts p (if there ts s p then 1 else 0) (if drop then [] else [(⟨s, some ⟨q, r, none⟩, tc, bs⟩ : Tb)]) (ts.length)) = L0 at *
      go_upto_if 90 with fail
      go_cut [7] (fun v7 wx => ∃ L', Hid (wx.ownsRow w2.heap.size 43 2 v7 (L').length (flatT (L'))) ∧ L' = L0 ++ (if !D then [(⟨s, some ⟨q, r, none⟩, tc, bs⟩ : Tb)] else []) ∧ Gr w2 wx)
      case first =>
        cases D
        · have hs3 := gr.size
          go_wp2_with (at_builtin; refine wpList_append_own _ rfl (.tmp 91) (.tmp 94) 39 rfl w2.heap.size 43 i0 _ 2 40 Tryz.underlying39 hi hz0 hz1 hz2 rfl (by decide) _ _ _ rfl ((HO.out).alloc _) ⟨wr.heap.size, 0, none⟩ 1 1 [.string s, .slice (some ⟨q, r, none⟩) bs.length tc] rfl rfl (by exact newsT _ _ (by simp) _ _ _) (tvals_one (⟨s, some ⟨q, r, none⟩, tc, bs⟩ : Tb)) (by unfold maxLen; omega) (by omega) (by simp; omega) ?_; intro v' w' hown' hgrow _)
          have RR : Hid (w'.ownsRow w2.heap.size 43 2 v' (L0 ++ [(⟨s, some ⟨q, r, none⟩, tc, bs⟩ : Tb)]).length (flatT (L0 ++ [(⟨s, some ⟨q, r, none⟩, tc, bs⟩ : Tb)]))) := by
            show World.ownsRow _ _ _ _ _ _ _
            rw [flatT_snoc, List.length_append]
            exact hown'
          have R2 : Gr w2 w' := Below.grown (gr.alloc _) hgrow (by have := gr.size; simp; omega) (owns_block HO.out)
          clear hown' hgrow
          go_wp2_with fail
          go_meet
          exact ⟨_, RR, by simp, R2⟩
        · go_wp2_with fail
          go_meet
          exact ⟨L0, HO, by simp, gr⟩
      obtain ⟨L3, HO5, hL3, gr5⟩ := hcut
      rename World => w5
      have hLL : L3 = edit ts p (if there ts s p then 1 else 0) (if drop then [] else [(⟨s, some ⟨q, r, none⟩, tc, bs⟩ : Tb)]) := by rw [hL3, HE.out]
      have hO6 : w5.ownsRow w2.heap.size 43 2 _ (edit ts p (if there ts s p then 1 else 0) (if drop then [] else [(⟨s, some ⟨q, r, none⟩, tc, bs⟩ : Tb)])).length (flatT (edit ts p (if there ts s p then 1 else 0) (if drop then [] else [(⟨s, some ⟨q, r, none⟩, tc, bs⟩ : Tb)]))) := hLL ▸ HO5.out
      have G5 : Gr w w5 := G2.out.trans gr5
      obtain ⟨a5, c5, e5, hT5⟩ := row_tubes hO6 (fun t h => by
        rcases edit_mem h with h' | h'
        · exact boxes_gr (tubes_boxes ha h') G5
        · have : t = (⟨s, some ⟨q, r, none⟩, tc, bs⟩ : Tb) := by revert h'; cases drop <;> simp
          subst this
          exact boxes_gr hb G5)
      subst e5
      have hM5 : Made (edit ts p (if there ts s p then 1 else 0) (if drop then [] else [(⟨s, some ⟨q, r, none⟩, tc, bs⟩ : Tb)])) := fun t h => by
        rcases edit_mem h with h' | h'
        · exact hM t h'
        · have : t = (⟨s, some ⟨q, r, none⟩, tc, bs⟩ : Tb) := by revert h'; cases drop <;> simp
          subst this
          exact ⟨q, r, rfl⟩
      have hlen : (edit ts p (if there ts s p then 1 else 0) (if drop then [] else [(⟨s, some ⟨q, r, none⟩, tc, bs⟩ : Tb)])).length ≤ 1000 := by unfold edit; simp only [List.length_append, List.length_take, List.length_drop]; split <;> simp <;> omega
      have hb5 : ∀ t ∈ edit ts p (if there ts s p then 1 else 0) (if drop then [] else [(⟨s, some ⟨q, r, none⟩, tc, bs⟩ : Tb)]), t.bs.length ≤ 1000 := fun t h => by
        rcases edit_mem h with h' | h'
        · have := (ht t h').1; omega
        · have hd : drop = false ∧ t = (⟨s, some ⟨q, r, none⟩, tc, bs⟩ : Tb) := by revert h'; cases drop <;> simp
          obtain ⟨hd, rfl⟩ := hd
          have := HTB.out hd
          simp only [tubeB, Bool.and_eq_true, decide_eq_true_eq] at this
          show bs.length ≤ 1000
          omega
      generalize edit ts p (if there ts s p then 1 else 0) (if drop then [] else [(⟨s, some ⟨q, r, none⟩, tc, bs⟩ : Tb)]) = LE at *
      clear HO5 HO HE hLL hL3
      go_wp2_with fail
      refine (l2List_any a5 c5 LE w5 hT5 hM5 hlen hb5).mono ?_
      rintro e w8 ⟨⟨v8, us, rfl, hO8, hL8⟩, g8⟩
      obtain ⟨a8, c8, e8, -⟩ := ownT_tubes hO8
      subst e8
      go_wp2
      go_ret2
      exact ⟨⟨_, us, by rw [HV.out]; rfl, ownT_lo hO8 G5.size, by rw [HV.out]; exact hL8⟩, G5.trans g8⟩
end Go.Proofs.YtpdcgjkfilohcabGreatDoor

namespace Go.Proofs.YtpdcgjkfilohcabGreatDoor
open Go.RowKit
attribute [local go_sem ↓] Go.wp_at_zero Go.wp_at_succ

theorem cmp_less : ∀ (a b : List UInt8), decide (Lib.compareBytes a b < 0) = Op.bytesLess a b
  | [], [] => by simp [Lib.compareBytes, Op.bytesLess]
  | [], _ :: _ => by simp [Lib.compareBytes, Op.bytesLess]
  | _ :: _, [] => by simp [Lib.compareBytes, Op.bytesLess]
  | x :: xs, y :: ys => by
    have ih := cmp_less xs ys
    unfold Lib.compareBytes Op.bytesLess
    by_cases h1 : x < y
    · simp [h1]
    · by_cases h2 : y < x
      · have : ¬ x = y := fun e => by subst e; exact h1 h2
        simp [h1, h2, this]
      · have : x = y := by
          rw [UInt8.lt_iff_toNat_lt] at h1 h2
          exact UInt8.toNat_inj.1 (by omega)
        subst this
        simp [h1, ih]
theorem cmp_zero : ∀ (a b : List UInt8), (Lib.compareBytes a b == 0) = (a == b)
  | [], [] => by simp [Lib.compareBytes]
  | [], _ :: _ => by simp [Lib.compareBytes]
  | _ :: _, [] => by simp [Lib.compareBytes]
  | x :: xs, y :: ys => by
    have ih := cmp_zero xs ys
    unfold Lib.compareBytes
    by_cases h1 : x < y
    · have : ¬ x = y := fun e => by subst e; rw [UInt8.lt_iff_toNat_lt] at h1; omega
      simp [h1, this]
    · by_cases h2 : y < x
      · have : ¬ x = y := fun e => by subst e; exact h1 h2
        simp [h1, h2, this]
      · have : x = y := by
          rw [UInt8.lt_iff_toNat_lt] at h1 h2
          exact UInt8.toNat_inj.1 (by omega)
        subst this
        simp [h1, ih]

set_option maxRecDepth 100000 in
set_option maxHeartbeats 1000000 in
theorem compare_any (a b : ByteArray) (w : World) :
    Calls Tryz.prog 157 #[.string a, .string b] w fun e w' => e = .returned (.int .i64 (Lib.compareBytes a.toList b.toList)) ∧ w' = w := by
  have h1 : Calls Tryz.prog 189 #[.string a, .string b] w fun e w' => e = .returned (.int .i64 (Lib.compareBytes a.toList b.toList)) ∧ w' = w := by
    go_enter Tryz.func189, Tryz.ntmps189
    go_wp2
    rw [run_callFunc_extern Tryz.func249 (by kernel_rfl) (by kernel_rfl) (by kernel_rfl) (e := Extern.BytealgCompare.compare) (by kernel_rfl), Lib.run_compareString]
    simp only [Result.andThen]
    rw [Oper.upon_value]
    go_wp2
    go_ret
    exact ⟨by rw [ByteArray.toList_eq, ByteArray.toList_eq]; rfl, rfl⟩
  go_enter Tryz.func157, Tryz.ntmps157
  go_wp2_with (go_at_call 189; refine h1.mono ?_; rintro e w' ⟨rfl, rfl⟩)
  go_ret
  exact ⟨rfl, rfl⟩
set_option maxHeartbeats 1000000 in
theorem placeCmp_any (s t : ByteArray) (v : Value) (hv : ∃ a n c, v = .slice a n c) (w : World) :
    Calls Tryz.prog 156 #[.agg #[.string s, v], .string t] w fun e w' => e = .returned (.int .i64 (Lib.compareBytes s.toList t.toList)) ∧ Gr w w' := by
  obtain ⟨a, n, c, rfl⟩ := hv
  go_enter Tryz.func156, Tryz.ntmps156
  go_wp2_with (go_at_call 157; refine (compare_any _ _ _).mono ?_; rintro e w' ⟨rfl, rfl⟩)
  go_ret
  exact ⟨rfl, (Gr.refl _).alloc _⟩

set_option maxRecDepth 100000 in
set_option maxHeartbeats 1000000 in
theorem search_any (a : Option Addr) (cap : Nat) (ts : List Tb) (s : ByteArray) (p : Nat) (w : World) (ha : Tubes w a ts) (hn : ts.length ≤ 1000) (hP : PlaceIs ts s p) :
    Calls Tryz.prog 155 #[.slice a ts.length cap, .string s, .func (.func 156) #[] #[]] w fun e w' => e = .returned (.tuple #[.int .i64 p, .bool (there ts s p)]) ∧ Gr w w' := by
  have HP : Hid (PlaceIs ts s p) := hP
  have hp := hP.1
  clear hP
  go_enter Tryz.func155, Tryz.ntmps155
  go_wp2
  go_loopw [9, 10, 11] (fun vi vj _ wr => ∃ i j : Nat, vi = .int .i64 i ∧ vj = .int .i64 j ∧ i ≤ p ∧ p ≤ j ∧ j ≤ ts.length ∧ Gr w wr) (fun vi vj _ _ => (intOf vj).toNat - (intOf vi).toNat)
  case atStart => exact ⟨0, ts.length, rfl, rfl, Nat.zero_le _, hp, Nat.le_refl _, Gr.refl _⟩
  case round =>
    obtain ⟨i, j, rfl, rfl, hi, hj, hjl, gr⟩ := hrel
    by_cases hij : i < j
    · have hiji : (i : Int) < (j : Int) := by omega
      have hh : ((i : Int) + (j : Int)) / 2 = (((i + j) / 2 : Nat) : Int) := by omega
      obtain ⟨h, hhd⟩ : ∃ h, h = (i + j) / 2 := ⟨_, rfl⟩
      have hh0 : i ≤ h := by omega
      have hh1 : h < j := by omega
      rw [← hhd] at hh
      clear hhd
      obtain ⟨g, o, rfl, hg, hx, -⟩ := ha h (by omega)
      obtain ⟨c0, c1⟩ := two_gr hx gr hg
      have HL : Hid (Op.bytesLess (ts.getD h Tb.nil).s.toList s.toList = decide (h < p)) := less_place HP.out (by omega)
      clear hx
      generalize ts.getD h Tb.nil = t at *
      obtain ⟨us, ua, uc, ub⟩ := t
      simp only at c0 c1 HL
      have i0 : (0 : Int) ≤ (h : Int) := by omega
      have i1 : (h : Int) < (ts.length : Int) := by omega
      have HC : Hid (decide (Lib.compareBytes us.toList s.toList < 0) = decide (h < p)) := (cmp_less _ _).trans HL.out
      clear HL
      generalize hc : Lib.compareBytes us.toList s.toList = cv at *
      have HCP : Hid (∀ w', Calls Tryz.prog 156 #[.agg #[.string us, .slice ua ub.length uc], .string s] w' fun e w'' => e = .returned (.int .i64 cv) ∧ Gr w' w'') := fun w' => hc ▸ placeCmp_any us s _ ⟨_, _, _, rfl⟩ w'
      by_cases hlt : h < p
      · have hcv : cv < 0 := by have := HC.out; simp [hlt] at this; exact this
        clear HC hc
        go_wp2_with (go_at_call 156; refine (HCP.out _).mono ?_; rintro e w2 ⟨rfl, g2⟩)
        go_roundw
        case rel => exact ⟨h + 1, j, by go_num, rfl, by omega, hj, hjl, gr.trans g2⟩
        case measure => simp [intOf]; omega
      · have hcv : ¬ cv < 0 := by have := HC.out; simp [hlt] at this; omega
        clear HC hc
        go_wp2_with (go_at_call 156; refine (HCP.out _).mono ?_; rintro e w2 ⟨rfl, g2⟩)
        go_roundw
        case rel => exact ⟨i, h, rfl, by go_num, hi, by omega, by omega, gr.trans g2⟩
        case measure => simp [intOf]; omega
    · obtain rfl : p = i := by omega
      obtain rfl : p = j := by omega
      by_cases hlt : p < ts.length
      · obtain ⟨g, o, rfl, hg, hx, -⟩ := ha p hlt
        obtain ⟨c0, c1⟩ := two_gr hx gr hg
        have HT : Hid (there ts s p = ((ts.getD p Tb.nil).s.toList == s.toList)) := by
          show there ts s p = _
          unfold there hasN nm
          simp [hlt]
        clear hx
        generalize ts.getD p Tb.nil = t at *
        obtain ⟨us, ua, uc, ub⟩ := t
        simp only at c0 c1 HT
        have i0 : (0 : Int) ≤ (p : Int) := by omega
        have i1 : (p : Int) < (ts.length : Int) := by omega
        have HC : Hid ((Lib.compareBytes us.toList s.toList == 0) = there ts s p) := (cmp_zero _ _).trans HT.out.symm
        clear HT
        generalize hc : Lib.compareBytes us.toList s.toList = cv at *
        have HCP : Hid (∀ w', Calls Tryz.prog 156 #[.agg #[.string us, .slice ua ub.length uc], .string s] w' fun e w'' => e = .returned (.int .i64 cv) ∧ Gr w' w'') := fun w' => hc ▸ placeCmp_any us s _ ⟨_, _, _, rfl⟩ w'
        clear hc
        go_wp2_with (go_at_call 156; refine (HCP.out _).mono ?_; rintro e w2 ⟨rfl, g2⟩)
        go_ret2
        exact ⟨by rw [← HC.out]; rfl, gr.trans g2⟩
      · have HT : Hid (there ts s p = false) := by
          show there ts s p = _
          unfold there
          simp [hlt]
        go_wp2
        go_ret2
        exact ⟨by rw [HT.out]; rfl, gr⟩

theorem placeOf_any (a : Option Addr) (cap : Nat) (ts : List Tb) (s : ByteArray) (p : Nat) (w : World) (ha : Tubes w a ts) (hn : ts.length ≤ 1000) (hP : PlaceIs ts s p) :
    Calls Tryz.prog 120 #[.slice a ts.length cap, .string s] w fun e w' => e = .returned (.tuple #[.int .i64 p, .bool (there ts s p)]) ∧ Gr w w' := by
  have H := search_any a cap ts s p w ha hn hP
  go_enter Tryz.func120, Tryz.ntmps120
  go_wp2_with fail
  refine H.mono ?_
  rintro e w2 ⟨rfl, g2⟩
  go_wp2
  go_ret2
  exact ⟨rfl, g2⟩
end Go.Proofs.YtpdcgjkfilohcabGreatDoor

namespace Go.Proofs.YtpdcgjkfilohcabGreatDoor
open Go.RowKit
attribute [local go_sem ↓] Go.wp_at_zero Go.wp_at_succ

theorem step_append_spare {P : Program} {ops : Array Oper} {o : Oper} {a : Act} {w : World} {K : Act → World → Prop} {Q : Exit → Act → World → Prop} {E : Prop}
    (hg : o.guard = none) (s x : Operand) (t : TypeId) (hop : o.op = Op.call { callee := Callee.builtin Builtin.append, args := #[s, x], argTypes := #[t, t] })
    (base : Nat) (e : TypeId) (i : TypeInfo) (size : Nat) (h1 : P.underlying t = some (.slice e)) (h2 : P.info? e = some i) (h4 : i.size = size)
    (g n cap : Nat) (xs : List Value) (hs : a.eval s = .slice (some ⟨g, 0, none⟩) n cap) (hown : w.ownsRow base e size (.slice (some ⟨g, 0, none⟩) n cap) n xs)
    (ad : Addr) (m c : Nat) (news : List Value) (hx : a.eval x = .slice (some ad) m c) (hn : news.length = m * size) (hc : ∀ j u, news[j]? = some u → w.cell? (ad.add j) = some u) (h1c : ∀ u ∈ news, u.oneCell' = true)
    (hroom : n + m ≤ cap)
    (hK : ∀ w', w'.ownsRow base e size (.slice (some ⟨g, 0, none⟩) (n + m) cap) (n + m) (xs ++ news) → w.grownBy w' (some g) → K (a.put o.dst (.slice (some ⟨g, 0, none⟩) (n + m) cap)) w') :
    if Region.wanted o (yielded ops a.tmps) = true then Oper.wp P o a w K Q else E := by
  have hw : Region.wanted o (yielded ops a.tmps) = true := by simp [Region.wanted, hg]
  rw [if_pos hw]
  obtain ⟨w', hrun, r1, r2⟩ := run_append_own_spare (P := P) w base t o.type e i size h1 h2 h4 g n cap xs hown ad m c news hn hc h1c hroom
  unfold Oper.wp
  simp [execOp, hop, resolve, invoke, builtin, hs, hx, hrun, Result.andThen]
  exact hK w' r1 r2
/-- The first of a row. -/
theorem owns_take {w : World} {base e size g n cap : Nat} {xs : List Value} (h : w.ownsRow base e size (.slice (some ⟨g, 0, none⟩) n cap) n xs) (k : Nat) (hk : k ≤ n) : w.ownsRow base e size (.slice (some ⟨g, 0, none⟩) k cap) k (xs.take (k * size)) := by
  have h0 := h.1
  have hks : k * size ≤ n * size := Nat.mul_le_mul_right _ hk
  rcases h.2 with ⟨h', _⟩ | ⟨g', cap', cur, h', hb, hg, h1, h2, h3, h4⟩
  · cases h'
  · cases h'
    refine ⟨by rw [List.length_take]; omega, .inr ⟨g, cap, cur, rfl, hb, hg, by omega, h2, h3, ?_⟩⟩
    rw [← h4, List.take_take, Nat.min_eq_left hks]
theorem flatT_take (us : List Tb) (k : Nat) (hk : k ≤ us.length) : (flatT us).take (k * 2) = flatT (us.take k) := by
  conv => lhs; rw [← List.take_append_drop k us, flatT_app]
  rw [List.take_left' (by rw [flatT_len, List.length_take]; omega)]
theorem flatT_drop (us : List Tb) (k : Nat) (hk : k ≤ us.length) : (flatT us).drop (k * 2) = flatT (us.drop k) := by
  conv => lhs; rw [← List.take_append_drop k us, flatT_app]
  rw [List.drop_left' (by rw [flatT_len, List.length_take]; omega)]
theorem owns_open {w : World} {base e size g n cap : Nat} {xs : List Value} (h : w.ownsRow base e size (.slice (some ⟨g, 0, none⟩) n cap) n xs) : ∃ cur, w.heap[g]? = some (.cells cur e (0, 0)) ∧ base ≤ g ∧ n ≤ cap ∧ cap ≤ maxLen ∧ cur.size = cap * size ∧ cur.toList.take (n * size) = xs := by
  rcases h.2 with ⟨h', _⟩ | ⟨g', cap', cur, h', hb, hg, h1, h2, h3, h4⟩
  · cases h'
  · cases h'
    exact ⟨cur, hg, hb, h1, h2, h3, h4⟩
theorem owns_mk {w : World} {base e size g n cap : Nat} {cur : Array Value} (hg : w.heap[g]? = some (.cells cur e (0, 0))) (hb : base ≤ g) (hn : n ≤ cap) (hc : cap ≤ maxLen) (hs : cur.size = cap * size) : w.ownsRow base e size (.slice (some ⟨g, 0, none⟩) n cap) n (cur.toList.take (n * size)) := by
  have hks : n * size ≤ cap * size := Nat.mul_le_mul_right _ hn
  exact ⟨by rw [List.length_take]; simp; omega, .inr ⟨g, cap, cur, rfl, hb, hg, hn, hc, hs, rfl⟩⟩
theorem grown_setRow (w : World) (g : Nat) (cs : Array Value) : w.grownBy (w.setRow g cs) (some g) := ⟨rfl, rfl, rfl, by simp, fun k _ hne => setRow_other w g k cs (fun e => hne (by rw [e]))⟩
theorem grown_trans {a b c : World} {row : Option Nat} (h : a.grownBy b row) (k : b.grownBy c row) : a.grownBy c row :=
  ⟨k.os.trans h.os, k.tape.trans h.tape, k.output.trans h.output, Nat.le_trans h.size k.size, fun i hi hne => (k.block i (Nat.lt_of_lt_of_le hi h.size) hne).trans (h.block i hi hne)⟩
theorem grown_drew {w w' : World} {row : Option Nat} (h : w.drew.grownBy w' row) : w.grownBy w' row := ⟨h.os, h.tape, h.output, h.size, h.block⟩
theorem wpList_clear {P : Program} {w w' : World} {ops : Array Oper} {rest : List Oper} {o : Oper} {a : Act} {Q : Exit → Act → World → Prop} (hgd : o.guard = none) (s : Operand) (t : TypeId)
    (ho : o.op = .call { callee := .builtin .clear, args := #[s], argTypes := #[t] }) (v : Value) (hs : a.eval s = v)
    (hr : (Builtin.clear_ #[t] o.type #[v]).run P w = .ok (.tuple #[]) w') (h : wpList P ops Q rest (a.put o.dst (.tuple #[])) w') : wpList P ops Q (o :: rest) a w := by
  refine wpList_plain hgd fun K hK => ?_
  unfold Oper.wp
  simp [execOp, ho, resolve, invoke, builtin, hs, hr, Result.andThen]
  exact hK _ _ h
/-- clear of one tube of a row. -/
theorem run_clear_tube (w : World) (ty : TypeId) (g o n c : Nat) (hn : n = 1) (cur : Array Value) (hg : w.heap[g]? = some (.cells cur 43 (0, 0))) (hl : o + 2 ≤ cur.size) :
    (Builtin.clear_ #[39] ty #[.slice (some ⟨g, o, none⟩) n c]).run Tryz.prog w = .ok (.tuple #[]) (w.setRow g (cur.toList.take o ++ [Value.string ⟨#[]⟩, Value.slice none 0 0] ++ cur.toList.drop (o + 2)).toArray) := by
  subst hn
  obtain ⟨i0, hi, hz0, hz1, hz2⟩ := info_parts Tryz.info43
  have hv : ∀ w, (zeroValue 43).run Tryz.prog w = .ok (.agg #[.string ⟨#[]⟩, .slice none 0 0]) w := fun w => by simp [zeroValue, typeInfo, hi, hz0]
  have hzc : (Builtin.zeroCells (Value.agg #[.string ⟨#[]⟩, .slice none 0 0]).cells 1).toList = [.string ⟨#[]⟩, .slice none 0 0] := by kernel_rfl
  have hst := run_storeCells_at Tryz.prog g o 43 [.string ⟨#[]⟩, .slice none 0 0] 0 cur w hg (by simpa using hl) (tvals_one Tb.nil)
  simp [Builtin.clear_, run_underlying Tryz.underlying39, hv, hzc, hst]

/-- The tube behind a row's end is cleared. -/
theorem clear_behind {lo g M n c cap : Nat} {xs : List Value} {w : World} (h : w.ownsRow lo 43 2 (.slice (some ⟨g, 0, none⟩) M cap) M xs) (hM : M < cap) (hn : n = 1) :
    ∃ w2, (Builtin.clear_ #[39] 0 #[.slice (some ⟨g, M * 2, none⟩) n c]).run Tryz.prog w = .ok (.tuple #[]) w2 ∧ w2.ownsRow lo 43 2 (.slice (some ⟨g, 0, none⟩) M cap) M xs ∧ w.grownBy w2 (some g) := by
  obtain ⟨cur1, hg1, hb1, hn1, hc1, hs1, ht1⟩ := owns_open h
  refine ⟨_, run_clear_tube w 0 g (M * 2) n c hn cur1 hg1 (by omega), ?_, grown_setRow _ _ _⟩
  have := owns_mk (n := M) (size := 2) (setRow_heap w g cur1 (cur1.toList.take (M * 2) ++ [Value.string ⟨#[]⟩, Value.slice none 0 0] ++ cur1.toList.drop (M * 2 + 2)).toArray _ _ hg1) hb1 hn1 hc1 (by simp; omega)
  rw [← ht1]
  have hlen1 : M * 2 ≤ cur1.toList.length := by simp; omega
  have e : (cur1.toList.take (M * 2) ++ [Value.string ⟨#[]⟩, Value.slice none 0 0] ++ cur1.toList.drop (M * 2 + 2)).toArray.toList.take (M * 2) = cur1.toList.take (M * 2) := by
    rw [List.append_assoc]
    show List.take (M * 2) (_ ++ _) = _
    rw [List.take_left' (by rw [List.length_take]; omega)]
  rw [e] at this
  exact this

set_option maxRecDepth 100000 in
set_option maxHeartbeats 1000000 in
theorem delete_any (lo g cap : Nat) (us : List Tb) (p : Nat) (w : World) (h : OwnT lo w (.slice (some ⟨g, 0, none⟩) us.length cap) us) (hp : p < us.length) (hn : us.length ≤ 1000) :
    Calls Tryz.prog 323 #[.slice (some ⟨g, 0, none⟩) us.length cap, .int .i64 p, .int .i64 (p + 1)] w fun e w' => (∃ v, e = .returned v ∧ OwnT lo w' v (edit us p 1 [])) ∧ w.grownBy w' (some g) := by
  obtain ⟨i0, hi, hz0, hz1, hz2⟩ := info_parts Tryz.info43
  obtain ⟨h1, h2, h3, h4⟩ := h
  obtain ⟨cur, hg, hb, hnc, hcm, hcs, hct⟩ := owns_open h1
  have HR : Hid (w.ownsRow lo 43 2 (.slice (some ⟨g, 0, none⟩) p cap) p (flatT (us.take p))) := flatT_take us p (by omega) ▸ owns_take h1 p (by omega)
  have hsrc : Hid (∀ j u, (flatT (us.drop (p + 1)))[j]? = some u → w.drew.cell? ((⟨g, (p + 1) * 2, none⟩ : Addr).add j) = some u) := fun j u hu => by
    have e : (⟨g, (p + 1) * 2, none⟩ : Addr).add j = ⟨g, (p + 1) * 2 + j, none⟩ := by unfold Addr.add; split <;> simp_all
    have hj : j < (us.length - (p + 1)) * 2 := by
      have := (List.getElem?_eq_some_iff.1 hu).1
      rw [flatT_len, List.length_drop] at this
      exact this
    rw [e]
    show w.cell? _ = _
    rw [h1.cellAt _ (by omega), ← hu, ← flatT_drop us (p + 1) (by omega), List.getElem?_drop]
  have hm : ((us.length - (p + 1) : Nat) : Int) = (us.length : Int) - ((p : Int) + 1) := by omega
  have q0 : (0 : Int) ≤ (p : Int) := by omega
  have q1 : (p : Int) + 1 ≤ (us.length : Int) := by omega
  have q2 : (us.length : Int) ≤ (cap : Int) := by omega
  have q3 : (p : Int) ≤ (cap : Int) := by omega
  go_enter Tryz.func323, Tryz.ntmps323
  have q5 : (0 : Int) ≤ (p : Int) + 1 := by omega
  have hfin : ∀ w1 w2 : World, w1.ownsRow lo 43 2 (.slice (some ⟨g, 0, none⟩) (edit us p 1 []).length cap) (edit us p 1 []).length (flatT (edit us p 1 [])) → w.grownBy w1 (some g) → OwnT lo w1 (.slice (some ⟨g, 0, none⟩) (edit us p 1 []).length cap) (edit us p 1 []) := fun w1 w2 ho hgr => by
    have hm : ∀ t ∈ edit us p 1 [], t ∈ us := fun t ht => by
      rcases edit_mem ht with h | h
      · exact h
      · cases h
    have hsub : (edit us p 1 []).Sublist us := by
      unfold edit
      rw [List.append_nil]
      conv => rhs; rw [← List.take_append_drop p us]
      exact List.Sublist.append_left (by rw [← List.drop_drop]; exact List.drop_sublist _ _) _
    exact ⟨ho, fun t ht => inT_grown (h2 t (hm t ht)) hgr (fun q e => h4 t (hm t ht) q e), h3.sublist hsub, fun t ht q e => h4 t (hm t ht) q e⟩
  have hEd : flatT (us.take p) ++ flatT (us.drop (p + 1)) = flatT (edit us p 1 []) := by unfold edit; rw [List.append_nil, flatT_app]
  have hEl : (edit us p 1 []).length = us.length - 1 := by unfold edit; simp; omega
  have HFIN : Hid _ := hfin
  have HEL : Hid ((edit us p 1 []).length = us.length - 1) := hEl
  have HED : Hid (flatT (us.take p) ++ flatT (us.drop (p + 1)) = flatT (edit us p 1 [])) := hEd
  clear hfin hEl hEd h2 h3 h4 hct hm
  by_cases hpc : cap = p + 1
  · subst hpc
    have q6 : (p : Int) ≤ (p : Int) + 1 := by omega
    have HED2 : Hid (flatT (us.take p) ++ [] = flatT (edit us p 1 [])) := by
      have h9 := HED.out
      rw [List.drop_of_length_le (show us.length ≤ p + 1 by omega)] at h9
      exact h9
    clear hsrc HED
    go_upto_region 5 with fail
    go_region_law (refine step_append_spare rfl (.tmp 22) (.tmp 25) 39 rfl lo 43 i0 2 Tryz.underlying39 hi hz1 g p (p + 1) _ (by simp [Act.eval, Act.put]) HR.out ⟨g, 0, none⟩ 0 0 [] (by simp [Act.eval, Act.put]) rfl (fun j u hu => by simp at hu) (fun u hu => by simp at hu) (by omega) ?_; intro w1 hown hgrow)
    rw [Nat.add_zero] at hown
    have hM1 : p = us.length - 1 := by omega
    have r0 : (0 : Int) ≤ (p : Int) := by omega
    have r1 : (p : Int) ≤ (us.length : Int) := by omega
    have r2 : ¬ p + 1 = p := by omega
    have HM : Hid (p = us.length - 1) := hM1
    have hone : us.length - p = 1 := by omega
    have HONE : Hid (us.length - p = 1) := hone
    clear hM1 hone
    obtain ⟨w2, hcl, hW, hgr2⟩ := clear_behind (n := us.length - p) (c := 1) hown (by have := HM.out; omega) HONE.out
    have HCL : Hid _ := hcl
    have HW : Hid _ := hW
    have hG : w.grownBy w2 (some g) := grown_trans (grown_drew hgrow) hgr2
    clear hown hcl hW hgrow hgr2
    go_wp2
    rw [HCL.out]
    simp only [Result.andThen]
    rw [Oper.upon_value]
    go_wp2
    go_ret
    have hW2 := HW.out
    have hE := HEL.out.trans HM.out.symm
    rw [HED2.out] at hW2
    have hO := HFIN.out w2 w (by rw [hE]; exact hW2) hG
    rw [hE] at hO
    exact ⟨⟨_, rfl, hO⟩, hG⟩
  · go_upto_region 5 with fail
    go_region_law (refine step_append_spare rfl (.tmp 22) (.tmp 25) 39 rfl lo 43 i0 2 Tryz.underlying39 hi hz1 g p cap _ (by simp [Act.eval, Act.put]) HR.out ⟨g, (p + 1) * 2, none⟩ (us.length - (p + 1)) (cap - (p + 1)) (flatT (us.drop (p + 1))) (by simp [Act.eval, Act.put]) (by rw [flatT_len, List.length_drop]) hsrc.out (flatT_one _) (by omega) ?_; intro w1 hown hgrow)
    obtain ⟨M, hM⟩ : ∃ M, M = p + (us.length - (p + 1)) := ⟨_, rfl⟩
    rw [← hM] at hown ⊢
    have hM1 : M = us.length - 1 := by omega
    have r0 : (0 : Int) ≤ (M : Int) := by omega
    have r1 : (M : Int) ≤ (us.length : Int) := by omega
    have r2 : ¬ cap = M := by omega
    have HM : Hid (M = us.length - 1) := hM1
    have hone : us.length - M = 1 := by omega
    have HONE : Hid (us.length - M = 1) := hone
    clear hM hM1 hone
    obtain ⟨w2, hcl, hW, hgr2⟩ := clear_behind (n := us.length - M) (c := cap - M) hown (by have := HM.out; omega) HONE.out
    have HCL : Hid _ := hcl
    have HW : Hid _ := hW
    have hG : w.grownBy w2 (some g) := grown_trans (grown_drew hgrow) hgr2
    clear hown hcl hW hgrow hgr2
    go_wp2
    rw [HCL.out]
    simp only [Result.andThen]
    rw [Oper.upon_value]
    go_wp2
    go_ret
    have hW2 := HW.out
    rw [HED.out, HM.out, ← HEL.out] at hW2
    have hO := HFIN.out w2 w hW2 hG
    rw [HEL.out, ← HM.out] at hO
    exact ⟨⟨_, rfl, hO⟩, hG⟩
end Go.Proofs.YtpdcgjkfilohcabGreatDoor

namespace Go.Proofs.YtpdcgjkfilohcabGreatDoor
open Go.RowKit
attribute [local go_sem ↓] Go.wp_at_zero Go.wp_at_succ

theorem run_copy_tubes (w : World) (ty g o dLen dCap : Nat) (a : Addr) (sLen sCap : Nat) (cur : Array Value) (cs : List Value)
    (hg : w.heap[g]? = some (.cells cur 43 (0, 0))) (hn : cs.length = Nat.min sLen dLen * 2)
    (hsrc : ∀ j v, cs[j]? = some v → w.cell? (a.add j) = some v) (hfit : o + cs.length ≤ cur.size) (h1 : ∀ v ∈ cs, v.oneCell' = true) :
    (Builtin.copy_ #[39, 39] ty #[.slice (some ⟨g, o, none⟩) dLen dCap, .slice (some a) sLen sCap]).run Tryz.prog w =
      .ok (goInt (Nat.min sLen dLen)) (w.setRow g (cur.toList.take o ++ cs ++ cur.toList.drop (o + cs.length)).toArray) := by
  obtain ⟨i0, hi, hz0, hz1, hz2⟩ := info_parts Tryz.info43
  have hl := run_loadCells_list (P := Tryz.prog) w a cs hsrc
  have hst := run_storeCells_at Tryz.prog g o 43 cs 0 cur w hg (by simpa using hfit) h1
  simp [Builtin.copy_, run_underlying Tryz.underlying39, Builtin.lenOf, Builtin.firstCells, sizeOf, typeInfo, hi, hz1, ← hn, hl, hst]
theorem copy_tubes (w : World) (ty g o dLen dCap : Nat) (a : Addr) (sLen sCap : Nat) (cur : Array Value) (cs : List Value)
    (hg : w.heap[g]? = some (.cells cur 43 (0, 0))) (hn : cs.length = Nat.min sLen dLen * 2)
    (hsrc : ∀ j v, cs[j]? = some v → w.cell? (a.add j) = some v) (hfit : o + cs.length ≤ cur.size) (h1 : ∀ v ∈ cs, v.oneCell' = true) :
    ∃ (w2 : World) (cur2 : Array Value) (v : Value), (Builtin.copy_ #[39, 39] ty #[.slice (some ⟨g, o, none⟩) dLen dCap, .slice (some a) sLen sCap]).run Tryz.prog w = .ok v w2 ∧ w2.heap[g]? = some (.cells cur2 43 (0, 0)) ∧ cur2.toList = cur.toList.take o ++ cs ++ cur.toList.drop (o + cs.length) ∧ w.grownBy w2 (some g) :=
  ⟨_, _, _, run_copy_tubes w ty g o dLen dCap a sLen sCap cur cs hg hn hsrc hfit h1, setRow_heap w g cur _ _ _ hg, by simp, grown_setRow _ _ _⟩
theorem edit_end (us : List Tb) (t : Tb) : edit us us.length 0 [t] = us ++ [t] := by unfold edit; simp
/-- What is between an answer and what it was made of. -/
theorem ownT_ins {lo : Nat} {w w' : World} {v v' : Value} {us : List Tb} {t : Tb} {p : Nat} (h : OwnT lo w v us) (ht : InT lo w t) (hta : ∀ q, t.blk = some q → v.ownBlock ≠ some q ∧ ∀ u ∈ us, u.blk ≠ some q) (hg : w.grownBy w' v.ownBlock)
    (hown : w'.ownsRow lo 43 2 v' (edit us p 0 [t]).length (flatT (edit us p 0 [t]))) (hat : v'.ownBlock = v.ownBlock ∨ ∃ k, v'.ownBlock = some k ∧ w.heap.size ≤ k) : OwnT lo w' v' (edit us p 0 [t]) := by
  obtain ⟨h1, h2, h3, h4⟩ := h
  have hin : ∀ u ∈ edit us p 0 [t], InT lo w u := fun u hu => by
    rcases edit_mem hu with h | h
    · exact h2 u h
    · rw [List.mem_singleton] at h; subst h; exact ht
  have hne : ∀ u ∈ edit us p 0 [t], ∀ q, u.blk = some q → v.ownBlock ≠ some q := fun u hu q e => by
    rcases edit_mem hu with h | h
    · exact h4 u h q e
    · rw [List.mem_singleton] at h; subst h; exact (hta q e).1
  refine ⟨hown, fun u hu => inT_grown (hin u hu) hg (hne u hu), ?_, fun u hu q e => ?_⟩
  · unfold edit
    have hs : (us.take p ++ us.drop (p + 0)).Pairwise (fun t u => ∀ q, t.blk = some q → u.blk ≠ some q) := by rw [Nat.add_zero, List.take_append_drop]; exact h3
    rw [List.pairwise_append] at hs
    rw [List.append_assoc, List.pairwise_append]
    refine ⟨hs.1, ?_, fun a ha b hb => ?_⟩
    · rw [List.singleton_append, List.pairwise_cons]
      exact ⟨fun b hb q e => (hta q e).2 b (List.mem_of_mem_drop hb), hs.2.1⟩
    · rw [List.singleton_append, List.mem_cons] at hb
      rcases hb with rfl | hb
      · intro q e e'
        exact (hta q e').2 a (List.mem_of_mem_take ha) e
      · exact hs.2.2 a ha b hb
  · rcases hat with e' | ⟨k, e', hk⟩
    · rw [e']; exact hne u hu q e
    · rw [e']
      intro e2
      have := (blk_lt (hin u hu) e).2
      cases e2
      omega
end Go.Proofs.YtpdcgjkfilohcabGreatDoor

namespace Go.Proofs.YtpdcgjkfilohcabGreatDoor
open Go.RowKit
attribute [local go_sem ↓] Go.wp_at_zero Go.wp_at_succ

theorem cells_two {w : World} {h : Nat} {u v : Value} {t : TypeId} (hb : w.heap[h]? = some (.cells #[u, v] t (0, 0))) : w.cell? ⟨h, 0, none⟩ = some u ∧ w.cell? ⟨h, 1, none⟩ = some v := by
  simp [World.cell?, hb]
theorem news_two {w : World} {h : Nat} {s : ByteArray} {v : Value} {t : TypeId} (hb : w.heap[h]? = some (.cells #[.string s, v] t (0, 0))) : ∀ j u, [Value.string s, v][j]? = some u → w.cell? ((⟨h, 0, none⟩ : Addr).add j) = some u := fun j u hu => by
  obtain ⟨c0, c1⟩ := cells_two hb
  have e : (⟨h, 0, none⟩ : Addr).add j = ⟨h, j, none⟩ := by unfold Addr.add; split <;> simp_all
  rw [e]
  have hj : j < 2 := by
    rcases Nat.lt_or_ge j 2 with q | q
    · exact q
    · rw [List.getElem?_eq_none (by simpa using q)] at hu; simp at hu
  rcases (by omega : j = 0 ∨ j = 1) with rfl | rfl
  · simp at hu; subst hu; exact c0
  · simp at hu; subst hu; exact c1

set_option maxRecDepth 100000 in
set_option maxHeartbeats 1000000 in
theorem insert_end (lo : Nat) (v : Value) (us : List Tb) (s : ByteArray) (a2 : Option Addr) (c2 : Nat) (bs : List Bx) (vb : Nat) (w : World) (hO : OwnT lo w v us) (hlo : lo ≤ w.heap.size) (ht : InT lo w (⟨s, a2, c2, bs⟩ : Tb)) (hta : ∀ q, (⟨s, a2, c2, bs⟩ : Tb).blk = some q → v.ownBlock ≠ some q ∧ ∀ u ∈ us, u.blk ≠ some q)
    (hblk : w.heap[vb]? = some (.cells #[.string s, .slice a2 bs.length c2] 43 (0, 0))) (hn : us.length ≤ 24) :
    Calls Tryz.prog 325 #[v, .int .i64 us.length, .slice (some ⟨vb, 0, none⟩) 1 1] w fun e w' => (∃ v', e = .returned v' ∧ OwnT lo w' v' (edit us us.length 0 [(⟨s, a2, c2, bs⟩ : Tb)])) ∧ w.grownBy w' v.ownBlock := by
  obtain ⟨i0, hi, hz0, hz1, hz2⟩ := info_parts Tryz.info43
  have hnews := news_two hblk
  have HR : Hid (w.ownsRow lo 43 2 v us.length (flatT us)) := hO.1
  rcases hO.1.2 with ⟨rfl, h0⟩ | ⟨g, cap, cur, rfl, hb, hg, h1, h2, h3, h4⟩
  · have e : us = [] := List.length_eq_zero_iff.1 h0
    subst e
    go_enter Tryz.func325, Tryz.ntmps325
    go_wp2_with (at_builtin; refine wpList_append_own_at _ rfl (.tmp 23) (.tmp 24) 39 rfl lo 43 i0 _ 2 40 Tryz.underlying39 hi hz0 hz1 hz2 rfl (by decide) _ _ _ rfl HR.out ⟨vb, 0, none⟩ 1 1 [Value.string s, Value.slice a2 bs.length c2] rfl rfl (by exact hnews) (tvals_one (⟨s, a2, c2, bs⟩ : Tb)) (by unfold maxLen; omega) (by omega) hlo ?_; intro v' w' hown' hgrow _ hat)
    have HO' : Hid (OwnT lo w' v' (edit ([] : List Tb) ([] : List Tb).length 0 [(⟨s, a2, c2, bs⟩ : Tb)])) := ownT_ins hO ht hta hgrow (by rw [edit_end, flatT_snoc, List.length_append]; exact hown') (hat.imp id (fun e => ⟨_, e, Nat.le_refl _⟩))
    have HG' : Hid _ := hgrow
    clear hown' hgrow hat
    go_wp2
    go_ret
    exact ⟨⟨_, rfl, HO'.out⟩, HG'.out⟩
  · have q0 : (0 : Int) ≤ (us.length : Int) := by omega
    have q1 : (us.length : Int) ≤ (cap : Int) := by omega
    by_cases hcn : cap = us.length
    · subst hcn
      go_enter Tryz.func325, Tryz.ntmps325
      go_wp2_with (at_builtin; refine wpList_append_own_at _ rfl (.tmp 23) (.tmp 24) 39 rfl lo 43 i0 _ 2 40 Tryz.underlying39 hi hz0 hz1 hz2 rfl (by decide) _ _ _ rfl HR.out ⟨vb, 0, none⟩ 1 1 [Value.string s, Value.slice a2 bs.length c2] rfl rfl (by exact hnews) (tvals_one (⟨s, a2, c2, bs⟩ : Tb)) (by unfold maxLen; omega) (by omega) hlo ?_; intro v' w' hown' hgrow _ hat)
      have HO' : Hid (OwnT lo w' v' (edit us us.length 0 [(⟨s, a2, c2, bs⟩ : Tb)])) := ownT_ins hO ht hta hgrow (by rw [edit_end, flatT_snoc, List.length_append]; exact hown') (hat.imp id (fun e => ⟨_, e, Nat.le_refl _⟩))
      have HG' : Hid _ := hgrow
      clear hown' hgrow hat
      go_wp2
      go_ret
      exact ⟨⟨_, rfl, HO'.out⟩, HG'.out⟩
    · go_enter Tryz.func325, Tryz.ntmps325
      go_wp2_with (at_builtin; refine wpList_append_own_at _ rfl (.tmp 23) (.tmp 24) 39 rfl lo 43 i0 _ 2 40 Tryz.underlying39 hi hz0 hz1 hz2 rfl (by decide) _ _ _ rfl HR.out ⟨vb, 0, none⟩ 1 1 [Value.string s, Value.slice a2 bs.length c2] rfl rfl (by exact hnews) (tvals_one (⟨s, a2, c2, bs⟩ : Tb)) (by unfold maxLen; omega) (by omega) hlo ?_; intro v' w' hown' hgrow _ hat)
      have HO' : Hid (OwnT lo w' v' (edit us us.length 0 [(⟨s, a2, c2, bs⟩ : Tb)])) := ownT_ins hO ht hta hgrow (by rw [edit_end, flatT_snoc, List.length_append]; exact hown') (hat.imp id (fun e => ⟨_, e, Nat.le_refl _⟩))
      have HG' : Hid _ := hgrow
      clear hown' hgrow hat
      go_wp2
      go_ret
      exact ⟨⟨_, rfl, HO'.out⟩, HG'.out⟩

/-- A new row of the first tubes, with room for the others. -/
theorem zeros_grow (w : World) (lo g p : Nat) (us : List Tb) (h : w.ownsRow lo 43 2 (.slice (some ⟨g, 0, none⟩) us.length us.length) us.length (flatT us)) (hp : p < us.length) (hn : us.length ≤ 24) :
    ∃ (cap2 : Nat) (W : World) (X : Array Value), (Builtin.append_ #[39, 3] 39 #[.slice (some ⟨g, 0, none⟩) p us.length, .int .i64 ((us.length : Int) + 1 - p)]).run Tryz.prog w = .ok (.slice (some ⟨w.heap.size, 0, none⟩) (us.length + 1) cap2) W ∧ W.heap[w.heap.size]? = some (.cells X 43 (0, 0)) ∧ X.size = cap2 * 2 ∧ us.length + 1 ≤ cap2 ∧ cap2 ≤ maxLen ∧ X.toList.take (p * 2) = flatT (us.take p) ∧ w.grownBy W none := by
  obtain ⟨i0, hi, hz0, hz1, hz2⟩ := info_parts Tryz.info43
  have hold : (Builtin.firstCells i0.size p (.slice (some ⟨g, 0, none⟩) p us.length)).run Tryz.prog w.drew = .ok (flatT (us.take p)).toArray w.drew := by
    rw [hz1]
    refine run_firstCells_some _ 2 p _ _ _ _ (by rw [flatT_len, List.length_take]; omega) (fun j v hv => ?_)
    have e : (⟨g, 0, none⟩ : Addr).add j = ⟨g, j, none⟩ := by unfold Addr.add; split <;> simp_all
    have hj : j < p * 2 := by
      have := (List.getElem?_eq_some_iff.1 hv).1
      rw [flatT_len, List.length_take] at this
      omega
    rw [e]
    show w.cell? _ = _
    rw [h.cellAt _ (by omega), ← hv, ← flatT_take us p (by omega), List.getElem?_take_of_lt hj]
  have hk : ((us.length : Int) + 1 - p) = ((us.length + 1 - p : Nat) : Int) := by omega
  have hcap : us.length < p + (us.length + 1 - p) := by omega
  have hnext : Builtin.nextslicecap (p + (us.length + 1 - p)) us.length ≤ 100 := by
    unfold Builtin.nextslicecap
    split
    · omega
    · rw [if_pos (by omega)]; omega
  have R := Lib.run_append_grow_zeros w 39 3 39 43 i0 _ .i64 .i64 Tryz.underlying39 Tryz.underlying3 hi hz0 (some ⟨g, 0, none⟩) p us.length (flatT (us.take p)) hold (us.length + 1 - p) (by omega) (by omega) hcap (by omega) (by rw [hz2]; omega) (by rw [hz2]; omega)
  have e : p + (us.length + 1 - p) = us.length + 1 := by omega
  rw [← hk, e] at R
  have hge := grownCap_ge w (us.length + 1) us.length 43
  have hmx := grownCap_le_maxLen w (us.length + 1) us.length 43 (by unfold maxLen; omega)
  have hl : (flatT (us.take p)).length = p * 2 := by rw [flatT_len, List.length_take]; omega
  refine ⟨_, _, _, R, heap_alloc_new w.drew _, ?_, hge, hmx, ?_, ⟨rfl, rfl, rfl, by simp, fun k hk _ => heap_alloc_old w.drew _ hk⟩⟩
  · simp only [Array.size_append, List.size_toArray, size_zeroCells, hl]
    show p * 2 + (us.length + 1 - p) * 2 + (_ - (us.length + 1)) * 2 = _
    omega
  · simp only [Array.toList_append, List.append_assoc]
    rw [List.take_left' (by simpa using hl)]

theorem edit_flat (us : List Tb) (p : Nat) (t : Tb) : flatT (edit us p 0 [t]) = flatT (us.take p) ++ t.vals ++ flatT (us.drop p) := by
  unfold edit
  rw [flatT_app, flatT_app, Nat.add_zero]
  simp [flatT]
theorem edit_len (us : List Tb) (p : Nat) (t : Tb) (hp : p ≤ us.length) : (edit us p 0 [t]).length = us.length + 1 := by
  unfold edit
  simp
  omega
/-- The tubes behind a place, as cells. -/
theorem drop_cells {w : World} {lo g p cap : Nat} {us : List Tb} (h : w.ownsRow lo 43 2 (.slice (some ⟨g, 0, none⟩) us.length cap) us.length (flatT us)) (hp : p ≤ us.length) : ∀ j u, (flatT (us.drop p))[j]? = some u → w.cell? ((⟨g, p * 2, none⟩ : Addr).add j) = some u := fun j u hu => by
  have e : (⟨g, p * 2, none⟩ : Addr).add j = ⟨g, p * 2 + j, none⟩ := by unfold Addr.add; split <;> simp_all
  have hj : j < (us.length - p) * 2 := by
    have := (List.getElem?_eq_some_iff.1 hu).1
    rw [flatT_len, List.length_drop] at this
    exact this
  rw [e, h.cellAt _ (by omega), ← hu, ← flatT_drop us p hp, List.getElem?_drop]
/-- Three pieces, one behind the other. -/
theorem three {X Y Z : Array Value} {A B C : List Value} {p : Nat} (h1 : X.toList.take p = A) (hp : p ≤ X.size) (h2 : Y.toList = X.toList.take p ++ B ++ X.toList.drop (p + B.length)) (h3 : Z.toList = Y.toList.take (p + B.length) ++ C ++ Y.toList.drop (p + B.length + C.length)) : Z.toList.take (p + B.length + C.length) = A ++ B ++ C := by
  have hl : (X.toList.take p ++ B).length = p + B.length := by rw [List.length_append, List.length_take]; simp; omega
  have e1 : Y.toList.take (p + B.length) = A ++ B := by
    rw [h2, List.take_left' hl, h1]
  rw [h3, e1]
  have hl2 : (A ++ B ++ C).length = p + B.length + C.length := by rw [List.length_append, ← h1, hl]
  rw [List.take_left' hl2]

theorem step_copy {P : Program} {ops : Array Oper} {o : Oper} {a : Act} {w : World} {K : Act → World → Prop} {Q : Exit → Act → World → Prop} {E : Prop}
    (hg : o.guard = none) (d x : Operand) (dT sT : TypeId) (hop : o.op = Op.call { callee := Callee.builtin Builtin.copy, args := #[d, x], argTypes := #[dT, sT] })
    (v u : Value) (hd : a.eval d = v) (hx : a.eval x = u) {v' : Value} {w' : World} (hr : (Builtin.copy_ #[dT, sT] o.type #[v, u]).run P w = .ok v' w') (hK : K (a.put o.dst v') w') :
    if Region.wanted o (yielded ops a.tmps) = true then Oper.wp P o a w K Q else E := by
  have hw : Region.wanted o (yielded ops a.tmps) = true := by simp [Region.wanted, hg]
  rw [if_pos hw]
  unfold Oper.wp
  simp [execOp, hop, resolve, invoke, builtin, hd, hx, hr, Result.andThen]
  exact hK

set_option maxRecDepth 100000 in
set_option maxHeartbeats 1000000 in
theorem insert_grow (lo g p : Nat) (us : List Tb) (s : ByteArray) (a2 : Option Addr) (c2 : Nat) (bs : List Bx) (vb : Nat) (w : World) (hO : OwnT lo w (.slice (some ⟨g, 0, none⟩) us.length us.length) us) (hlo : lo ≤ w.heap.size) (ht : InT lo w (⟨s, a2, c2, bs⟩ : Tb)) (hta : ∀ q, (⟨s, a2, c2, bs⟩ : Tb).blk = some q → (Value.slice (some ⟨g, 0, none⟩) us.length us.length).ownBlock ≠ some q ∧ ∀ u ∈ us, u.blk ≠ some q)
    (hblk : w.heap[vb]? = some (.cells #[.string s, .slice a2 bs.length c2] 43 (0, 0))) (hp : p < us.length) (hn : us.length ≤ 24) :
    Calls Tryz.prog 325 #[.slice (some ⟨g, 0, none⟩) us.length us.length, .int .i64 p, .slice (some ⟨vb, 0, none⟩) 1 1] w fun e w' => (∃ v', e = .returned v' ∧ OwnT lo w' v' (edit us p 0 [(⟨s, a2, c2, bs⟩ : Tb)])) ∧ w.grownBy w' (some g) := by
  obtain ⟨cap2, W, X, hap, hX, hXs, hc1, hc2, hXt, hgw⟩ := zeros_grow w lo g p us hO.1 hp hn
  have HAP : Hid _ := hap
  have hgl : g < w.heap.size := ownT_lt hO.1 g rfl
  have hvl : vb < w.heap.size := (Array.getElem?_eq_some_iff.1 hblk).1
  have hWv : W.heap[vb]? = some (.cells #[.string s, .slice a2 bs.length c2] 43 (0, 0)) := (hgw.block vb hvl (by simp)).trans hblk
  have hmin1 : Nat.min 1 (us.length + 1 - p) = 1 := Nat.min_eq_left (by omega)
  have hmin2 : Nat.min (us.length - p) (us.length + 1 - (p + 1)) = us.length - p := Nat.min_eq_left (by omega)
  obtain ⟨W2, X2, r2, hcp1, hX2, hX2t, hg2⟩ := copy_tubes W 3 w.heap.size (p * 2) (us.length + 1 - p) (cap2 - p) ⟨vb, 0, none⟩ 1 1 X [Value.string s, Value.slice a2 bs.length c2] hX (by rw [hmin1]; rfl) (news_two hWv) (by simp; omega) (tvals_one (⟨s, a2, c2, bs⟩ : Tb))
  have hW2row : W2.ownsRow lo 43 2 (.slice (some ⟨g, 0, none⟩) us.length us.length) us.length (flatT us) := (hO.1.kept hgw (by simp [Value.ownBlock])).kept hg2 (Or.inr (by simp [Value.ownBlock]; omega))
  have hX2s : X2.size = cap2 * 2 := by
    have : X2.toList.length = X.toList.length := by rw [hX2t]; simp; omega
    simp at this
    omega
  obtain ⟨W3, X3, r3, hcp2, hX3, hX3t, hg3'⟩ := copy_tubes W2.drew 3 w.heap.size ((p + 1) * 2) (us.length + 1 - (p + 1)) (cap2 - (p + 1)) ⟨g, p * 2, none⟩ (us.length - p) (us.length - p) X2 (flatT (us.drop p)) hX2 (by rw [hmin2, flatT_len, List.length_drop]) (drop_cells (w := W2.drew) hW2row (by omega)) (by rw [flatT_len, List.length_drop]; omega) (flatT_one _)
  have hg3 := grown_drew hg3'
  have HC1 : Hid _ := hcp1
  have HC2 : Hid _ := hcp2
  have hX3s : X3.size = cap2 * 2 := by
    have h9 : X3.toList.length = X2.toList.length := by rw [hX3t]; simp [flatT_len]; omega
    simp at h9
    omega
  have hfl : (flatT (us.drop p)).length = (us.length - p) * 2 := by rw [flatT_len, List.length_drop]
  have hrow : W3.ownsRow lo 43 2 (.slice (some ⟨w.heap.size, 0, none⟩) (edit us p 0 [(⟨s, a2, c2, bs⟩ : Tb)]).length cap2) (edit us p 0 [(⟨s, a2, c2, bs⟩ : Tb)]).length (flatT (edit us p 0 [(⟨s, a2, c2, bs⟩ : Tb)])) := by
    rw [edit_len us p _ (by omega), edit_flat]
    have e8 : (p + 1) * 2 = p * 2 + [Value.string s, Value.slice a2 bs.length c2].length := by simp; omega
    rw [e8] at hX3t
    have h3 := three (p := p * 2) (B := [Value.string s, Value.slice a2 bs.length c2]) (C := flatT (us.drop p)) hXt (by omega) hX2t hX3t
    have h4 := owns_mk (base := lo) (n := us.length + 1) (size := 2) hX3 hlo hc1 hc2 hX3s
    have e9 : p * 2 + [Value.string s, Value.slice a2 bs.length c2].length + (flatT (us.drop p)).length = (us.length + 1) * 2 := by rw [hfl]; simp; omega
    rw [e9] at h3
    rw [h3] at h4
    exact h4
  have hg5 : w.grownBy W3 none := ⟨hg3.os.trans (hg2.os.trans hgw.os), hg3.tape.trans (hg2.tape.trans hgw.tape), hg3.output.trans (hg2.output.trans hgw.output), Nat.le_trans hgw.size (Nat.le_trans hg2.size hg3.size), fun k hk _ => (hg3.block k (by have := hgw.size; have := hg2.size; omega) (by simp; omega)).trans ((hg2.block k (by have := hgw.size; omega) (by simp; omega)).trans (hgw.block k hk (by simp)))⟩
  have hg4 : w.grownBy W3 (some g) := ⟨hg5.os, hg5.tape, hg5.output, hg5.size, fun k hk _ => hg5.block k hk (by simp)⟩
  have HO' : Hid (OwnT lo W3 (.slice (some ⟨w.heap.size, 0, none⟩) (us.length + 1) cap2) (edit us p 0 [(⟨s, a2, c2, bs⟩ : Tb)])) := by
    have h9 := ownT_ins (p := p) hO ht hta hg4 hrow (Or.inr ⟨w.heap.size, rfl, Nat.le_refl _⟩)
    rw [edit_len us p _ (by omega)] at h9
    exact h9
  have HG4 : Hid _ := hg4
  clear hap hcp1 hcp2 hX hX2 hX3 hX2t hX3t hXt hgw hg2 hg3 hg3' hg5 hg4 hrow hW2row hWv hblk ht hta hO
  have q0 : (0 : Int) ≤ (p : Int) := by omega
  have q1 : (p : Int) ≤ (us.length : Int) := by omega
  have q2 : ¬ us.length = p := by omega
  have q3 : ((p : Int) == (us.length : Int)) = false := by simp; omega
  have q4 : (p : Int) ≤ (us.length : Int) + 1 := by omega
  have q5 : ¬ cap2 = p := by omega
  have q6 : ¬ cap2 = p + 1 := by omega
  have q7 : (us.length : Int) + 1 ≤ (cap2 : Int) := by omega
  have q8 : (0 : Int) ≤ (p : Int) + 1 := by omega
  have q9 : (p : Int) + 1 ≤ (us.length : Int) + 1 := by omega
  go_enter Tryz.func325, Tryz.ntmps325
  go_wp2_with (at_builtin; refine Lib.wpList_append_run _ rfl (.tmp 34) (.tmp 39) 39 3 rfl _ _ rfl rfl _ _ HAP.out ?_)
  rw [HC1.out]
  simp only [Result.andThen]
  rw [Oper.upon_value]
  have hwp : IntKind.i64.wrap ((p : Int) + 1) = (p : Int) + 1 := IntWalk.i64_in _ ⟨by omega, by omega⟩
  have htn : ((p : Int) + 1).toNat = p + 1 := by omega
  go_upto_region 11 with fail
  go_region_law (refine step_copy rfl (.tmp 50) (.tmp 53) 39 39 rfl (.slice (some ⟨w.heap.size, (p + 1) * 2, none⟩) (us.length + 1 - (p + 1)) (cap2 - (p + 1))) (.slice (some ⟨g, p * 2, none⟩) (us.length - p) (us.length - p)) (by simp [Act.eval, Act.put]) (by simp [Act.eval, Act.put]) HC2.out ?_)
  go_wp2
  go_ret
  exact ⟨⟨_, rfl, HO'.out⟩, HG4.out⟩

theorem shift_row {X Y Z : Array Value} {A B C : List Value} {p : Nat} (h1 : X.toList.take p = A) (hp : p + B.length ≤ X.size) (h2 : Y.toList = X.toList.take (p + B.length) ++ C ++ X.toList.drop (p + B.length + C.length)) (h3 : Z.toList = Y.toList.take p ++ B ++ Y.toList.drop (p + B.length)) : Z.toList.take (p + B.length + C.length) = A ++ B ++ C := by
  have hl : (X.toList.take (p + B.length)).length = p + B.length := by rw [List.length_take]; simp; omega
  have e1 : Y.toList.take p = A := by
    rw [h2, List.append_assoc, List.take_append_of_le_length (by omega), List.take_take, Nat.min_eq_left (by omega), h1]
  have e2 : Y.toList.drop (p + B.length) = C ++ X.toList.drop (p + B.length + C.length) := by
    rw [h2, List.append_assoc, List.drop_left' hl]
  have hA : A.length = p := by rw [← h1, List.length_take]; simp; omega
  rw [h3, e1, e2, ← List.append_assoc, List.take_left' (by simp [hA]; omega)]

set_option maxRecDepth 100000 in
set_option maxHeartbeats 1000000 in
theorem insert_shift (lo g p cap : Nat) (us : List Tb) (s : ByteArray) (a2 : Option Addr) (c2 : Nat) (bs : List Bx) (vb : Nat) (w : World) (hO : OwnT lo w (.slice (some ⟨g, 0, none⟩) us.length cap) us) (ht : InT lo w (⟨s, a2, c2, bs⟩ : Tb)) (hta : ∀ q, (⟨s, a2, c2, bs⟩ : Tb).blk = some q → (Value.slice (some ⟨g, 0, none⟩) us.length cap).ownBlock ≠ some q ∧ ∀ u ∈ us, u.blk ≠ some q)
    (hblk : w.heap[vb]? = some (.cells #[.string s, .slice a2 bs.length c2] 43 (0, 0))) (hvg : vb ≠ g) (hp : p < us.length) (hn : us.length ≤ 24) (hcap : us.length + 1 ≤ cap) :
    Calls Tryz.prog 325 #[.slice (some ⟨g, 0, none⟩) us.length cap, .int .i64 p, .slice (some ⟨vb, 0, none⟩) 1 1] w fun e w' => (∃ v', e = .returned v' ∧ OwnT lo w' v' (edit us p 0 [(⟨s, a2, c2, bs⟩ : Tb)])) ∧ w.grownBy w' (some g) := by
  obtain ⟨i0, hi, hz0, hz1, hz2⟩ := info_parts Tryz.info43
  obtain ⟨cur, hg, hb, hn1, hcm, hcs, hct⟩ := owns_open hO.1
  have hmin1 : Nat.min 1 (us.length + 1 - p) = 1 := Nat.min_eq_left (by omega)
  have hmin2 : Nat.min (us.length + 1 - p) (us.length + 1 - (p + 1)) = us.length - p := (Nat.min_eq_right (by omega)).trans (by omega)
  have hfl : (flatT (us.drop p)).length = (us.length - p) * 2 := by rw [flatT_len, List.length_drop]
  have hvl : vb < w.heap.size := (Array.getElem?_eq_some_iff.1 hblk).1
  have hgl : g < w.heap.size := ownT_lt hO.1 g rfl
  obtain ⟨W1, X1, r1, hcp1, hX1, hX1t, hg1'⟩ := copy_tubes w.drew 3 g ((p + 1) * 2) (us.length + 1 - (p + 1)) (cap - (p + 1)) ⟨g, p * 2, none⟩ (us.length + 1 - p) (cap - p) cur (flatT (us.drop p)) hg (by rw [hmin2, hfl]) (drop_cells (w := w.drew) hO.1 (by omega)) (by rw [hfl]; omega) (flatT_one _)
  have hg1 := grown_drew hg1'
  have hX1s : X1.size = cap * 2 := by
    have h9 : X1.toList.length = cur.toList.length := by rw [hX1t]; simp [hfl]; omega
    simp at h9
    omega
  have hWv : W1.heap[vb]? = some (.cells #[.string s, .slice a2 bs.length c2] 43 (0, 0)) := (hg1.block vb hvl (by simpa using hvg)).trans hblk
  obtain ⟨W2, X2, r2, hcp2, hX2, hX2t, hg2⟩ := copy_tubes W1 3 g (p * 2) (us.length + 1 - p) (cap - p) ⟨vb, 0, none⟩ 1 1 X1 [Value.string s, Value.slice a2 bs.length c2] hX1 (by rw [hmin1]; rfl) (news_two hWv) (by simp; omega) (tvals_one (⟨s, a2, c2, bs⟩ : Tb))
  have hX2s : X2.size = cap * 2 := by
    have h9 : X2.toList.length = X1.toList.length := by rw [hX2t]; simp; omega
    simp at h9
    omega
  have hG : w.grownBy W2 (some g) := grown_trans hg1 hg2
  have hrow : W2.ownsRow lo 43 2 (.slice (some ⟨g, 0, none⟩) (edit us p 0 [(⟨s, a2, c2, bs⟩ : Tb)]).length cap) (edit us p 0 [(⟨s, a2, c2, bs⟩ : Tb)]).length (flatT (edit us p 0 [(⟨s, a2, c2, bs⟩ : Tb)])) := by
    rw [edit_len us p _ (by omega), edit_flat]
    have e8 : (p + 1) * 2 = p * 2 + [Value.string s, Value.slice a2 bs.length c2].length := by simp; omega
    rw [e8] at hX1t
    have hA : cur.toList.take (p * 2) = flatT (us.take p) := by
      rw [← flatT_take us p (by omega), ← hct, List.take_take, Nat.min_eq_left (by omega)]
    have h3 := shift_row (p := p * 2) (B := [Value.string s, Value.slice a2 bs.length c2]) (C := flatT (us.drop p)) hA (by simp; omega) hX1t hX2t
    have h4 := owns_mk (base := lo) (n := us.length + 1) (size := 2) hX2 hb hcap hcm hX2s
    have e9 : p * 2 + [Value.string s, Value.slice a2 bs.length c2].length + (flatT (us.drop p)).length = (us.length + 1) * 2 := by rw [hfl]; simp; omega
    rw [e9] at h3
    rw [h3] at h4
    exact h4
  have HO' : Hid (OwnT lo W2 (.slice (some ⟨g, 0, none⟩) (us.length + 1) cap) (edit us p 0 [(⟨s, a2, c2, bs⟩ : Tb)])) := by
    have h9 := ownT_ins (p := p) hO ht hta hG hrow (Or.inl rfl)
    rw [edit_len us p _ (by omega)] at h9
    exact h9
  have HG : Hid _ := hG
  have HC1 : Hid _ := hcp1
  have HC2 : Hid _ := hcp2
  have hsz : ∀ w, (sizeOf 43).run Tryz.prog w = .ok 2 w := fun w => by simp [sizeOf, typeInfo, hi, hz1]
  have HOV : Hid ((Extern.SlicesOverlaps.overlaps #[39, 39] #[4] #[.slice (some ⟨vb, 0, none⟩) 1 1, .slice (some ⟨g, (p + 1) * 2, none⟩) (us.length - p) (cap - (p + 1))]).run Tryz.prog w = .ok (.bool false) w) :=
    Lib.run_overlaps_apart w 39 4 43 Tryz.underlying39 2 hsz ⟨vb, 0, none⟩ ⟨g, (p + 1) * 2, none⟩ 1 1 _ _ hvg 43 43 2 cur.size (by simp [World.shape?, hblk]) (by simp [World.shape?, hg]) (by omega) (by simp [World.frozen?, hblk]) (by simp [World.frozen?, hblk])
  clear hcp1 hcp2 hX1 hX2 hX1t hX2t hg1 hg1' hg2 hG hrow hWv hblk ht hta hO hct hg
  have q0 : (0 : Int) ≤ (p : Int) := by omega
  have q1 : (p : Int) ≤ (us.length : Int) := by omega
  have q2 : ¬ cap = p := by omega
  have q3 : ((p : Int) == (us.length : Int)) = false := by simp; omega
  have q4 : (p : Int) ≤ (us.length : Int) + 1 := by omega
  have q6 : ¬ cap = p + 1 := by omega
  have q7 : (us.length : Int) + 1 ≤ (cap : Int) := by omega
  have q8 : (0 : Int) ≤ (p : Int) + 1 := by omega
  have q9 : (p : Int) + 1 ≤ (us.length : Int) + 1 := by omega
  have q10 : (0 : Int) ≤ (us.length : Int) + 1 := by omega
  have hwp : IntKind.i64.wrap ((p : Int) + 1) = (p : Int) + 1 := IntWalk.i64_in _ ⟨by omega, by omega⟩
  have htn : ((p : Int) + 1).toNat = p + 1 := by omega
  go_enter Tryz.func325, Tryz.ntmps325
  go_wp2
  rw [run_callFunc_extern Tryz.func326 (by kernel_rfl) (by kernel_rfl) (by kernel_rfl) (e := Extern.SlicesOverlaps.overlaps #[39, 39] #[4]) (by kernel_rfl), HOV.out]
  simp only [Result.andThen]
  rw [Oper.upon_value]
  go_upto_region 15 with fail
  go_region_law (refine step_copy rfl (.tmp 73) (.tmp 76) 39 39 rfl (.slice (some ⟨g, (p + 1) * 2, none⟩) (us.length + 1 - (p + 1)) (cap - (p + 1))) (.slice (some ⟨g, p * 2, none⟩) (us.length + 1 - p) (cap - p)) (by simp [Act.eval, Act.put]) (by simp [Act.eval, Act.put]) HC1.out ?_)
  go_wp2
  rw [HC2.out]
  simp only [Result.andThen]
  rw [Oper.upon_value]
  go_wp2
  go_ret
  exact ⟨⟨_, rfl, HO'.out⟩, HG.out⟩
end Go.Proofs.YtpdcgjkfilohcabGreatDoor
