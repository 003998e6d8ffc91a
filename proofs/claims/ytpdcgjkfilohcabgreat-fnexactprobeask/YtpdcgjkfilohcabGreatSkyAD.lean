import Derived.Test.YtpdcgjkfilohcabGreatSmallAD
import Derived.Test.YtpdcgjkfilohcabGreatLawTubeOk
namespace Go.Proofs.YtpdcgjkfilohcabGreat
open Go.RowKit
attribute [local go_sem ↓] Go.wp_at_zero Go.wp_at_succ

/-- A tube in memory. -/
structure Tb where
  s : ByteArray
  a : Option Addr
  cap : Nat
  bs : List Bx
def Tb.nil : Tb := ⟨⟨#[]⟩, none, 0, []⟩
def Two (w : World) (g o : Nat) (t : Tb) : Prop := w.cell? ⟨g, o, none⟩ = some (.string t.s) ∧ w.cell? ⟨g, o + 1, none⟩ = some (.slice t.a t.bs.length t.cap)
def Tubes (w : World) (a : Option Addr) (ts : List Tb) : Prop :=
  ∀ k, k < ts.length → ∃ g o, a = some ⟨g, o, none⟩ ∧ g < w.heap.size ∧ Two w g (o + k * 2) (ts.getD k Tb.nil) ∧ Boxes w (ts.getD k Tb.nil).a (ts.getD k Tb.nil).bs
/-- Names and boxes are of a size that the laws look at. -/
def Small (ts : List Tb) : Prop := ts.length ≤ 1048576 ∧ ∀ k, k < ts.length → (ts.getD k Tb.nil).s.size ≤ maxLen ∧ (ts.getD k Tb.nil).bs.length ≤ 1048576

theorem two_gr {w w' : World} {g o : Nat} {t : Tb} (h : Two w g o t) (gr : Gr w w') (hg : g < w.heap.size) : Two w' g o t := ⟨(gr.cells.1 _ _ hg).trans h.1, (gr.cells.1 _ _ hg).trans h.2⟩
theorem tubes_gr {w w' : World} {a : Option Addr} {ts : List Tb} (h : Tubes w a ts) (gr : Gr w w') : Tubes w' a ts := fun k hk => by
  obtain ⟨g, o, e, hg, hx, hb⟩ := h k hk
  exact ⟨g, o, e, Nat.lt_of_lt_of_le hg gr.size, two_gr hx gr hg, boxes_gr hb gr⟩

def nm (ts : List Tb) (k : Nat) : ByteArray := (ts.getD k Tb.nil).s
def bx (ts : List Tb) (k : Nat) : List Bx := (ts.getD k Tb.nil).bs
def tubeAt (ts : List Tb) (k : Nat) : Bool := tubeB (nm ts k) (bx ts k)
def lessAt (ts : List Tb) (k : Nat) : Bool := k == 0 || Op.bytesLess (nm ts (k - 1)).toList (nm ts k).toList
def okTo (ts : List Tb) (k : Nat) : Bool := (List.range k).all (tubeAt ts)
def ascTo (ts : List Tb) (k : Nat) : Bool := (List.range k).all (lessAt ts)
/-- Tubes that are ok together. -/
def skyB (ts : List Tb) : Bool := decide (ts.length ≤ 24) && okTo ts ts.length && ascTo ts ts.length
/-- The same names and boxes. -/
def Like (us ts : List Tb) : Prop := us.length = ts.length ∧ ∀ k, k < ts.length → nm us k = nm ts k ∧ bx us k = bx ts k

theorem range_snoc (p : Nat → Bool) (k : Nat) : (List.range (k + 1)).all p = ((List.range k).all p && p k) := by simp [List.range_succ]
theorem range_stop (p : Nat → Bool) (n k : Nat) (hk : k < n) (hp : p k = false) : (List.range n).all p = false := by
  rw [List.all_eq_false]; exact ⟨k, by simpa using hk, by simp [hp]⟩
theorem range_same (p q : Nat → Bool) (n : Nat) (h : ∀ k, k < n → p k = q k) : (List.range n).all p = (List.range n).all q := by
  induction n with
  | zero => rfl
  | succ n ih => rw [range_snoc, range_snoc, ih (fun k hk => h k (by omega)), h n (by omega)]
theorem sky_like {us ts : List Tb} (h : Like us ts) : skyB us = skyB ts := by
  obtain ⟨hl, hk⟩ := h
  unfold skyB okTo ascTo
  rw [hl, range_same (tubeAt us) (tubeAt ts) _ (fun k q => by simp only [tubeAt, (hk k q).1, (hk k q).2]),
    range_same (lessAt us) (lessAt ts) _ (fun k q => by
      simp only [lessAt]
      by_cases e : k = 0
      · simp [e]
      · rw [(hk k q).1, (hk (k - 1) (by omega)).1])]

set_option maxHeartbeats 400000 in
theorem tubeCount_any (a : Option Addr) (cap : Nat) (ts : List Tb) (w : World) (hn : ts.length ≤ 1048576) :
    Calls Tryz.prog 65 #[.slice a ts.length cap] w fun e w' => e = .returned (.bool (decide (ts.length ≤ 24))) ∧ Gr w w' := by
  by_cases h : (ts.length : Int) ≤ 24
  all_goals
    go_enter Tryz.func65, Tryz.ntmps65
    go_wp2
    go_ret
    refine ⟨?_, Gr.refl _⟩
    first
      | (have hb : decide (ts.length ≤ 24) = true := by simp; omega
         rw [hb]; simp [*])
      | (have hb : decide (ts.length ≤ 24) = false := by simp; omega
         rw [hb]; simp [*])

set_option maxHeartbeats 1000000 in
theorem tubesOk_any (a : Option Addr) (cap : Nat) (ts : List Tb) (w : World) (ha : Tubes w a ts) (hS : Small ts) :
    Calls Tryz.prog 66 #[.slice a ts.length cap] w fun e w' => e = .returned (.bool (okTo ts ts.length)) ∧ Gr w w' := by
  have hn := hS.1
  go_enter Tryz.func66, Tryz.ntmps66
  go_wp2
  go_loopw [7] (fun i wr => ∃ k : Nat, k ≤ ts.length ∧ i = .int .i64 k ∧ Gr w wr ∧ Hid (okTo ts k = true)) (fun i _ => ts.length - (intOf i).toNat)
  case atStart => exact ⟨0, Nat.zero_le _, rfl, Gr.refl _, by show okTo ts 0 = true; rfl⟩
  case round =>
    obtain ⟨k, hk, rfl, gr, hq⟩ := hrel
    by_cases hkl : k < ts.length
    · obtain ⟨g, o, rfl, hg, hx, hb⟩ := ha k hkl
      obtain ⟨hs, hbn⟩ := hS.2 k hkl
      have HN : Hid (tubeB (ts.getD k Tb.nil).s (ts.getD k Tb.nil).bs = true → okTo ts (k + 1) = true) := fun h => by rw [okTo, range_snoc]; have := hq.out; rw [okTo] at this; rw [this]; exact h
      have HF : Hid (tubeB (ts.getD k Tb.nil).s (ts.getD k Tb.nil).bs = false → okTo ts ts.length = false) := fun h => range_stop _ _ k hkl h
      generalize ts.getD k Tb.nil = t at *
      obtain ⟨c0, c1⟩ := two_gr hx gr hg
      clear hx hq
      cases hok : tubeB t.s t.bs
      · have HR : Hid (okTo ts ts.length = false) := HF.out hok
        clear HF HN
        go_wp2_with (go_at_call 45; refine (implTubeOk_any _ _ _ t.bs _ hs (boxes_gr hb (gr.alloc _)) hbn).mono ?_; rintro e w1 ⟨rfl, g1⟩)
        go_ret
        exact ⟨by rw [HR.out]; rfl, (gr.alloc _).trans g1⟩
      · have HR : Hid (okTo ts (k + 1) = true) := HN.out hok
        clear HF HN
        go_wp2_with (go_at_call 45; refine (implTubeOk_any _ _ _ t.bs _ hs (boxes_gr hb (gr.alloc _)) hbn).mono ?_; rintro e w1 ⟨rfl, g1⟩)
        go_roundw
        case rel => exact ⟨k + 1, by omega, by go_num, (gr.alloc _).trans g1, HR⟩
        case measure => simp [intOf]; omega
    · have e : k = ts.length := by omega
      subst e
      go_wp2
      go_ret
      exact ⟨by rw [hq.out]; rfl, gr⟩

set_option maxHeartbeats 1000000 in
theorem namesAscend_any (a : Option Addr) (cap : Nat) (ts : List Tb) (w : World) (ha : Tubes w a ts) (hn : ts.length ≤ 1048576) :
    Calls Tryz.prog 67 #[.slice a ts.length cap] w fun e w' => e = .returned (.bool (ascTo ts ts.length)) ∧ Gr w w' := by
  go_enter Tryz.func67, Tryz.ntmps67
  go_wp2
  go_loopw [3] (fun i wr => ∃ k : Nat, 1 ≤ k ∧ (k ≤ ts.length ∨ k = 1) ∧ i = .int .i64 k ∧ Gr w wr ∧ Hid (ascTo ts k = true)) (fun i _ => ts.length - (intOf i).toNat)
  case atStart => exact ⟨1, by omega, Or.inr rfl, rfl, Gr.refl _, by show ascTo ts 1 = true; rfl⟩
  case round =>
    obtain ⟨k, hk, hk2, rfl, gr, hq⟩ := hrel
    by_cases hkl : k < ts.length
    · obtain ⟨g, o, rfl, hg, hx, -⟩ := ha k hkl
      obtain ⟨g', o', e', hg', hy, -⟩ := ha (k - 1) (by omega)
      simp only [Option.some.injEq, Addr.mk.injEq, and_true] at e'
      obtain ⟨rfl, rfl⟩ := e'
      obtain ⟨j, rfl⟩ : ∃ j, k = j + 1 := ⟨k - 1, by omega⟩
      simp only [Nat.add_sub_cancel] at hy
      have HE : Hid (lessAt ts (j + 1) = Op.bytesLess (ts.getD j Tb.nil).s.toList (ts.getD (j + 1) Tb.nil).s.toList) := by show lessAt ts (j + 1) = _; simp [lessAt, nm]
      have HN : Hid (lessAt ts (j + 1) = true → ascTo ts (j + 1 + 1) = true) := fun h => by rw [ascTo, range_snoc]; have := hq.out; rw [ascTo] at this; rw [this]; exact h
      have HF : Hid (lessAt ts (j + 1) = false → ascTo ts ts.length = false) := fun h => range_stop _ _ (j + 1) hkl h
      generalize ts.getD (j + 1) Tb.nil = t at *
      generalize ts.getD j Tb.nil = u at *
      have c1 := (gr.cells.1 _ _ hg).trans hx.1
      have c2 := (gr.cells.1 _ _ hg).trans hy.1
      have i0 : (0 : Int) ≤ (j : Int) + 1 := by omega
      have i1 : (j : Int) + 1 < (ts.length : Int) := by omega
      have i2 : (j : Int) < (ts.length : Int) := by omega
      have i3 : (0 : Int) ≤ (j : Int) := by omega
      clear hx hy ha hq
      cases hok : Op.bytesLess u.s.toList t.s.toList
      · have HR : Hid (ascTo ts ts.length = false) := HF.out (HE.out.trans hok)
        clear HF HN HE
        go_wp2_with fail
        go_quiet (fail)
        go_wp2
        go_ret
        exact ⟨by rw [HR.out]; rfl, gr.drewN _⟩
      · have HR : Hid (ascTo ts (j + 1 + 1) = true) := HN.out (HE.out.trans hok)
        clear HF HN HE
        go_wp2_with fail
        go_quiet (fail)
        go_wp2
        go_roundw
        case rel => exact ⟨j + 1 + 1, by omega, Or.inl (by omega), by go_num, gr.drewN _, HR⟩
        case measure => simp [intOf]; omega
    · have e : ascTo ts ts.length = true := by
        rcases hk2 with h | h
        · have e : k = ts.length := by omega
          rw [← e]; exact hq.out
        · rcases (by omega : ts.length = 0 ∨ ts.length = 1) with q | q
          · rw [q]; rfl
          · rw [q]; rfl
      have HR : Hid (ascTo ts ts.length = true) := e
      clear e
      go_wp2
      go_ret
      exact ⟨by rw [HR.out]; rfl, gr⟩

/-- What the first k checks of tubes say. -/
def preS (ts : List Tb) : Nat → Bool
  | 0 => true
  | 1 => decide (ts.length ≤ 24)
  | 2 => decide (ts.length ≤ 24) && okTo ts ts.length
  | _ => decide (ts.length ≤ 24) && okTo ts ts.length && ascTo ts ts.length

set_option maxHeartbeats 2000000 in
theorem passesS_any (a : Option Addr) (cap : Nat) (ts : List Tb) (f : Nat) (w : World) (ha : Tubes w a ts) (hS : Small ts) (hf : f < w.heap.size)
    (f0 : w.cell? ⟨f, 0, none⟩ = some (.func (Fn.func 65) #[] #[])) (f1 : w.cell? ⟨f, 1, none⟩ = some (.func (Fn.func 66) #[] #[])) (f2 : w.cell? ⟨f, 2, none⟩ = some (.func (Fn.func 67) #[] #[])) :
    Calls Tryz.prog 64 #[.slice a ts.length cap, .slice (some ⟨f, 0, none⟩) 3 3] w fun e w' => e = .returned (.bool (skyB ts)) ∧ Gr w w' := by
  have HV : Hid (skyB ts = (decide (ts.length ≤ 24) && okTo ts ts.length && ascTo ts ts.length)) := rfl
  have hn := hS.1
  go_enter Tryz.func64, Tryz.ntmps64
  go_wp2
  go_loopw [9] (fun i wr => ∃ k : Nat, k ≤ 3 ∧ i = .int .i64 k ∧ Gr w wr ∧ Hid (preS ts k = true)) (fun i _ => 3 - (intOf i).toNat)
  case atStart => exact ⟨0, Nat.zero_le _, rfl, Gr.refl _, by show preS ts 0 = true; rfl⟩
  case round =>
    obtain ⟨k, hk, rfl, gr, hb⟩ := hrel
    have e0 := (gr.cells.1 f 0 hf).trans f0
    have e1 := (gr.cells.1 f 1 hf).trans f1
    have e2 := (gr.cells.1 f 2 hf).trans f2
    clear f0 f1 f2
    rcases (by omega : k = 0 ∨ k = 1 ∨ k = 2 ∨ k = 3) with rfl | rfl | rfl | rfl
    · cases hok : decide (ts.length ≤ 24)
      · have HR : Hid (skyB ts = false) := by show skyB ts = false; rw [HV.out, hok]; simp
        go_wp2_with (go_at_call 65; refine (tubeCount_any _ _ ts _ hn).mono ?_; rintro e w1 ⟨rfl, g1⟩)
        go_ret
        exact ⟨by rw [HR.out]; rfl, gr.trans g1⟩
      · have HR : Hid (preS ts 1 = true) := by
          have hb' := hb.out
          show preS ts 1 = true
          simp only [preS] at hb' ⊢
          rw [hok]
          try simp only [hb', Bool.and_self]
        go_wp2_with (go_at_call 65; refine (tubeCount_any _ _ ts _ hn).mono ?_; rintro e w1 ⟨rfl, g1⟩)
        go_roundw
        case rel => exact ⟨1, by omega, by go_num, gr.trans g1, HR⟩
        case measure => simp [intOf]
    · cases hok : okTo ts ts.length
      · have HR : Hid (skyB ts = false) := by show skyB ts = false; rw [HV.out, hok]; simp
        go_wp2_with (go_at_call 66; refine (tubesOk_any _ _ ts _ (tubes_gr ha gr) hS).mono ?_; rintro e w1 ⟨rfl, g1⟩)
        go_ret
        exact ⟨by rw [HR.out]; rfl, gr.trans g1⟩
      · have HR : Hid (preS ts 2 = true) := by
          have hb' := hb.out
          show preS ts 2 = true
          simp only [preS] at hb' ⊢
          rw [hok]
          try simp only [hb', Bool.and_self]
        go_wp2_with (go_at_call 66; refine (tubesOk_any _ _ ts _ (tubes_gr ha gr) hS).mono ?_; rintro e w1 ⟨rfl, g1⟩)
        go_roundw
        case rel => exact ⟨2, by omega, by go_num, gr.trans g1, HR⟩
        case measure => simp [intOf]
    · cases hok : ascTo ts ts.length
      · have HR : Hid (skyB ts = false) := by show skyB ts = false; rw [HV.out, hok]; simp
        go_wp2_with (go_at_call 67; refine (namesAscend_any _ _ ts _ (tubes_gr ha gr) hn).mono ?_; rintro e w1 ⟨rfl, g1⟩)
        go_ret
        exact ⟨by rw [HR.out]; rfl, gr.trans g1⟩
      · have HR : Hid (preS ts 3 = true) := by
          have hb' := hb.out
          show preS ts 3 = true
          simp only [preS] at hb' ⊢
          rw [hok]
          try simp only [hb', Bool.and_self]
        go_wp2_with (go_at_call 67; refine (namesAscend_any _ _ ts _ (tubes_gr ha gr) hn).mono ?_; rintro e w1 ⟨rfl, g1⟩)
        go_roundw
        case rel => exact ⟨3, by omega, by go_num, gr.trans g1, HR⟩
        case measure => simp [intOf]
    · go_wp2
      go_ret
      refine ⟨?_, gr⟩
      have hb' : preS ts 3 = true := hb.out
      rw [HV.out]
      simp only [preS] at hb'
      rw [hb']
      rfl

set_option maxHeartbeats 400000 in
theorem implSkyOk_any (a : Option Addr) (cap : Nat) (ts : List Tb) (w : World) (ha : Tubes w a ts) (hS : Small ts) :
    Calls Tryz.prog 36 #[.slice a ts.length cap] w fun e w' => e = .returned (.bool (skyB ts)) ∧ Gr w w' := by
  go_enter Tryz.func36, Tryz.ntmps36
  go_wp2_with (first
    | (go_at_call 64; refine (passesS_any _ _ ts _ _ (tubes_gr ha ((Gr.refl _).alloc _)) hS (by simp) (by simp) (by simp) (by simp)).mono ?_; rintro e w2 ⟨rfl, g2⟩))
  go_ret
  exact ⟨rfl, ((Gr.refl _).alloc _).trans g2⟩

end Go.Proofs.YtpdcgjkfilohcabGreat

namespace Go.Proofs.YtpdcgjkfilohcabGreat
open Go.RowKit
attribute [local go_sem ↓] Go.wp_at_zero Go.wp_at_succ

/-- Names and boxes as they may come in. -/
def Fits (ts : List Tb) : Prop := ts.length ≤ maxLen ∧ ∀ k, k < ts.length → (ts.getD k Tb.nil).s.size ≤ maxLen ∧ (ts.getD k Tb.nil).bs.length ≤ maxLen

set_option maxHeartbeats 1000000 in
theorem szTubeS_any (a : Option Addr) (cap : Nat) (ts : List Tb) (w : World) (ha : Tubes w a ts) (hF : Fits ts) :
    Calls Tryz.prog 8 #[.slice a ts.length cap, .int .i64 1048576] w fun e w' => (∃ v : Int, e = .returned (.int .i64 v) ∧ (¬ v < 0 → Small ts)) ∧ Gr w w' := by
  have hl : ts.length ≤ 2 ^ 63 - 1 := hF.1
  by_cases h : (1048576 : Int) - ts.length < 0
  · go_enter Tryz.func8, Tryz.ntmps8
    go_wp2
    go_ret
    exact ⟨⟨-1, rfl, fun h => by exfalso; omega⟩, Gr.refl _⟩
  have hn : ts.length ≤ 1048576 := by omega
  go_enter Tryz.func8, Tryz.ntmps8
  go_wp2
  go_loopw [1, 5] (fun q i wr => ∃ (k : Nat) (v : Int), k ≤ ts.length ∧ i = .int .i64 k ∧ q = .int .i64 v ∧ 0 ≤ v ∧ v ≤ 1048576 ∧ Gr w wr ∧ Hid (∀ j, j < k → (ts.getD j Tb.nil).s.size ≤ maxLen ∧ (ts.getD j Tb.nil).bs.length ≤ 1048576)) (fun _ i _ => ts.length - (intOf i).toNat)
  case atStart => exact ⟨0, _, Nat.zero_le _, rfl, rfl, by omega, by omega, Gr.refl _, fun j hj => by omega⟩
  case round =>
    obtain ⟨k, v, hk, rfl, rfl, hv0, hv1, gr, hq⟩ := hrel
    by_cases hkl : k < ts.length
    · obtain ⟨g, o, rfl, hg, hx, hb⟩ := ha k hkl
      obtain ⟨hs, hbn⟩ := hF.2 k hkl
      have HN : Hid (¬ szT v (ts.getD k Tb.nil).s.size (ts.getD k Tb.nil).bs.length < 0 → ∀ j, j < k + 1 → (ts.getD j Tb.nil).s.size ≤ maxLen ∧ (ts.getD j Tb.nil).bs.length ≤ 1048576) := fun h j hj => by
        by_cases e : j = k
        · subst e; exact ⟨hs, (szT_le hv1 h).2.1⟩
        · exact hq.out j (by omega)
      generalize ts.getD k Tb.nil = t at *
      obtain ⟨c0, c1⟩ := two_gr hx gr hg
      clear hx hq
      by_cases hz : szT v t.s.size t.bs.length < 0
      · clear HN
        go_wp2_with (go_at_call 17; refine (szTube_any _ _ _ _ _ _ hs (by omega) (by omega) hbn).mono ?_; rintro e w1 ⟨rfl, g1⟩)
        go_ret
        exact ⟨⟨-1, rfl, fun h => by exfalso; omega⟩, gr.trans g1⟩
      · have HR : Hid (∀ j, j < k + 1 → (ts.getD j Tb.nil).s.size ≤ maxLen ∧ (ts.getD j Tb.nil).bs.length ≤ 1048576) := HN.out hz
        obtain ⟨-, -, z0, z1⟩ := szT_le hv1 hz
        clear HN
        go_wp2_with (go_at_call 17; refine (szTube_any _ _ _ _ _ _ hs (by omega) (by omega) hbn).mono ?_; rintro e w1 ⟨rfl, g1⟩)
        go_roundw
        case rel => exact ⟨k + 1, _, by omega, by go_num, rfl, z0, z1, gr.trans g1, HR⟩
        case measure => simp [intOf]; omega
    · go_wp2
      go_ret
      exact ⟨⟨v, rfl, fun _ => ⟨hn, fun j hj => hq.out j (by omega)⟩⟩, gr⟩

/-- Two cells are there, and may be written. -/
def Room2 (w : World) (g o : Nat) : Prop :=
  ((∃ v, w.cell? ⟨g, o, none⟩ = some v) ∧ w.frozen? ⟨g, o, none⟩ = false) ∧ ((∃ v, w.cell? ⟨g, o + 1, none⟩ = some v) ∧ w.frozen? ⟨g, o + 1, none⟩ = false)
theorem room2_gr {w wr : World} {g o : Nat} (h : Room2 w g o) (gr : Gr w wr) (hg : g < w.heap.size) : Room2 wr g o := by
  obtain ⟨hc, hf⟩ := gr.cells
  unfold Room2 at *
  simp only [hc g _ hg, hf g _ hg]
  exact h
def put2 (w : World) (g o : Nat) (t : Tb) : World := (w.setCell ⟨g, o, none⟩ (.string t.s)).setCell ⟨g, o + 1, none⟩ (.slice t.a t.bs.length t.cap)
theorem put2_size (w : World) (g o : Nat) (t : Tb) : (put2 w g o t).heap.size = w.heap.size := by simp [put2]
theorem put2_out (w : World) (g o : Nat) (t : Tb) (h q : Nat) (hq : h ≠ g ∨ q < o ∨ o + 1 < q) : (put2 w g o t).cell? ⟨h, q, none⟩ = w.cell? ⟨h, q, none⟩ := by
  unfold put2
  refine (cell_off _ _ _ _ _ _ (by omega)).trans ?_
  refine (cell_off _ _ _ _ _ _ (by omega)).trans ?_
  rfl
theorem put2_room {w : World} {g o : Nat} (t : Tb) {h q : Nat} (r : Room2 w h q) : Room2 (put2 w g o t) h q := by
  obtain ⟨⟨⟨v0, h0⟩, f0⟩, ⟨⟨v1, h1⟩, f1⟩⟩ := r
  have k : ∀ p : Addr, ∀ v : Value, w.cell? p = some v → ∃ v', (put2 w g o t).cell? p = some v' := fun p v hp => by
    obtain ⟨v, hp⟩ := cell?_setCell_some (p := ⟨g, o, none⟩) (x := .string t.s) hp
    exact cell?_setCell_some (p := ⟨g, o + 1, none⟩) (x := .slice t.a t.bs.length t.cap) hp
  exact ⟨⟨k _ _ h0, by simpa [put2] using f0⟩, ⟨k _ _ h1, by simpa [put2] using f1⟩⟩
theorem put2_two {w : World} {g o : Nat} (t : Tb) (r : Room2 w g o) : Two (put2 w g o t) g o t := by
  obtain ⟨⟨⟨v0, h0⟩, f0⟩, ⟨⟨v1, h1⟩, f1⟩⟩ := r
  refine ⟨?_, ?_⟩ <;> unfold put2
  · refine (cell_off _ _ _ _ _ _ (by omega)).trans ?_
    exact World.cell?_setCell_same _ _ _ h0
  · refine World.cell?_setCell_same _ _ _ (u := v1) ?_
    refine (cell_off _ _ _ _ _ _ (by omega)).trans ?_
    exact h1
theorem put2_gr {a w : World} (h : Gr a w) {g o : Nat} (hg : a.heap.size ≤ g) (t : Tb) : Gr a (put2 w g o t) :=
  (h.setCell (p := ⟨g, o, none⟩) hg _).setCell (p := ⟨g, o + 1, none⟩) hg _
theorem boxes_put2 {w : World} {g o : Nat} {t : Tb} {a : Option Addr} {bs : List Bx} (h : Boxes w a bs) (hne : ∀ q r sp, a = some ⟨q, r, sp⟩ → g < q) : Boxes (put2 w g o t) a bs := fun k hk => by
  obtain ⟨q, r, e, hq, hx⟩ := h k hk
  have hgq := hne _ _ _ e
  refine ⟨q, r, e, by rw [put2_size]; exact hq, ?_⟩
  have c : ∀ x, (put2 w g o t).cell? ⟨q, x, none⟩ = w.cell? ⟨q, x, none⟩ := fun x => put2_out _ _ _ _ _ _ (Or.inl (by omega))
  unfold Six at *
  simp only [c]
  exact hx

theorem room2_made {w : World} {base g n cap : Nat} {e : TypeId} {xs : List Value} (h : w.ownsRow base e 2 (.slice (some ⟨g, 0, none⟩) n cap) n xs) : g < w.heap.size ∧ ∀ k, k < n → Room2 w g (k * 2) := by
  have hlen := h.1
  have cell : ∀ q, q < n * 2 → (∃ v, w.cell? ⟨g, q, none⟩ = some v) ∧ w.frozen? ⟨g, q, none⟩ = false := fun q hq =>
    ⟨⟨_, (h.cellAt q hq).trans (List.getElem?_eq_getElem (by omega))⟩, h.frozenAt q⟩
  refine ⟨?_, fun k hk => ⟨cell _ (by omega), cell _ (by omega)⟩⟩
  rcases h.2 with ⟨h', _⟩ | ⟨g', cap', cur, h', _, hg, _⟩
  · simp at h'
  · simp only [Value.slice.injEq, Option.some.injEq, Addr.mk.injEq, and_true, true_and] at h'
    obtain ⟨rfl, _⟩ := h'
    rcases Nat.lt_or_ge g w.heap.size with hlt | hge
    · exact hlt
    · rw [Array.getElem?_eq_none hge] at hg; simp at hg

theorem Tryz.info40 : (Tryz.prog.info? 40).map (fun i => (i.zero, i.size, i.bytes)) = some (some (.agg #[.string ⟨#[]⟩, .slice none 0 0]), 2, 40) := by kernel_rfl

/-- Copies of the first tubes lie in block g. -/
def Copied (wr : World) (g : Nat) (ts us : List Tb) : Prop :=
  ∀ j, j < us.length → Two wr g (j * 2) (us.getD j Tb.nil) ∧ Boxes wr (us.getD j Tb.nil).a (us.getD j Tb.nil).bs ∧ (us.getD j Tb.nil).s = (ts.getD j Tb.nil).s ∧ (us.getD j Tb.nil).bs = (ts.getD j Tb.nil).bs ∧ ∀ q r sp, (us.getD j Tb.nil).a = some ⟨q, r, sp⟩ → g < q

theorem copied_next {w wr w2 : World} {ts us : List Tb} {g n : Nat} {u : Tb} (gr : Gr w wr) (hg : w.heap.size ≤ g) (hl : g < wr.heap.size) (g2 : Gr wr w2) (hr : ∀ j, j < n → Room2 wr g (j * 2)) (hk : us.length < n) (hc : Copied wr g ts us)
    (hu : Boxes w2 u.a u.bs) (hs : u.s = (ts.getD us.length Tb.nil).s) (hb : u.bs = (ts.getD us.length Tb.nil).bs) (ho : ∀ q r sp, u.a = some ⟨q, r, sp⟩ → g < q) :
    Gr w (put2 w2 g (us.length * 2) u) ∧ g < (put2 w2 g (us.length * 2) u).heap.size ∧ (∀ j, j < n → Room2 (put2 w2 g (us.length * 2) u) g (j * 2)) ∧ Copied (put2 w2 g (us.length * 2) u) g ts (us ++ [u]) := by
  refine ⟨put2_gr (gr.trans g2) hg u, by rw [put2_size]; have := g2.size; omega, fun j hj => put2_room u (room2_gr (hr j hj) g2 hl), fun j hj => ?_⟩
  rw [List.length_append] at hj
  simp only [List.length_cons, List.length_nil] at hj
  by_cases e : j = us.length
  · subst e
    have e1 : (us ++ [u]).getD us.length Tb.nil = u := by simp [List.getD]
    rw [e1]
    exact ⟨put2_two u (room2_gr (hr _ hk) g2 hl), boxes_put2 hu ho, hs, hb, ho⟩
  · have e1 : (us ++ [u]).getD j Tb.nil = us.getD j Tb.nil := by simp [List.getD, List.getElem?_append_left (show j < us.length by omega)]
    rw [e1]
    obtain ⟨h1, h2, h3, h4, h5⟩ := hc j (by omega)
    have h1' := two_gr h1 g2 hl
    exact ⟨⟨(put2_out _ _ _ _ _ _ (by omega)).trans h1'.1, (put2_out _ _ _ _ _ _ (by omega)).trans h1'.2⟩, boxes_put2 (boxes_gr h2 g2) h5, h3, h4, h5⟩

set_option maxHeartbeats 2000000 in
theorem toTubeS_any (a : Option Addr) (cap : Nat) (ts : List Tb) (w : World) (ha : Tubes w a ts) (hS : Small ts) :
    Calls Tryz.prog 10 #[.slice a ts.length cap] w fun e w' => (∃ g us, e = .returned (.slice (some ⟨g, 0, none⟩) (List.length (α := Tb) us) us.length) ∧ Like us ts ∧ Tubes w' (some ⟨g, 0, none⟩) us ∧ w.heap.size ≤ g) ∧ Gr w w' := by
  obtain ⟨i0, hi, hz0, hz1, hz2⟩ := info_parts Tryz.info40
  have hn := hS.1
  go_enter Tryz.func10, Tryz.ntmps10
  go_wp2_with (first
    | (at_make; refine wpList_make_full _ rfl _ _ 26 rfl w.heap.size 40 i0 _ 2 Tryz.underlying26 hi hz0 hz1 .i64 .i64 _ _ ts.length rfl rfl rfl rfl (by rw [hz2]; omega) (by unfold maxLen; omega) (Nat.le_refl _) ?_; intro w1 hown hgrow))
  have g0 : Gr w w1 := Below.grown (Below.refl _ _) hgrow (Nat.le_refl _) (fun k hk => by cases hk)
  obtain ⟨hlt, hroom⟩ := room2_made hown
  clear hown hgrow hi hz0 hz1 hz2
  go_loopw [4] (fun i wr => ∃ us : List Tb, us.length ≤ ts.length ∧ i = .int .i64 us.length ∧ Gr w wr ∧ w.heap.size < wr.heap.size ∧ (∀ j, j < ts.length → Room2 wr w.heap.size (j * 2)) ∧ Hid (Copied wr w.heap.size ts us)) (fun i _ => ts.length - (intOf i).toNat)
  case atStart => exact ⟨[], Nat.zero_le _, rfl, g0, hlt, hroom, fun j hj => by simp at hj⟩
  case round =>
    obtain ⟨us, hk, rfl, gr, hl, hr, hq⟩ := hrel
    by_cases hkl : us.length < ts.length
    · obtain ⟨g, o, rfl, hg, hx, hb⟩ := ha us.length hkl
      obtain ⟨hs, hbn⟩ := hS.2 us.length hkl
      have hrk := hr us.length hkl
      obtain ⟨t, ht⟩ : ∃ t, t = ts.getD us.length Tb.nil := ⟨_, rfl⟩
      rw [← ht] at hx hb hs hbn
      have HT : Hid (t = ts.getD us.length Tb.nil) := ht
      have HR : Hid (∀ j, j < ts.length → Room2 wr w.heap.size (j * 2)) := hr
      obtain ⟨c0, c1⟩ := two_gr hx gr hg
      obtain ⟨⟨⟨u0, r0⟩, f0⟩, ⟨⟨u1, r1⟩, f1⟩⟩ := hrk
      clear ht hr hx
      go_wp2_with (first
        | (go_at_call 19; refine (toTube_any _ _ _ t.bs _ (boxes_gr hb gr) hbn).mono ?_; rintro e w2 ⟨⟨gq, rfl, hO⟩, g2⟩; obtain ⟨hc, hf⟩ := g2.cells))
      have R := copied_next (u := ⟨t.s, some ⟨gq, 0, none⟩, t.bs.length, t.bs⟩) gr (Nat.le_refl _) hl g2 HR.out hkl hq.out hO.2.2.2 (by rw [← HT.out]) (by rw [← HT.out]) (fun q r sp e => by simp at e; have := hO.1; omega)
      go_roundw
      case rel => exact ⟨us ++ [(⟨t.s, some ⟨gq, 0, none⟩, t.bs.length, t.bs⟩ : Tb)], by rw [List.length_append]; simp only [List.length_cons, List.length_nil]; omega, congrArg (Value.int .i64) (by rw [List.length_append]; simp), R.1, R.2.1, R.2.2.1, R.2.2.2⟩
      case measure => simp [intOf]; omega
    · have e : us.length = ts.length := by omega
      go_wp2
      go_ret
      refine ⟨⟨w.heap.size, us, by rw [e]; rfl, ⟨e, fun k hk => ?_⟩, fun k hk => ?_, Nat.le_refl _⟩, gr⟩
      · obtain ⟨-, -, h3, h4, -⟩ := hq.out k (by omega)
        exact ⟨h3, h4⟩
      · obtain ⟨h1, h2, -, -, -⟩ := hq.out k hk
        exact ⟨_, _, rfl, hl, by rw [Nat.zero_add]; exact h1, h2⟩

end Go.Proofs.YtpdcgjkfilohcabGreat

namespace Go.Proofs.YtpdcgjkfilohcabGreat
open Go.RowKit
attribute [local go_sem ↓] Go.wp_at_zero Go.wp_at_succ

theorem keep22 {w w' : World} {g o g' o' : Nat} {t u : Tb} (h : Two w g o t ∧ Two w g' o' u) (hg : g < w.heap.size) (hg' : g' < w.heap.size) (gr : Gr w w') : Gr w w' ∧ Two w' g o t ∧ Two w' g' o' u :=
  ⟨gr, two_gr h.1 gr hg, two_gr h.2 gr hg'⟩

set_option maxHeartbeats 2000000 in
theorem eqTubeS_same (a a' : Option Addr) (cap cap' : Nat) (us vs : List Tb) (w : World) (ha : Tubes w a us) (ha' : Tubes w a' vs) (hL : Like us vs) (hS : Small us) :
    Calls Tryz.prog 13 #[.slice a us.length cap, .slice a' vs.length cap'] w fun e w' => e = .returned (.bool true) ∧ Gr w w' := by
  have hn := hS.1
  have hl := hL.1
  rw [← hl]
  have HL : Hid (us.length = vs.length) := hl
  clear hl
  go_enter Tryz.func13, Tryz.ntmps13
  go_wp2
  go_loopw [5] (fun i wr => ∃ k : Nat, k ≤ us.length ∧ i = .int .i64 k ∧ Gr w wr) (fun i _ => us.length - (intOf i).toNat)
  case atStart => exact ⟨0, Nat.zero_le _, rfl, Gr.refl _⟩
  case round =>
    obtain ⟨k, hk, rfl, gr⟩ := hrel
    by_cases hkl : k < us.length
    · obtain ⟨g, o, rfl, hg, hx, hb⟩ := ha k hkl
      obtain ⟨g', o', rfl, hg', hx', hb'⟩ := ha' k (by rw [← HL.out]; exact hkl)
      obtain ⟨hs, hbn⟩ := hS.2 k hkl
      have hlk := hL.2 k (by rw [← HL.out]; exact hkl)
      have e1 : (us.getD k Tb.nil).s = (vs.getD k Tb.nil).s := hlk.1
      have e2 : (us.getD k Tb.nil).bs = (vs.getD k Tb.nil).bs := hlk.2
      generalize us.getD k Tb.nil = t at *
      generalize vs.getD k Tb.nil = u at *
      obtain ⟨us', ua, uc, ub⟩ := u
      obtain ⟨s, ta, tc, tb⟩ := t
      simp only at e1 e2
      subst e1 e2
      have hi0 : (0 : Int) ≤ (k : Int) := by omega
      have hi1 : (k : Int) < (us.length : Int) := by omega
      have hgr := gr.size
      have HG : Hid (Gr w wr) := gr
      have HY : Hid (Two wr g (o + k * 2) ⟨s, ta, tc, tb⟩ ∧ Two wr g' (o' + k * 2) ⟨s, ua, uc, tb⟩) := ⟨two_gr hx gr hg, two_gr hx' gr hg'⟩
      clear gr hx hx' ha ha' hlk
      go_wp2_with fail
      go_region_held3 (fun w' => Gr wr w' ∧ (w'.cell? ⟨g, o + k * 2, none⟩ = some (.string s) ∧ w'.cell? ⟨g, o + k * 2 + 1, none⟩ = some (.slice ta tb.length tc)) ∧ (w'.cell? ⟨g', o' + k * 2, none⟩ = some (.string s) ∧ w'.cell? ⟨g', o' + k * 2 + 1, none⟩ = some (.slice ua tb.length uc)))
        (first
          | exact keep22 HY.out (Nat.lt_of_lt_of_le hg hgr) (Nat.lt_of_lt_of_le hg' hgr) (Gr.refl _).drew
          | exact keep22 HY.out (Nat.lt_of_lt_of_le hg hgr) (Nat.lt_of_lt_of_le hg' hgr) ((Gr.refl _).drew.trans g1))
        (first
          | (go_at_call 21; refine (eqTube_same s ta ua tc uc tb _ (boxes_gr hb (HG.out.trans (Gr.refl _).drew)) (boxes_gr hb' (HG.out.trans (Gr.refl _).drew)) hbn).mono ?_; rintro e w1 ⟨rfl, g1⟩))
      go_wp2
      go_roundw
      case rel => exact ⟨k + 1, by omega, by go_num, HG.out.trans (And.left (by assumption))⟩
      case measure => simp [intOf]; omega
    · go_wp2
      go_ret
      exact ⟨rfl, gr⟩

end Go.Proofs.YtpdcgjkfilohcabGreat

namespace Go.Proofs.YtpdcgjkfilohcabGreat
open Go.RowKit
attribute [local go_sem ↓] Go.wp_at_zero Go.wp_at_succ

theorem take_slot {P : Program} {md : Region.Mode} {ops : Array Oper} {Q : Exit → Act → World → Prop} {i d : Nat} {oi : Oper} {v : Value} {fuel : Nat} {listed : Array Bool} {a : Act} {w : World} (hi : ops[i]? = some oi) (hd : oi.dst = some d)
    (hs : Region.noSelect ops = true) (hf : Region.free md ops listed i = true) (hr : (Region.ready md ops listed).contains i = true)
    (hQ : ∀ c a w, Q (.panic c) (a.put oi.dst v) w → Q (.panic c) a w) (hy : Yields P ops oi v a)
    (h : wpAny P md ops Q fuel (listed.setIfInBounds i true) (a.put (some d) v) w) : wpAny P md ops Q (fuel + 1) listed a w :=
  wpAny_take hi hs hf hr hQ hy (by rw [hd]; exact h)

set_option maxRecDepth 100000 in
set_option maxHeartbeats 1000000 in
theorem specSkyOk_any (a : Option Addr) (cap : Nat) (ts : List Tb) (w : World) (ha : Tubes w a ts) (hS : Small ts) :
    Calls Tryz.prog 34 #[.slice a ts.length cap] w fun e w' => e = .returned (.bool (skyB ts)) ∧ Gr w w' := by
  have hn := hS.1
  by_cases hc : 24 < ts.length
  · have HV : Hid (skyB ts = false) := by
      show skyB ts = false
      have : decide (ts.length ≤ 24) = false := by simp; omega
      simp [skyB, this]
    go_enter Tryz.func34, Tryz.ntmps34
    go_wp2
    go_ret
    exact ⟨by rw [HV.out]; rfl, Gr.refl _⟩
  have HV : Hid (skyB ts = (okTo ts ts.length && ascTo ts ts.length)) := by
    show skyB ts = _
    have : decide (ts.length ≤ 24) = true := by simp; omega
    simp [skyB, this]
  go_enter Tryz.func34, Tryz.ntmps34
  go_wp2
  go_loopw [3] (fun i wr => ∃ k : Nat, k ≤ ts.length ∧ i = .int .i64 k ∧ Gr w wr ∧ Hid (okTo ts k = true ∧ ascTo ts k = true)) (fun i _ => ts.length - (intOf i).toNat)
  case atStart => exact ⟨0, Nat.zero_le _, rfl, Gr.refl _, by show okTo ts 0 = true ∧ ascTo ts 0 = true; exact ⟨rfl, rfl⟩⟩
  case round =>
    obtain ⟨k, hk, rfl, gr, hq⟩ := hrel
    by_cases hkl : k < ts.length
    · obtain ⟨g, o, rfl, hg, hx, hb⟩ := ha k hkl
      obtain ⟨hs, hbn⟩ := hS.2 k hkl
      have hi0 : (0 : Int) ≤ (k : Int) := by omega
      have hi1 : (k : Int) < (ts.length : Int) := by omega
      have HN : Hid (tubeB (ts.getD k Tb.nil).s (ts.getD k Tb.nil).bs = true → lessAt ts k = true → okTo ts (k + 1) = true ∧ ascTo ts (k + 1) = true) := fun h1 h2 => by
        have h := hq.out
        unfold okTo ascTo at *
        rw [range_snoc, range_snoc, h.1, h.2, h2]
        exact ⟨h1, rfl⟩
      have HF : Hid (tubeB (ts.getD k Tb.nil).s (ts.getD k Tb.nil).bs = false → skyB ts = false) := fun h => by
        rw [HV.out, okTo, range_stop (tubeAt ts) _ k hkl h]; rfl
      have HA : Hid (lessAt ts k = false → skyB ts = false) := fun h => by
        rw [HV.out, ascTo, range_stop (lessAt ts) _ k hkl h]; simp
      clear hq
      cases hok : tubeB (ts.getD k Tb.nil).s (ts.getD k Tb.nil).bs
      · have HR : Hid (skyB ts = false) := HF.out hok
        generalize ts.getD k Tb.nil = t at *
        obtain ⟨c0, c1⟩ := two_gr hx gr hg
        clear HF HN HA hx ha
        go_wp2_with fail
        refine wp_region_any (by kernel_rfl) ?_
        try (change wpAny _ _ _ _ _ _ _ (World.drew _))
        refine take_slot (i := 0) (d := 13) (v := Value.slice (some ⟨g, o, none⟩) ts.length cap) rfl rfl (by kernel_rfl) (by kernel_rfl) (by kernel_rfl) (fun _ _ _ h => h) (Or.inl ⟨by rfl, by intro w; go_simp⟩) ?_
        simp only [Act.put, List.setIfInBounds_toArray, List.set_cons_zero, List.set_cons_succ]
        refine take_slot (i := 1) (d := 14) (v := Value.int .i64 (k : Nat)) rfl rfl (by kernel_rfl) (by kernel_rfl) (by kernel_rfl) (fun _ _ _ h => h) (Or.inl ⟨by rfl, by intro w; go_simp⟩) ?_
        simp only [Act.put, List.setIfInBounds_toArray, List.set_cons_zero, List.set_cons_succ]
        refine take_slot (i := 2) (d := 15) (v := Value.pointer (some ⟨g, o + k * 2, none⟩)) rfl rfl (by kernel_rfl) (by kernel_rfl) (by kernel_rfl) (fun _ _ _ h => h) (Or.inl ⟨by rfl, by intro w; go_simp⟩) ?_
        simp only [Act.put, List.setIfInBounds_toArray, List.set_cons_zero, List.set_cons_succ]
        refine wpAny_ready (rs := [3]) (by kernel_rfl) (by simp) ?_
        refine AllReady.cons rfl (fun K hK => ?_) AllReady.nil
        go_simp
        refine hK _ _ ?_
        clear hK K
        refine wpAny_ready (rs := [4]) (by kernel_rfl) (by simp) ?_
        refine AllReady.cons rfl (fun K hK => ?_) AllReady.nil
        go_simp
        refine (specTubeOk_any _ _ _ t.bs _ hs (boxes_gr hb gr.drew) hbn).mono ?_
        rintro e w1 ⟨rfl, g1⟩
        rw [hok]
        refine hK _ _ ?_
        clear hK K
        refine take_slot (i := 5) (d := 18) (v := Value.bool true) rfl rfl (by kernel_rfl) (by kernel_rfl) (by kernel_rfl) (fun _ _ _ h => h) (Or.inl ⟨by rfl, by intro w; go_simp⟩) ?_
        simp only [Act.put, List.setIfInBounds_toArray, List.set_cons_zero, List.set_cons_succ]
        refine take_slot (i := 6) (d := 19) (v := Value.bool true) rfl rfl (by kernel_rfl) (by kernel_rfl) (by kernel_rfl) (fun _ _ _ h => h) (Or.inl ⟨by rfl, by intro w; go_simp⟩) ?_
        simp only [Act.put, List.setIfInBounds_toArray, List.set_cons_zero, List.set_cons_succ]
        refine take_slot (i := 7) (d := 20) (v := undef) rfl rfl (by kernel_rfl) (by kernel_rfl) (by kernel_rfl) (fun _ _ _ h => h) (Or.inr ⟨by rfl, rfl⟩) ?_
        simp only [Act.put, List.setIfInBounds_toArray, List.set_cons_zero, List.set_cons_succ]
        refine take_slot (i := 8) (d := 21) (v := undef) rfl rfl (by kernel_rfl) (by kernel_rfl) (by kernel_rfl) (fun _ _ _ h => h) (Or.inr ⟨by rfl, rfl⟩) ?_
        simp only [Act.put, List.setIfInBounds_toArray, List.set_cons_zero, List.set_cons_succ]
        refine take_slot (i := 9) (d := 22) (v := undef) rfl rfl (by kernel_rfl) (by kernel_rfl) (by kernel_rfl) (fun _ _ _ h => h) (Or.inr ⟨by rfl, rfl⟩) ?_
        simp only [Act.put, List.setIfInBounds_toArray, List.set_cons_zero, List.set_cons_succ]
        refine take_slot (i := 10) (d := 23) (v := undef) rfl rfl (by kernel_rfl) (by kernel_rfl) (by kernel_rfl) (fun _ _ _ h => h) (Or.inr ⟨by rfl, rfl⟩) ?_
        simp only [Act.put, List.setIfInBounds_toArray, List.set_cons_zero, List.set_cons_succ]
        refine take_slot (i := 11) (d := 24) (v := undef) rfl rfl (by kernel_rfl) (by kernel_rfl) (by kernel_rfl) (fun _ _ _ h => h) (Or.inr ⟨by rfl, rfl⟩) ?_
        simp only [Act.put, List.setIfInBounds_toArray, List.set_cons_zero, List.set_cons_succ]
        refine take_slot (i := 12) (d := 25) (v := undef) rfl rfl (by kernel_rfl) (by kernel_rfl) (by kernel_rfl) (fun _ _ _ h => h) (Or.inr ⟨by rfl, rfl⟩) ?_
        simp only [Act.put, List.setIfInBounds_toArray, List.set_cons_zero, List.set_cons_succ]
        refine take_slot (i := 13) (d := 26) (v := undef) rfl rfl (by kernel_rfl) (by kernel_rfl) (by kernel_rfl) (fun _ _ _ h => h) (Or.inr ⟨by rfl, rfl⟩) ?_
        simp only [Act.put, List.setIfInBounds_toArray, List.set_cons_zero, List.set_cons_succ]
        refine take_slot (i := 14) (d := 27) (v := undef) rfl rfl (by kernel_rfl) (by kernel_rfl) (by kernel_rfl) (fun _ _ _ h => h) (Or.inr ⟨by rfl, rfl⟩) ?_
        simp only [Act.put, List.setIfInBounds_toArray, List.set_cons_zero, List.set_cons_succ]
        refine take_slot (i := 15) (d := 28) (v := undef) rfl rfl (by kernel_rfl) (by kernel_rfl) (by kernel_rfl) (fun _ _ _ h => h) (Or.inr ⟨by rfl, rfl⟩) ?_
        simp only [Act.put, List.setIfInBounds_toArray, List.set_cons_zero, List.set_cons_succ]
        refine take_slot (i := 16) (d := 29) (v := undef) rfl rfl (by kernel_rfl) (by kernel_rfl) (by kernel_rfl) (fun _ _ _ h => h) (Or.inr ⟨by rfl, rfl⟩) ?_
        simp only [Act.put, List.setIfInBounds_toArray, List.set_cons_zero, List.set_cons_succ]
        refine take_slot (i := 17) (d := 30) (v := undef) rfl rfl (by kernel_rfl) (by kernel_rfl) (by kernel_rfl) (fun _ _ _ h => h) (Or.inr ⟨by rfl, rfl⟩) ?_
        simp only [Act.put, List.setIfInBounds_toArray, List.set_cons_zero, List.set_cons_succ]
        refine take_slot (i := 18) (d := 31) (v := undef) rfl rfl (by kernel_rfl) (by kernel_rfl) (by kernel_rfl) (fun _ _ _ h => h) (Or.inr ⟨by rfl, rfl⟩) ?_
        simp only [Act.put, List.setIfInBounds_toArray, List.set_cons_zero, List.set_cons_succ]
        refine take_slot (i := 19) (d := 32) (v := undef) rfl rfl (by kernel_rfl) (by kernel_rfl) (by kernel_rfl) (fun _ _ _ h => h) (Or.inr ⟨by rfl, rfl⟩) ?_
        simp only [Act.put, List.setIfInBounds_toArray, List.set_cons_zero, List.set_cons_succ]
        refine take_slot (i := 20) (d := 33) (v := undef) rfl rfl (by kernel_rfl) (by kernel_rfl) (by kernel_rfl) (fun _ _ _ h => h) (Or.inr ⟨by rfl, rfl⟩) ?_
        simp only [Act.put, List.setIfInBounds_toArray, List.set_cons_zero, List.set_cons_succ]
        refine take_slot (i := 21) (d := 34) (v := undef) rfl rfl (by kernel_rfl) (by kernel_rfl) (by kernel_rfl) (fun _ _ _ h => h) (Or.inr ⟨by rfl, rfl⟩) ?_
        simp only [Act.put, List.setIfInBounds_toArray, List.set_cons_zero, List.set_cons_succ]
        refine take_slot (i := 22) (d := 35) (v := undef) rfl rfl (by kernel_rfl) (by kernel_rfl) (by kernel_rfl) (fun _ _ _ h => h) (Or.inr ⟨by rfl, rfl⟩) ?_
        simp only [Act.put, List.setIfInBounds_toArray, List.set_cons_zero, List.set_cons_succ]
        refine take_slot (i := 23) (d := 36) (v := Value.bool true) rfl rfl (by kernel_rfl) (by kernel_rfl) (by kernel_rfl) (fun _ _ _ h => h) (Or.inl ⟨by rfl, by intro w; go_simp⟩) ?_
        simp only [Act.put, List.setIfInBounds_toArray, List.set_cons_zero, List.set_cons_succ]
        refine wpAny_done (by kernel_rfl) ?_ _
        all_goals
          go_wp2
          go_ret
          exact ⟨by rw [HR.out]; rfl, gr.drew.trans g1⟩
      · cases k with
        | zero =>
          have HR : Hid (okTo ts (0 + 1) = true ∧ ascTo ts (0 + 1) = true) := HN.out hok rfl
          generalize ts.getD 0 Tb.nil = t at *
          obtain ⟨c0, c1⟩ := two_gr hx gr hg
          clear HF HN HA hx ha
          go_wp2_with fail
          simp only [Nat.zero_mul, Nat.add_zero] at c0 c1
          refine wp_region_any (by kernel_rfl) ?_
          try (change wpAny _ _ _ _ _ _ _ (World.drew _))
          refine take_slot (i := 0) (d := 13) (v := Value.slice (some ⟨g, o, none⟩) ts.length cap) rfl rfl (by kernel_rfl) (by kernel_rfl) (by kernel_rfl) (fun _ _ _ h => h) (Or.inl ⟨by rfl, by intro w; go_simp⟩) ?_
          simp only [Act.put, List.setIfInBounds_toArray, List.set_cons_zero, List.set_cons_succ]
          refine take_slot (i := 1) (d := 14) (v := Value.int .i64 0) rfl rfl (by kernel_rfl) (by kernel_rfl) (by kernel_rfl) (fun _ _ _ h => h) (Or.inl ⟨by rfl, by intro w; go_simp⟩) ?_
          simp only [Act.put, List.setIfInBounds_toArray, List.set_cons_zero, List.set_cons_succ]
          refine take_slot (i := 2) (d := 15) (v := Value.pointer (some ⟨g, o, none⟩)) rfl rfl (by kernel_rfl) (by kernel_rfl) (by kernel_rfl) (fun _ _ _ h => h) (Or.inl ⟨by rfl, by intro w; go_simp⟩) ?_
          simp only [Act.put, List.setIfInBounds_toArray, List.set_cons_zero, List.set_cons_succ]
          refine wpAny_ready (rs := [3]) (by kernel_rfl) (by simp) ?_
          refine AllReady.cons rfl (fun K hK => ?_) AllReady.nil
          go_simp
          refine hK _ _ ?_
          clear hK K
          refine wpAny_ready (rs := [4]) (by kernel_rfl) (by simp) ?_
          refine AllReady.cons rfl (fun K hK => ?_) AllReady.nil
          go_simp
          refine (specTubeOk_any _ _ _ t.bs _ hs (boxes_gr hb gr.drew) hbn).mono ?_
          rintro e w1 ⟨rfl, g1⟩
          rw [hok]
          refine hK _ _ ?_
          clear hK K
          refine take_slot (i := 5) (d := 18) (v := Value.bool false) rfl rfl (by kernel_rfl) (by kernel_rfl) (by kernel_rfl) (fun _ _ _ h => h) (Or.inl ⟨by rfl, by intro w; go_simp⟩) ?_
          simp only [Act.put, List.setIfInBounds_toArray, List.set_cons_zero, List.set_cons_succ]
          refine take_slot (i := 6) (d := 19) (v := Value.bool false) rfl rfl (by kernel_rfl) (by kernel_rfl) (by kernel_rfl) (fun _ _ _ h => h) (Or.inl ⟨by rfl, by intro w; go_simp⟩) ?_
          simp only [Act.put, List.setIfInBounds_toArray, List.set_cons_zero, List.set_cons_succ]
          refine take_slot (i := 7) (d := 20) (v := Value.int .i64 0) rfl rfl (by kernel_rfl) (by kernel_rfl) (by kernel_rfl) (fun _ _ _ h => h) (Or.inl ⟨by rfl, by intro w; go_simp⟩) ?_
          simp only [Act.put, List.setIfInBounds_toArray, List.set_cons_zero, List.set_cons_succ]
          refine take_slot (i := 8) (d := 21) (v := Value.bool false) rfl rfl (by kernel_rfl) (by kernel_rfl) (by kernel_rfl) (fun _ _ _ h => h) (Or.inl ⟨by rfl, by intro w; go_simp⟩) ?_
          simp only [Act.put, List.setIfInBounds_toArray, List.set_cons_zero, List.set_cons_succ]
          refine take_slot (i := 9) (d := 22) (v := Value.bool false) rfl rfl (by kernel_rfl) (by kernel_rfl) (by kernel_rfl) (fun _ _ _ h => h) (Or.inl ⟨by rfl, by intro w; go_simp⟩) ?_
          simp only [Act.put, List.setIfInBounds_toArray, List.set_cons_zero, List.set_cons_succ]
          refine take_slot (i := 10) (d := 23) (v := undef) rfl rfl (by kernel_rfl) (by kernel_rfl) (by kernel_rfl) (fun _ _ _ h => h) (Or.inr ⟨by rfl, rfl⟩) ?_
          simp only [Act.put, List.setIfInBounds_toArray, List.set_cons_zero, List.set_cons_succ]
          refine take_slot (i := 11) (d := 24) (v := undef) rfl rfl (by kernel_rfl) (by kernel_rfl) (by kernel_rfl) (fun _ _ _ h => h) (Or.inr ⟨by rfl, rfl⟩) ?_
          simp only [Act.put, List.setIfInBounds_toArray, List.set_cons_zero, List.set_cons_succ]
          refine take_slot (i := 12) (d := 25) (v := undef) rfl rfl (by kernel_rfl) (by kernel_rfl) (by kernel_rfl) (fun _ _ _ h => h) (Or.inr ⟨by rfl, rfl⟩) ?_
          simp only [Act.put, List.setIfInBounds_toArray, List.set_cons_zero, List.set_cons_succ]
          refine take_slot (i := 13) (d := 26) (v := undef) rfl rfl (by kernel_rfl) (by kernel_rfl) (by kernel_rfl) (fun _ _ _ h => h) (Or.inr ⟨by rfl, rfl⟩) ?_
          simp only [Act.put, List.setIfInBounds_toArray, List.set_cons_zero, List.set_cons_succ]
          refine take_slot (i := 14) (d := 27) (v := undef) rfl rfl (by kernel_rfl) (by kernel_rfl) (by kernel_rfl) (fun _ _ _ h => h) (Or.inr ⟨by rfl, rfl⟩) ?_
          simp only [Act.put, List.setIfInBounds_toArray, List.set_cons_zero, List.set_cons_succ]
          refine take_slot (i := 15) (d := 28) (v := undef) rfl rfl (by kernel_rfl) (by kernel_rfl) (by kernel_rfl) (fun _ _ _ h => h) (Or.inr ⟨by rfl, rfl⟩) ?_
          simp only [Act.put, List.setIfInBounds_toArray, List.set_cons_zero, List.set_cons_succ]
          refine take_slot (i := 16) (d := 29) (v := undef) rfl rfl (by kernel_rfl) (by kernel_rfl) (by kernel_rfl) (fun _ _ _ h => h) (Or.inr ⟨by rfl, rfl⟩) ?_
          simp only [Act.put, List.setIfInBounds_toArray, List.set_cons_zero, List.set_cons_succ]
          refine take_slot (i := 17) (d := 30) (v := undef) rfl rfl (by kernel_rfl) (by kernel_rfl) (by kernel_rfl) (fun _ _ _ h => h) (Or.inr ⟨by rfl, rfl⟩) ?_
          simp only [Act.put, List.setIfInBounds_toArray, List.set_cons_zero, List.set_cons_succ]
          refine take_slot (i := 18) (d := 31) (v := undef) rfl rfl (by kernel_rfl) (by kernel_rfl) (by kernel_rfl) (fun _ _ _ h => h) (Or.inr ⟨by rfl, rfl⟩) ?_
          simp only [Act.put, List.setIfInBounds_toArray, List.set_cons_zero, List.set_cons_succ]
          refine take_slot (i := 19) (d := 32) (v := undef) rfl rfl (by kernel_rfl) (by kernel_rfl) (by kernel_rfl) (fun _ _ _ h => h) (Or.inr ⟨by rfl, rfl⟩) ?_
          simp only [Act.put, List.setIfInBounds_toArray, List.set_cons_zero, List.set_cons_succ]
          refine take_slot (i := 20) (d := 33) (v := undef) rfl rfl (by kernel_rfl) (by kernel_rfl) (by kernel_rfl) (fun _ _ _ h => h) (Or.inr ⟨by rfl, rfl⟩) ?_
          simp only [Act.put, List.setIfInBounds_toArray, List.set_cons_zero, List.set_cons_succ]
          refine take_slot (i := 21) (d := 34) (v := undef) rfl rfl (by kernel_rfl) (by kernel_rfl) (by kernel_rfl) (fun _ _ _ h => h) (Or.inr ⟨by rfl, rfl⟩) ?_
          simp only [Act.put, List.setIfInBounds_toArray, List.set_cons_zero, List.set_cons_succ]
          refine take_slot (i := 22) (d := 35) (v := Value.bool false) rfl rfl (by kernel_rfl) (by kernel_rfl) (by kernel_rfl) (fun _ _ _ h => h) (Or.inl ⟨by rfl, by intro w; go_simp⟩) ?_
          simp only [Act.put, List.setIfInBounds_toArray, List.set_cons_zero, List.set_cons_succ]
          refine take_slot (i := 23) (d := 36) (v := Value.bool false) rfl rfl (by kernel_rfl) (by kernel_rfl) (by kernel_rfl) (fun _ _ _ h => h) (Or.inl ⟨by rfl, by intro w; go_simp⟩) ?_
          simp only [Act.put, List.setIfInBounds_toArray, List.set_cons_zero, List.set_cons_succ]
          refine wpAny_done (by kernel_rfl) ?_ _
          all_goals
            go_wp2
            go_roundw
            case rel => exact ⟨0 + 1, by omega, by go_num, gr.drew.trans g1, HR⟩
            case measure => simp [intOf]; omega
        | succ j =>
          obtain ⟨g', o', e', hg', hy, -⟩ := ha j (by omega)
          simp only [Option.some.injEq, Addr.mk.injEq, and_true] at e'
          obtain ⟨rfl, rfl⟩ := e'
          have HE : Hid (lessAt ts (j + 1) = Op.bytesLess (ts.getD j Tb.nil).s.toList (ts.getD (j + 1) Tb.nil).s.toList) := by show lessAt ts (j + 1) = _; simp [lessAt, nm]
          generalize ts.getD (j + 1) Tb.nil = t at *
          generalize ts.getD j Tb.nil = u at *
          have i2 : (j : Int) < (ts.length : Int) := by omega
          have i3 : (0 : Int) ≤ (j : Int) := by omega
          have i4 : (0 : Int) < (j : Int) + 1 := by omega
          have i5 : (j : Int) + 1 < (ts.length : Int) := by omega
          have i6 : (0 : Int) ≤ (j : Int) + 1 := by omega
          have hw0 : IntKind.i64.wrap (j : Int) = (j : Int) := IntWalk.i64_in _ (by omega)
          have hgr := gr.size
          have HY : Hid (Two wr g (o + (j + 1) * 2) t ∧ Two wr g (o + j * 2) u) := ⟨two_gr hx gr hg, two_gr hy gr hg⟩
          cases hls : Op.bytesLess u.s.toList t.s.toList
          · have HR : Hid (skyB ts = false) := HA.out (HE.out.trans hls)
            clear HF HN HA HE hx hy ha
            go_wp2_with fail
            go_region_held3 (fun w' => Gr wr w' ∧ (w'.cell? ⟨g, o + (j + 1) * 2, none⟩ = some (.string t.s) ∧ w'.cell? ⟨g, o + (j + 1) * 2 + 1, none⟩ = some (.slice t.a t.bs.length t.cap)) ∧ (w'.cell? ⟨g, o + j * 2, none⟩ = some (.string u.s) ∧ w'.cell? ⟨g, o + j * 2 + 1, none⟩ = some (.slice u.a u.bs.length u.cap)))
              (first
                | exact keep22 HY.out (Nat.lt_of_lt_of_le hg hgr) (Nat.lt_of_lt_of_le hg hgr) (Gr.refl _).drew
                | exact keep22 HY.out (Nat.lt_of_lt_of_le hg hgr) (Nat.lt_of_lt_of_le hg hgr) ((Gr.refl _).drew.trans g1))
              (first
                | (go_at_call 42; refine (specTubeOk_any _ _ _ t.bs _ hs (boxes_gr hb gr.drew) hbn).mono ?_; rintro e w1 ⟨rfl, g1⟩))
            go_wp2
            go_ret
            exact ⟨by rw [HR.out]; rfl, gr.trans (And.left (by assumption))⟩
          · have HR : Hid (okTo ts (j + 1 + 1) = true ∧ ascTo ts (j + 1 + 1) = true) := HN.out hok (HE.out.trans hls)
            clear HF HN HA HE hx hy ha
            go_wp2_with fail
            go_region_held3 (fun w' => Gr wr w' ∧ (w'.cell? ⟨g, o + (j + 1) * 2, none⟩ = some (.string t.s) ∧ w'.cell? ⟨g, o + (j + 1) * 2 + 1, none⟩ = some (.slice t.a t.bs.length t.cap)) ∧ (w'.cell? ⟨g, o + j * 2, none⟩ = some (.string u.s) ∧ w'.cell? ⟨g, o + j * 2 + 1, none⟩ = some (.slice u.a u.bs.length u.cap)))
              (first
                | exact keep22 HY.out (Nat.lt_of_lt_of_le hg hgr) (Nat.lt_of_lt_of_le hg hgr) (Gr.refl _).drew
                | exact keep22 HY.out (Nat.lt_of_lt_of_le hg hgr) (Nat.lt_of_lt_of_le hg hgr) ((Gr.refl _).drew.trans g1))
              (first
                | (go_at_call 42; refine (specTubeOk_any _ _ _ t.bs _ hs (boxes_gr hb gr.drew) hbn).mono ?_; rintro e w1 ⟨rfl, g1⟩))
            go_wp2
            go_roundw
            case rel => exact ⟨j + 1 + 1, by omega, by go_num, gr.trans (And.left (by assumption)), HR⟩
            case measure => simp [intOf]; omega
    · have e : k = ts.length := by omega
      subst e
      go_wp2
      go_ret
      exact ⟨by rw [HV.out, hq.out.1, hq.out.2]; rfl, gr⟩

end Go.Proofs.YtpdcgjkfilohcabGreat
