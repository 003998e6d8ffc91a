import Derived.Test.YtpdcgjkfilohcabGreatDoorSmallD
namespace Go.Proofs.YtpdcgjkfilohcabGreatDoor
open Go.RowKit
attribute [local go_sem ↓] Go.wp_at_zero Go.wp_at_succ

/-- A tube in memory. -/
structure Tb where
  s : ByteArray
  a : Option Addr
  cap : Nat
  bs : List Bx
def Tb.nil : Tb := ⟨⟨#[]⟩, none, 0, []⟩
def Two (w : World) (g o : Nat) (t : Tb) : Prop := w.cell? ⟨g, o, none⟩ = some (.string t.s) ∧ w.cell? ⟨g, o + 1, none⟩ = some (.slice t.a t.bs.length t.cap)
def Tubes (w : World) (a : Option Addr) (ts : List Tb) : Prop :=
  ∀ k, k < ts.length → ∃ g o, a = some ⟨g, o, none⟩ ∧ g < w.heap.size ∧ Two w g (o + k * 2) (ts.getD k Tb.nil) ∧ Boxes w (ts.getD k Tb.nil).a (ts.getD k Tb.nil).bs
/-- Names and boxes are of a size that the laws look at. -/
def Small (ts : List Tb) : Prop := ts.length ≤ 1048576 ∧ ∀ k, k < ts.length → (ts.getD k Tb.nil).s.size ≤ maxLen ∧ (ts.getD k Tb.nil).bs.length ≤ 1048576

theorem two_gr {w w' : World} {g o : Nat} {t : Tb} (h : Two w g o t) (gr : Gr w w') (hg : g < w.heap.size) : Two w' g o t := ⟨(gr.cells.1 _ _ hg).trans h.1, (gr.cells.1 _ _ hg).trans h.2⟩
theorem tubes_gr {w w' : World} {a : Option Addr} {ts : List Tb} (h : Tubes w a ts) (gr : Gr w w') : Tubes w' a ts := fun k hk => by
  obtain ⟨g, o, e, hg, hx, hb⟩ := h k hk
  exact ⟨g, o, e, Nat.lt_of_lt_of_le hg gr.size, two_gr hx gr hg, boxes_gr hb gr⟩

def nm (ts : List Tb) (k : Nat) : ByteArray := (ts.getD k Tb.nil).s
def bx (ts : List Tb) (k : Nat) : List Bx := (ts.getD k Tb.nil).bs
def tubeAt (ts : List Tb) (k : Nat) : Bool := tubeB (nm ts k) (bx ts k)
def lessAt (ts : List Tb) (k : Nat) : Bool := k == 0 || Op.bytesLess (nm ts (k - 1)).toList (nm ts k).toList
def okTo (ts : List Tb) (k : Nat) : Bool := (List.range k).all (tubeAt ts)
def ascTo (ts : List Tb) (k : Nat) : Bool := (List.range k).all (lessAt ts)
/-- Tubes that are ok together. -/
def skyB (ts : List Tb) : Bool := decide (ts.length ≤ 24) && okTo ts ts.length && ascTo ts ts.length
/-- The same names and boxes. -/
def Like (us ts : List Tb) : Prop := us.length = ts.length ∧ ∀ k, k < ts.length → nm us k = nm ts k ∧ bx us k = bx ts k

theorem range_snoc (p : Nat → Bool) (k : Nat) : (List.range (k + 1)).all p = ((List.range k).all p && p k) := by simp [List.range_succ]
theorem range_stop (p : Nat → Bool) (n k : Nat) (hk : k < n) (hp : p k = false) : (List.range n).all p = false := by
  rw [List.all_eq_false]; exact ⟨k, by simpa using hk, by simp [hp]⟩
theorem range_same (p q : Nat → Bool) (n : Nat) (h : ∀ k, k < n → p k = q k) : (List.range n).all p = (List.range n).all q := by
  induction n with
  | zero => rfl
  | succ n ih => rw [range_snoc, range_snoc, ih (fun k hk => h k (by omega)), h n (by omega)]
theorem sky_like {us ts : List Tb} (h : Like us ts) : skyB us = skyB ts := by
  obtain ⟨hl, hk⟩ := h
  unfold skyB okTo ascTo
  rw [hl, range_same (tubeAt us) (tubeAt ts) _ (fun k q => by simp only [tubeAt, (hk k q).1, (hk k q).2]),
    range_same (lessAt us) (lessAt ts) _ (fun k q => by
      simp only [lessAt]
      by_cases e : k = 0
      · simp [e]
      · rw [(hk k q).1, (hk (k - 1) (by omega)).1])]

set_option maxHeartbeats 400000 in
theorem tubeCount_any (a : Option Addr) (cap : Nat) (ts : List Tb) (w : World) (hn : ts.length ≤ 1048576) :
    Calls Tryz.prog 97 #[.slice a ts.length cap] w fun e w' => e = .returned (.bool (decide (ts.length ≤ 24))) ∧ Gr w w' := by
  by_cases h : (ts.length : Int) ≤ 24
  all_goals
    go_enter Tryz.func97, Tryz.ntmps97
    go_wp2
    go_ret
    refine ⟨?_, Gr.refl _⟩
    first
      | (have hb : decide (ts.length ≤ 24) = true := by simp; omega
         rw [hb]; simp [*])
      | (have hb : decide (ts.length ≤ 24) = false := by simp; omega
         rw [hb]; simp [*])

set_option maxHeartbeats 1000000 in
theorem tubesOk_any (a : Option Addr) (cap : Nat) (ts : List Tb) (w : World) (ha : Tubes w a ts) (hS : Small ts) :
    Calls Tryz.prog 98 #[.slice a ts.length cap] w fun e w' => e = .returned (.bool (okTo ts ts.length)) ∧ Gr w w' := by
  have hn := hS.1
  go_enter Tryz.func98, Tryz.ntmps98
  go_wp2
  go_loopw [7] (fun i wr => ∃ k : Nat, k ≤ ts.length ∧ i = .int .i64 k ∧ Gr w wr ∧ Hid (okTo ts k = true)) (fun i _ => ts.length - (intOf i).toNat)
  case atStart => exact ⟨0, Nat.zero_le _, rfl, Gr.refl _, by show okTo ts 0 = true; rfl⟩
  case round =>
    obtain ⟨k, hk, rfl, gr, hq⟩ := hrel
    by_cases hkl : k < ts.length
    · obtain ⟨g, o, rfl, hg, hx, hb⟩ := ha k hkl
      obtain ⟨hs, hbn⟩ := hS.2 k hkl
      have HN : Hid (tubeB (ts.getD k Tb.nil).s (ts.getD k Tb.nil).bs = true → okTo ts (k + 1) = true) := fun h => by rw [okTo, range_snoc]; have := hq.out; rw [okTo] at this; rw [this]; exact h
      have HF : Hid (tubeB (ts.getD k Tb.nil).s (ts.getD k Tb.nil).bs = false → okTo ts ts.length = false) := fun h => range_stop _ _ k hkl h
      generalize ts.getD k Tb.nil = t at *
      obtain ⟨c0, c1⟩ := two_gr hx gr hg
      clear hx hq
      cases hok : tubeB t.s t.bs
      · have HR : Hid (okTo ts ts.length = false) := HF.out hok
        clear HF HN
        go_wp2_with (go_at_call 135; refine (implTubeOk_any _ _ _ t.bs _ hs (boxes_gr hb (gr.alloc _)) hbn).mono ?_; rintro e w1 ⟨rfl, g1⟩)
        go_ret
        exact ⟨by rw [HR.out]; rfl, (gr.alloc _).trans g1⟩
      · have HR : Hid (okTo ts (k + 1) = true) := HN.out hok
        clear HF HN
        go_wp2_with (go_at_call 135; refine (implTubeOk_any _ _ _ t.bs _ hs (boxes_gr hb (gr.alloc _)) hbn).mono ?_; rintro e w1 ⟨rfl, g1⟩)
        go_roundw
        case rel => exact ⟨k + 1, by omega, by go_num, (gr.alloc _).trans g1, HR⟩
        case measure => simp [intOf]; omega
    · have e : k = ts.length := by omega
      subst e
      go_wp2
      go_ret
      exact ⟨by rw [hq.out]; rfl, gr⟩

set_option maxHeartbeats 1000000 in
theorem namesAscend_any (a : Option Addr) (cap : Nat) (ts : List Tb) (w : World) (ha : Tubes w a ts) (hn : ts.length ≤ 1048576) :
    Calls Tryz.prog 99 #[.slice a ts.length cap] w fun e w' => e = .returned (.bool (ascTo ts ts.length)) ∧ Gr w w' := by
  go_enter Tryz.func99, Tryz.ntmps99
  go_wp2
  go_loopw [3] (fun i wr => ∃ k : Nat, 1 ≤ k ∧ (k ≤ ts.length ∨ k = 1) ∧ i = .int .i64 k ∧ Gr w wr ∧ Hid (ascTo ts k = true)) (fun i _ => ts.length - (intOf i).toNat)
  case atStart => exact ⟨1, by omega, Or.inr rfl, rfl, Gr.refl _, by show ascTo ts 1 = true; rfl⟩
  case round =>
    obtain ⟨k, hk, hk2, rfl, gr, hq⟩ := hrel
    by_cases hkl : k < ts.length
    · obtain ⟨g, o, rfl, hg, hx, -⟩ := ha k hkl
      obtain ⟨g', o', e', hg', hy, -⟩ := ha (k - 1) (by omega)
      simp only [Option.some.injEq, Addr.mk.injEq, and_true] at e'
      obtain ⟨rfl, rfl⟩ := e'
      obtain ⟨j, rfl⟩ : ∃ j, k = j + 1 := ⟨k - 1, by omega⟩
      simp only [Nat.add_sub_cancel] at hy
      have HE : Hid (lessAt ts (j + 1) = Op.bytesLess (ts.getD j Tb.nil).s.toList (ts.getD (j + 1) Tb.nil).s.toList) := by show lessAt ts (j + 1) = _; simp [lessAt, nm]
      have HN : Hid (lessAt ts (j + 1) = true → ascTo ts (j + 1 + 1) = true) := fun h => by rw [ascTo, range_snoc]; have := hq.out; rw [ascTo] at this; rw [this]; exact h
      have HF : Hid (lessAt ts (j + 1) = false → ascTo ts ts.length = false) := fun h => range_stop _ _ (j + 1) hkl h
      generalize ts.getD (j + 1) Tb.nil = t at *
      generalize ts.getD j Tb.nil = u at *
      have c1 := (gr.cells.1 _ _ hg).trans hx.1
      have c2 := (gr.cells.1 _ _ hg).trans hy.1
      have i0 : (0 : Int) ≤ (j : Int) + 1 := by omega
      have i1 : (j : Int) + 1 < (ts.length : Int) := by omega
      have i2 : (j : Int) < (ts.length : Int) := by omega
      have i3 : (0 : Int) ≤ (j : Int) := by omega
      clear hx hy ha hq
      cases hok : Op.bytesLess u.s.toList t.s.toList
      · have HR : Hid (ascTo ts ts.length = false) := HF.out (HE.out.trans hok)
        clear HF HN HE
        go_wp2_with fail
        go_quiet (fail)
        go_wp2
        go_ret
        exact ⟨by rw [HR.out]; rfl, gr.drewN _⟩
      · have HR : Hid (ascTo ts (j + 1 + 1) = true) := HN.out (HE.out.trans hok)
        clear HF HN HE
        go_wp2_with fail
        go_quiet (fail)
        go_wp2
        go_roundw
        case rel => exact ⟨j + 1 + 1, by omega, Or.inl (by omega), by go_num, gr.drewN _, HR⟩
        case measure => simp [intOf]; omega
    · have e : ascTo ts ts.length = true := by
        rcases hk2 with h | h
        · have e : k = ts.length := by omega
          rw [← e]; exact hq.out
        · rcases (by omega : ts.length = 0 ∨ ts.length = 1) with q | q
          · rw [q]; rfl
          · rw [q]; rfl
      have HR : Hid (ascTo ts ts.length = true) := e
      clear e
      go_wp2
      go_ret
      exact ⟨by rw [HR.out]; rfl, gr⟩

/-- What the first k checks of tubes say. -/
def preS (ts : List Tb) : Nat → Bool
  | 0 => true
  | 1 => decide (ts.length ≤ 24)
  | 2 => decide (ts.length ≤ 24) && okTo ts ts.length
  | _ => decide (ts.length ≤ 24) && okTo ts ts.length && ascTo ts ts.length

set_option maxHeartbeats 2000000 in
theorem passesS_any (a : Option Addr) (cap : Nat) (ts : List Tb) (f : Nat) (w : World) (ha : Tubes w a ts) (hS : Small ts) (hf : f < w.heap.size)
    (f0 : w.cell? ⟨f, 0, none⟩ = some (.func (Fn.func 97) #[] #[])) (f1 : w.cell? ⟨f, 1, none⟩ = some (.func (Fn.func 98) #[] #[])) (f2 : w.cell? ⟨f, 2, none⟩ = some (.func (Fn.func 99) #[] #[])) :
    Calls Tryz.prog 96 #[.slice a ts.length cap, .slice (some ⟨f, 0, none⟩) 3 3] w fun e w' => e = .returned (.bool (skyB ts)) ∧ Gr w w' := by
  have HV : Hid (skyB ts = (decide (ts.length ≤ 24) && okTo ts ts.length && ascTo ts ts.length)) := rfl
  have hn := hS.1
  go_enter Tryz.func96, Tryz.ntmps96
  go_wp2
  go_loopw [9] (fun i wr => ∃ k : Nat, k ≤ 3 ∧ i = .int .i64 k ∧ Gr w wr ∧ Hid (preS ts k = true)) (fun i _ => 3 - (intOf i).toNat)
  case atStart => exact ⟨0, Nat.zero_le _, rfl, Gr.refl _, by show preS ts 0 = true; rfl⟩
  case round =>
    obtain ⟨k, hk, rfl, gr, hb⟩ := hrel
    have e0 := (gr.cells.1 f 0 hf).trans f0
    have e1 := (gr.cells.1 f 1 hf).trans f1
    have e2 := (gr.cells.1 f 2 hf).trans f2
    clear f0 f1 f2
    rcases (by omega : k = 0 ∨ k = 1 ∨ k = 2 ∨ k = 3) with rfl | rfl | rfl | rfl
    · cases hok : decide (ts.length ≤ 24)
      · have HR : Hid (skyB ts = false) := by show skyB ts = false; rw [HV.out, hok]; simp
        go_wp2_with (go_at_call 97; refine (tubeCount_any _ _ ts _ hn).mono ?_; rintro e w1 ⟨rfl, g1⟩)
        go_ret
        exact ⟨by rw [HR.out]; rfl, gr.trans g1⟩
      · have HR : Hid (preS ts 1 = true) := by
          have hb' := hb.out
          show preS ts 1 = true
          simp only [preS] at hb' ⊢
          rw [hok]
          try simp only [hb', Bool.and_self]
        go_wp2_with (go_at_call 97; refine (tubeCount_any _ _ ts _ hn).mono ?_; rintro e w1 ⟨rfl, g1⟩)
        go_roundw
        case rel => exact ⟨1, by omega, by go_num, gr.trans g1, HR⟩
        case measure => simp [intOf]
    · cases hok : okTo ts ts.length
      · have HR : Hid (skyB ts = false) := by show skyB ts = false; rw [HV.out, hok]; simp
        go_wp2_with (go_at_call 98; refine (tubesOk_any _ _ ts _ (tubes_gr ha gr) hS).mono ?_; rintro e w1 ⟨rfl, g1⟩)
        go_ret
        exact ⟨by rw [HR.out]; rfl, gr.trans g1⟩
      · have HR : Hid (preS ts 2 = true) := by
          have hb' := hb.out
          show preS ts 2 = true
          simp only [preS] at hb' ⊢
          rw [hok]
          try simp only [hb', Bool.and_self]
        go_wp2_with (go_at_call 98; refine (tubesOk_any _ _ ts _ (tubes_gr ha gr) hS).mono ?_; rintro e w1 ⟨rfl, g1⟩)
        go_roundw
        case rel => exact ⟨2, by omega, by go_num, gr.trans g1, HR⟩
        case measure => simp [intOf]
    · cases hok : ascTo ts ts.length
      · have HR : Hid (skyB ts = false) := by show skyB ts = false; rw [HV.out, hok]; simp
        go_wp2_with (go_at_call 99; refine (namesAscend_any _ _ ts _ (tubes_gr ha gr) hn).mono ?_; rintro e w1 ⟨rfl, g1⟩)
        go_ret
        exact ⟨by rw [HR.out]; rfl, gr.trans g1⟩
      · have HR : Hid (preS ts 3 = true) := by
          have hb' := hb.out
          show preS ts 3 = true
          simp only [preS] at hb' ⊢
          rw [hok]
          try simp only [hb', Bool.and_self]
        go_wp2_with (go_at_call 99; refine (namesAscend_any _ _ ts _ (tubes_gr ha gr) hn).mono ?_; rintro e w1 ⟨rfl, g1⟩)
        go_roundw
        case rel => exact ⟨3, by omega, by go_num, gr.trans g1, HR⟩
        case measure => simp [intOf]
    · go_wp2
      go_ret
      refine ⟨?_, gr⟩
      have hb' : preS ts 3 = true := hb.out
      rw [HV.out]
      simp only [preS] at hb'
      rw [hb']
      rfl

set_option maxHeartbeats 400000 in
theorem implSkyOk_any (a : Option Addr) (cap : Nat) (ts : List Tb) (w : World) (ha : Tubes w a ts) (hS : Small ts) :
    Calls Tryz.prog 57 #[.slice a ts.length cap] w fun e w' => e = .returned (.bool (skyB ts)) ∧ Gr w w' := by
  go_enter Tryz.func57, Tryz.ntmps57
  go_wp2_with (first
    | (go_at_call 96; refine (passesS_any _ _ ts _ _ (tubes_gr ha ((Gr.refl _).alloc _)) hS (by simp) (by simp) (by simp) (by simp)).mono ?_; rintro e w2 ⟨rfl, g2⟩))
  go_ret
  exact ⟨rfl, ((Gr.refl _).alloc _).trans g2⟩

end Go.Proofs.YtpdcgjkfilohcabGreatDoor
