import Derived.Test.YtpdcgjkfilohcabGreatTube
namespace Go.Proofs.YtpdcgjkfilohcabGreat
open Go.RowKit
attribute [local go_sem ↓] Go.wp_at_zero Go.wp_at_succ

/-- How many boxes there may be. -/
def countB (bs : List Bx) : Bool := decide (bs.length ≤ 40)
theorem tubeB_eq (s : ByteArray) (bs : List Bx) : tubeB s bs = (nameB s && countB bs && boxesB bs) := rfl
theorem tubeB_impl (s : ByteArray) (bs : List Bx) : tubeB s bs = (sizeB s.size && countB bs && bytesB s.data.toList && boxesB bs) := by
  rw [tubeB_eq, nameB]
  cases sizeB s.size <;> cases countB bs <;> cases bytesB s.data.toList <;> cases boxesB bs <;> rfl

set_option maxHeartbeats 2000000 in
theorem specTubeOk_any (s : ByteArray) (a : Option Addr) (cap : Nat) (bs : List Bx) (w : World) (hs : s.size ≤ maxLen) (ha : Boxes w a bs) (hn : bs.length ≤ 1048576) :
    Calls Tryz.prog 42 #[.agg #[.string s, .slice a bs.length cap]] w fun e w' => e = .returned (.bool (tubeB s bs)) ∧ Gr w w' := by
  cases hN : nameB s
  · have HV : Hid (tubeB s bs = false) := by show tubeB s bs = false; simp [tubeB, hN]
    go_enter Tryz.func42, Tryz.ntmps42
    go_wp2_with (go_at_call 74; refine (specName_any _ _ hs).mono ?_; rintro e w' ⟨rfl, rfl⟩)
    go_ret
    exact ⟨by rw [HV.out]; rfl, (Gr.refl _).alloc _⟩
  · by_cases hc : 40 < bs.length
    · have HV : Hid (tubeB s bs = false) := by
        show tubeB s bs = false
        have : countB bs = false := by simp [countB]; omega
        simp [tubeB_eq, this]
      go_enter Tryz.func42, Tryz.ntmps42
      go_wp2_with (go_at_call 74; refine (specName_any _ _ hs).mono ?_; rintro e w' ⟨rfl, rfl⟩)
      go_ret
      exact ⟨by rw [HV.out]; rfl, (Gr.refl _).alloc _⟩
    · have HV : Hid (tubeB s bs = boxesB bs) := by
        show tubeB s bs = boxesB bs
        have : countB bs = true := by simp [countB]; omega
        simp [tubeB_eq, this, hN]
      go_enter Tryz.func42, Tryz.ntmps42
      go_wp2_with (go_at_call 74; refine (specName_any _ _ hs).mono ?_; rintro e w' ⟨rfl, rfl⟩)
      go_loopw [3] (fun i wr => ∃ k : Nat, k ≤ bs.length ∧ i = .int .i64 k ∧ Gr (w.alloc (.cells #[.string s, .slice a bs.length cap] 40)) wr ∧ Hid (boxesB (bs.take k) = true)) (fun i _ => bs.length - (intOf i).toNat)
      case atStart => exact ⟨0, Nat.zero_le _, rfl, Gr.refl _, by show boxesB _ = true; simp [boxesB]⟩
      case round =>
        obtain ⟨k, hk, rfl, gr, hb⟩ := hrel
        have hv1 : wr.cell? ⟨w.heap.size, 1, none⟩ = some (.slice a bs.length cap) := (gr.cells.1 _ _ (by simp)).trans (by simp)
        by_cases hkl : k < bs.length
        · obtain ⟨g, o, rfl, hg, hx⟩ := boxes_gr ha ((Gr.refl _).alloc (.cells #[.string s, .slice a bs.length cap] 40)) k hkl
          have HN : Hid ((bs.getD k Bx.nil).ok = true → boxesB (bs.take (k + 1)) = true) := fun h => by rw [boxesB_snoc bs k hkl, hb.out, h]; rfl
          have HF : Hid ((bs.getD k Bx.nil).ok = false → boxesB bs = false) := fun h => boxesB_stop bs k hkl h
          obtain ⟨c0, c1, c2, c3, c4, c5⟩ := six_gr hx gr hg
          clear hx hb
          generalize bs.getD k Bx.nil = b at *
          cases hok : b.ok
          · have HR : Hid (boxesB bs = false) := HF.out hok
            simp only [Bx.ok] at hok
            clear HF HN
            go_wp2_with (go_at_call 75; refine (specBoxOk_any _ _ _ _ _ _ _).mono ?_; rintro e w1 ⟨rfl, g1⟩)
            go_ret
            exact ⟨by rw [HV.out, HR.out]; rfl, ((Gr.refl _).alloc _).trans (gr.trans g1)⟩
          · have HR : Hid (boxesB (bs.take (k + 1)) = true) := HN.out hok
            simp only [Bx.ok] at hok
            clear HF HN
            go_wp2_with (go_at_call 75; refine (specBoxOk_any _ _ _ _ _ _ _).mono ?_; rintro e w1 ⟨rfl, g1⟩)
            go_roundw
            case rel => exact ⟨k + 1, by omega, by go_num, gr.trans g1, HR⟩
            case measure => simp [intOf]; omega
        · go_wp2
          go_ret
          exact ⟨by rw [HV.out, ← boxesB_all bs k hkl, hb.out]; rfl, ((Gr.refl _).alloc _).trans gr⟩

set_option maxHeartbeats 400000 in
theorem tubeOf_any (s : ByteArray) (v : Value) (w : World) (hv : ∃ a n c, v = .slice a n c) :
    Calls Tryz.prog 78 #[.agg #[.string s, v]] w fun e w' => e = .returned (.agg #[.string s, v]) ∧ Gr w w' := by
  obtain ⟨a, n, c, rfl⟩ := hv
  go_enter Tryz.func78, Tryz.ntmps78
  go_wp2
  exact bodyPost_ret (v := .agg #[.string s, .slice a n c]) (by simp [results, Tryz.results78, go_sem]) rfl ⟨rfl, ((Gr.refl _).alloc _).alloc _⟩

set_option maxHeartbeats 400000 in
theorem nameSize_any (s : ByteArray) (a : Option Addr) (n c : Nat) (w : World) (hs : s.size ≤ maxLen) :
    Calls Tryz.prog 79 #[.agg #[.string s, .slice a n c]] w fun e w' => e = .returned (.bool (sizeB s.size)) ∧ Gr w w' := by
  unfold maxLen at hs
  rcases (by omega : s.size < 1 ∨ (1 ≤ s.size ∧ s.size ≤ 8) ∨ 8 < s.size) with h | ⟨h1, h2⟩ | h
  · have HB : Hid (sizeB s.size = false) := by show sizeB s.size = false; simp [sizeB]; omega
    have h1 : decide ((1 : Int) ≤ (s.size : Int)) = false := by simp; omega
    go_enter Tryz.func79, Tryz.ntmps79
    go_wp2
    go_ret
    exact ⟨by rw [HB.out]; simp [*], (Gr.refl _).alloc _⟩
  · have HB : Hid (sizeB s.size = true) := by show sizeB s.size = true; simp [sizeB]; omega
    have h3 : (1 : Int) ≤ (s.size : Int) := by omega
    have h4 : (s.size : Int) ≤ 8 := by omega
    go_enter Tryz.func79, Tryz.ntmps79
    go_wp2
    go_ret
    exact ⟨by rw [HB.out]; simp [*], (Gr.refl _).alloc _⟩
  · have HB : Hid (sizeB s.size = false) := by show sizeB s.size = false; simp [sizeB]; omega
    have h3 : (1 : Int) ≤ (s.size : Int) := by omega
    have h4 : decide ((s.size : Int) ≤ 8) = false := by simp; omega
    go_enter Tryz.func79, Tryz.ntmps79
    go_wp2
    go_ret
    exact ⟨by rw [HB.out]; simp [*], (Gr.refl _).alloc _⟩

set_option maxHeartbeats 400000 in
theorem boxCount_any (s : ByteArray) (a : Option Addr) (bs : List Bx) (c : Nat) (w : World) (hn : bs.length ≤ 1048576) :
    Calls Tryz.prog 80 #[.agg #[.string s, .slice a bs.length c]] w fun e w' => e = .returned (.bool (countB bs)) ∧ Gr w w' := by
  by_cases h1 : (bs.length : Int) ≤ 40
  all_goals
    first
      | have hb : countB bs = true := by simp [countB]; omega
      | have hb : countB bs = false := by simp [countB]; omega
    have HB : Hid (countB bs = _) := hb
    clear hb
    go_enter Tryz.func80, Tryz.ntmps80
    go_wp2
    go_ret
    exact ⟨by rw [HB.out]; simp [*], (Gr.refl _).alloc _⟩

set_option maxHeartbeats 1000000 in
theorem nameBytes_any (s : ByteArray) (a : Option Addr) (n c : Nat) (w : World) (hs : s.size ≤ maxLen) :
    Calls Tryz.prog 81 #[.agg #[.string s, .slice a n c]] w fun e w' => e = .returned (.bool (bytesB s.data.toList)) ∧ Gr w w' := by
  unfold maxLen at hs
  go_enter Tryz.func81, Tryz.ntmps81
  go_wp2
  go_loop [3] (fun i => ∃ k : Nat, k ≤ s.size ∧ i = .int .i64 k ∧ Hid (bytesB (s.data.toList.take k) = true)) (fun i => s.size - (intOf i).toNat)
  case atStart => exact ⟨0, Nat.zero_le _, rfl, by show bytesB _ = true; simp [bytesB]⟩
  case round =>
    obtain ⟨k, hk, rfl, hb⟩ := hrel
    by_cases hlt : k < s.size
    · have HN : Hid (byteB (s[k].toNat : Int) = true → bytesB (s.data.toList.take (k + 1)) = true) := fun h => by rw [bytesB_snoc s k hlt, hb.out, h]; rfl
      have HF : Hid (byteB (s[k].toNat : Int) = false → bytesB s.data.toList = false) := fun h => bytesB_stop s k hlt h
      cases hok : byteB (s[k].toNat : Int)
      · have HR : Hid (bytesB s.data.toList = false) := HF.out hok
        clear HF HN
        go_wp2_with (go_at_call 132; refine (nameByte_any _ _).mono ?_; rintro e w' ⟨rfl, rfl⟩)
        go_ret
        exact ⟨by rw [HR.out]; rfl, (Gr.refl _).alloc _⟩
      · have HR : Hid (bytesB (s.data.toList.take (k + 1)) = true) := HN.out hok
        clear HF HN
        go_wp2_with (go_at_call 132; refine (nameByte_any _ _).mono ?_; rintro e w' ⟨rfl, rfl⟩)
        go_round
        case rel => exact ⟨k + 1, by omega, by go_num, HR⟩
        case measure => simp [intOf]; omega
    · go_wp2
      go_ret
      exact ⟨by rw [← bytesB_all s k hlt, hb.out]; rfl, (Gr.refl _).alloc _⟩

set_option maxHeartbeats 1000000 in
theorem allOk_any (a : Option Addr) (cap : Nat) (bs : List Bx) (w : World) (ha : Boxes w a bs) (hn : bs.length ≤ 1048576) :
    Calls Tryz.prog 133 #[.slice a bs.length cap] w fun e w' => e = .returned (.bool (boxesB bs)) ∧ Gr w w' := by
  go_enter Tryz.func133, Tryz.ntmps133
  go_wp2
  go_loopw [7] (fun i wr => ∃ k : Nat, k ≤ bs.length ∧ i = .int .i64 k ∧ Gr w wr ∧ Hid (boxesB (bs.take k) = true)) (fun i _ => bs.length - (intOf i).toNat)
  case atStart => exact ⟨0, Nat.zero_le _, rfl, Gr.refl _, by show boxesB _ = true; simp [boxesB]⟩
  case round =>
    obtain ⟨k, hk, rfl, gr, hb⟩ := hrel
    by_cases hkl : k < bs.length
    · obtain ⟨g, o, rfl, hg, hx⟩ := ha k hkl
      have HN : Hid ((bs.getD k Bx.nil).ok = true → boxesB (bs.take (k + 1)) = true) := fun h => by rw [boxesB_snoc bs k hkl, hb.out, h]; rfl
      have HF : Hid ((bs.getD k Bx.nil).ok = false → boxesB bs = false) := fun h => boxesB_stop bs k hkl h
      obtain ⟨c0, c1, c2, c3, c4, c5⟩ := six_gr hx gr hg
      clear hx hb
      generalize bs.getD k Bx.nil = b at *
      cases hok : b.ok
      · have HR : Hid (boxesB bs = false) := HF.out hok
        simp only [Bx.ok] at hok
        clear HF HN
        go_wp2_with (go_at_call 98; refine (implBoxOk_any _ _ _ _ _ _ _).mono ?_; rintro e w1 ⟨rfl, g1⟩)
        go_ret
        exact ⟨by rw [HR.out]; rfl, (gr.alloc _).trans g1⟩
      · have HR : Hid (boxesB (bs.take (k + 1)) = true) := HN.out hok
        simp only [Bx.ok] at hok
        clear HF HN
        go_wp2_with (go_at_call 98; refine (implBoxOk_any _ _ _ _ _ _ _).mono ?_; rintro e w1 ⟨rfl, g1⟩)
        go_roundw
        case rel => exact ⟨k + 1, by omega, by go_num, (gr.alloc _).trans g1, HR⟩
        case measure => simp [intOf]; omega
    · go_wp2
      go_ret
      exact ⟨by rw [← boxesB_all bs k hkl, hb.out]; rfl, gr⟩

set_option maxHeartbeats 400000 in
theorem boxesOk_any (s : ByteArray) (a : Option Addr) (cap : Nat) (bs : List Bx) (w : World) (ha : Boxes w a bs) (hn : bs.length ≤ 1048576) :
    Calls Tryz.prog 82 #[.agg #[.string s, .slice a bs.length cap]] w fun e w' => e = .returned (.bool (boxesB bs)) ∧ Gr w w' := by
  go_enter Tryz.func82, Tryz.ntmps82
  go_wp2_with (go_at_call 133; refine (allOk_any _ _ bs _ (boxes_gr ha ((Gr.refl _).alloc _)) hn).mono ?_; rintro e w1 ⟨rfl, g1⟩)
  go_ret
  exact ⟨rfl, ((Gr.refl _).alloc _).trans g1⟩

/-- What the first k checks say. -/
def preB (s : ByteArray) (bs : List Bx) : Nat → Bool
  | 0 => true
  | 1 => sizeB s.size
  | 2 => sizeB s.size && countB bs
  | 3 => sizeB s.size && countB bs && bytesB s.data.toList
  | _ => sizeB s.size && countB bs && bytesB s.data.toList && boxesB bs

set_option maxHeartbeats 2000000 in
theorem passes_any (s : ByteArray) (a : Option Addr) (cap : Nat) (bs : List Bx) (f : Nat) (w : World) (hs : s.size ≤ maxLen) (ha : Boxes w a bs) (hn : bs.length ≤ 1048576) (hf : f < w.heap.size)
    (f0 : w.cell? ⟨f, 0, none⟩ = some (.func (Fn.func 79) #[] #[])) (f1 : w.cell? ⟨f, 1, none⟩ = some (.func (Fn.func 80) #[] #[])) (f2 : w.cell? ⟨f, 2, none⟩ = some (.func (Fn.func 81) #[] #[])) (f3 : w.cell? ⟨f, 3, none⟩ = some (.func (Fn.func 82) #[] #[])) :
    Calls Tryz.prog 77 #[.agg #[.string s, .slice a bs.length cap], .slice (some ⟨f, 0, none⟩) 4 4] w fun e w' => e = .returned (.bool (tubeB s bs)) ∧ Gr w w' := by
  have HV : Hid (tubeB s bs = (sizeB s.size && countB bs && bytesB s.data.toList && boxesB bs)) := tubeB_impl s bs
  go_enter Tryz.func77, Tryz.ntmps77
  go_wp2
  go_loopw [9] (fun i wr => ∃ k : Nat, k ≤ 4 ∧ i = .int .i64 k ∧ Gr (w.alloc (.cells #[.string s, .slice a bs.length cap] 134)) wr ∧ Hid (preB s bs k = true)) (fun i _ => 4 - (intOf i).toNat)
  case atStart => exact ⟨0, Nat.zero_le _, rfl, Gr.refl _, by show preB s bs 0 = true; rfl⟩
  case round =>
    obtain ⟨k, hk, rfl, gr, hb⟩ := hrel
    have gw : Gr w wr := ((Gr.refl _).alloc _).trans gr
    have hv0 : wr.cell? ⟨w.heap.size, 0, none⟩ = some (.string s) := (gr.cells.1 _ _ (by simp)).trans (by simp)
    have hv1 : wr.cell? ⟨w.heap.size, 1, none⟩ = some (.slice a bs.length cap) := (gr.cells.1 _ _ (by simp)).trans (by simp)
    have e0 := (gw.cells.1 f 0 hf).trans f0
    have e1 := (gw.cells.1 f 1 hf).trans f1
    have e2 := (gw.cells.1 f 2 hf).trans f2
    have e3 := (gw.cells.1 f 3 hf).trans f3
    clear f0 f1 f2 f3
    rcases (by omega : k = 0 ∨ k = 1 ∨ k = 2 ∨ k = 3 ∨ k = 4) with rfl | rfl | rfl | rfl | rfl
    · cases hok : sizeB s.size
      · have HR : Hid (tubeB s bs = false) := by show tubeB s bs = false; rw [HV.out, hok]; simp
        go_wp2_with (go_at_call 79; refine (nameSize_any _ _ _ _ _ hs).mono ?_; rintro e w1 ⟨rfl, g1⟩)
        go_ret
        exact ⟨by rw [HR.out]; rfl, gw.trans g1⟩
      · have HR : Hid (preB s bs 1 = true) := by
          have hb' := hb.out
          show preB s bs 1 = true
          simp only [preB] at hb' ⊢
          rw [hok]
          try simp [hb']
        go_wp2_with (go_at_call 79; refine (nameSize_any _ _ _ _ _ hs).mono ?_; rintro e w1 ⟨rfl, g1⟩)
        go_roundw
        case rel => exact ⟨1, by omega, by go_num, gr.trans g1, HR⟩
        case measure => simp [intOf]
    · cases hok : countB bs
      · have HR : Hid (tubeB s bs = false) := by show tubeB s bs = false; rw [HV.out, hok]; simp
        go_wp2_with (go_at_call 80; refine (boxCount_any _ _ bs _ _ hn).mono ?_; rintro e w1 ⟨rfl, g1⟩)
        go_ret
        exact ⟨by rw [HR.out]; rfl, gw.trans g1⟩
      · have HR : Hid (preB s bs 2 = true) := by
          have hb' := hb.out
          show preB s bs 2 = true
          simp only [preB] at hb' ⊢
          rw [hok]
          try simp [hb']
        go_wp2_with (go_at_call 80; refine (boxCount_any _ _ bs _ _ hn).mono ?_; rintro e w1 ⟨rfl, g1⟩)
        go_roundw
        case rel => exact ⟨2, by omega, by go_num, gr.trans g1, HR⟩
        case measure => simp [intOf]
    · cases hok : bytesB s.data.toList
      · have HR : Hid (tubeB s bs = false) := by show tubeB s bs = false; rw [HV.out, hok]; simp
        go_wp2_with (go_at_call 81; refine (nameBytes_any _ _ _ _ _ hs).mono ?_; rintro e w1 ⟨rfl, g1⟩)
        go_ret
        exact ⟨by rw [HR.out]; rfl, gw.trans g1⟩
      · have HR : Hid (preB s bs 3 = true) := by
          have hb' := hb.out
          show preB s bs 3 = true
          simp only [preB] at hb' ⊢
          rw [hok]
          try simp [hb']
        go_wp2_with (go_at_call 81; refine (nameBytes_any _ _ _ _ _ hs).mono ?_; rintro e w1 ⟨rfl, g1⟩)
        go_roundw
        case rel => exact ⟨3, by omega, by go_num, gr.trans g1, HR⟩
        case measure => simp [intOf]
    · cases hok : boxesB bs
      · have HR : Hid (tubeB s bs = false) := by show tubeB s bs = false; rw [HV.out, hok]; simp
        go_wp2_with (go_at_call 82; refine (boxesOk_any _ _ _ bs _ (boxes_gr ha gw) hn).mono ?_; rintro e w1 ⟨rfl, g1⟩)
        go_ret
        exact ⟨by rw [HR.out]; rfl, gw.trans g1⟩
      · have HR : Hid (preB s bs 4 = true) := by
          have hb' := hb.out
          show preB s bs 4 = true
          simp only [preB] at hb' ⊢
          rw [hok]
          try simp [hb']
        go_wp2_with (go_at_call 82; refine (boxesOk_any _ _ _ bs _ (boxes_gr ha gw) hn).mono ?_; rintro e w1 ⟨rfl, g1⟩)
        go_roundw
        case rel => exact ⟨4, by omega, by go_num, gr.trans g1, HR⟩
        case measure => simp [intOf]
    · go_wp2
      go_ret
      refine ⟨?_, gw⟩
      have hb' : preB s bs 4 = true := hb.out
      rw [HV.out]
      simp only [preB] at hb'
      rw [hb']
      rfl

set_option maxHeartbeats 400000 in
theorem implTubeOk_any (s : ByteArray) (a : Option Addr) (cap : Nat) (bs : List Bx) (w : World) (hs : s.size ≤ maxLen) (ha : Boxes w a bs) (hn : bs.length ≤ 1048576) :
    Calls Tryz.prog 45 #[.agg #[.string s, .slice a bs.length cap]] w fun e w' => e = .returned (.bool (tubeB s bs)) ∧ Gr w w' := by
  go_enter Tryz.func45, Tryz.ntmps45
  go_wp2_with (first
    | (go_at_call 78; refine (tubeOf_any _ _ _ ⟨_, _, _, rfl⟩).mono ?_; rintro e w1 ⟨rfl, g1⟩)
    | (go_at_call 77; refine (passes_any _ _ _ bs _ _ hs (boxes_gr ha ((((Gr.refl _).alloc _).trans g1).alloc _)) hn (by simp) (by simp) (by simp) (by simp) (by simp)).mono ?_; rintro e w2 ⟨rfl, g2⟩))
  go_ret
  exact ⟨rfl, ((((Gr.refl _).alloc _).trans g1).alloc _).trans g2⟩
end Go.Proofs.YtpdcgjkfilohcabGreat
