import Derived.Test.YtpdcgjkfilohcabGreatName
namespace Go.Proofs.YtpdcgjkfilohcabGreat
open Go.RowKit
attribute [local go_sem ↓] Go.wp_at_zero Go.wp_at_succ

def boxesB (bs : List Bx) : Bool := bs.all Bx.ok
/-- A tube that is ok. -/
def tubeB (s : ByteArray) (bs : List Bx) : Bool := nameB s && decide (bs.length ≤ 40) && boxesB bs

theorem boxes_gr {w wr : World} {a : Option Addr} {bs : List Bx} (h : Boxes w a bs) (gr : Gr w wr) : Boxes wr a bs := fun k hk => by
  obtain ⟨g, o, e, hg, hx⟩ := h k hk
  exact ⟨g, o, e, Nat.lt_of_lt_of_le hg gr.size, six_gr hx gr hg⟩
theorem boxesB_snoc (bs : List Bx) (k : Nat) (h : k < bs.length) : boxesB (bs.take (k + 1)) = (boxesB (bs.take k) && (bs.getD k Bx.nil).ok) := by
  unfold boxesB
  rw [List.take_succ_eq_append_getElem h, List.all_append]
  simp [h]
theorem boxesB_stop (bs : List Bx) (k : Nat) (h : k < bs.length) (hb : (bs.getD k Bx.nil).ok = false) : boxesB bs = false := by
  unfold boxesB
  rw [List.all_eq_false]
  exact ⟨bs[k], List.getElem_mem h, by simpa [h] using hb⟩
theorem boxesB_all (bs : List Bx) (k : Nat) (h : ¬ k < bs.length) : boxesB (bs.take k) = boxesB bs := by
  rw [List.take_of_length_le (by omega)]

set_option maxHeartbeats 400000 in
theorem szBoxS_any (a : Option Addr) (n cap : Nat) (left : Int) (w : World) (h0 : 0 ≤ left) (h1 : left ≤ 1048576) (hn : n ≤ maxLen) :
    Calls Tryz.prog 41 #[.slice a n cap, .int .i64 left] w fun e w' => e = .returned (.int .i64 (if left < n then -1 else left - n)) ∧ w' = w := by
  unfold maxLen at hn
  by_cases h : left < n
  · rw [if_pos h]
    have h' : left - n < 0 := by omega
    go_enter Tryz.func41, Tryz.ntmps41
    go_wp2
    go_ret
    exact ⟨rfl, rfl⟩
  · rw [if_neg h]
    have h' : ¬ left - n < 0 := by omega
    go_enter Tryz.func41, Tryz.ntmps41
    go_wp2
    go_ret
    exact ⟨rfl, rfl⟩

/-- How much is left behind a tube. -/
def szT (left : Int) (m n : Nat) : Int := if left < m then -1 else if left - m < n then -1 else left - m - n

set_option maxHeartbeats 1000000 in
theorem szTube_any (s : ByteArray) (a : Option Addr) (n cap : Nat) (left : Int) (w : World) (hs : s.size ≤ maxLen) (h0 : 0 ≤ left) (h1 : left ≤ 1048576) (hn : n ≤ maxLen) :
    Calls Tryz.prog 17 #[.agg #[.string s, .slice a n cap], .int .i64 left] w fun e w' => e = .returned (.int .i64 (szT left s.size n)) ∧ Gr w w' := by
  have hs' : s.size ≤ 2 ^ 63 - 1 := hs
  by_cases h : left < s.size
  · have HV : Hid (szT left s.size n = -1) := by show szT left s.size n = -1; simp [szT, h]
    have h' : left - s.size < 0 := by omega
    go_enter Tryz.func17, Tryz.ntmps17
    go_wp2
    go_ret
    exact ⟨by rw [HV.out]; rfl, (Gr.refl _).alloc _⟩
  · have h' : ¬ left - s.size < 0 := by omega
    by_cases h2 : left - s.size < n
    · have HV : Hid (szT left s.size n = -1) := by show szT left s.size n = -1; simp [szT, h2]
      have HI : Hid ((if left - s.size < n then (-1 : Int) else left - s.size - n) = -1) := if_pos h2
      clear h2
      go_enter Tryz.func17, Tryz.ntmps17
      go_wp2_with (go_at_call 41; refine (szBoxS_any _ _ _ _ _ (by omega) (by omega) hn).mono ?_; rintro e w1 ⟨rfl, rfl⟩; rw [HI.out])
      go_ret
      exact ⟨by rw [HV.out]; rfl, (Gr.refl _).alloc _⟩
    · have HV : Hid (szT left s.size n = left - s.size - n) := by show szT left s.size n = left - s.size - n; simp only [szT, h, h2, if_false]
      have HI : Hid ((if left - s.size < n then (-1 : Int) else left - s.size - n) = left - s.size - n) := if_neg h2
      have h3 : ¬ left - s.size - n < 0 := by omega
      clear h2
      go_enter Tryz.func17, Tryz.ntmps17
      go_wp2_with (go_at_call 41; refine (szBoxS_any _ _ _ _ _ (by omega) (by omega) hn).mono ?_; rintro e w1 ⟨rfl, rfl⟩; rw [HI.out])
      go_ret
      exact ⟨by rw [HV.out]; rfl, (Gr.refl _).alloc _⟩

/-- A tube whose boxes lie in a block of their own, which may be written. -/
def Owned (w w' : World) (g : Nat) (bs : List Bx) : Prop := w.heap.size ≤ g ∧ g < w'.heap.size ∧ (∀ j, j < bs.length → Room w' g (j * 6)) ∧ Boxes w' (some ⟨g, 0, none⟩) bs

theorem six_set {w : World} {g o : Nat} {b : Bx} (h : Six w g o b) (p : Addr) (v : Value) (hp : p.block ≠ g) : Six (w.setCell p v) g o b := by
  unfold Six at *
  simp only [World.cell?_setCell_far w p ⟨g, _, none⟩ v hp]
  exact h
theorem room_set {w : World} {g o : Nat} (h : Room w g o) (p : Addr) (v : Value) (hp : p.block ≠ g) : Room (w.setCell p v) g o := by
  unfold Room at *
  simp only [World.cell?_setCell_far w p ⟨g, _, none⟩ v hp, World.frozen?_setCell]
  exact h
theorem owned_set {a w : World} {g : Nat} {bs : List Bx} (h : Owned a w g bs) (p : Addr) (v : Value) (hp : p.block ≠ g) : Owned a (w.setCell p v) g bs := by
  obtain ⟨h1, h2, h3, h4⟩ := h
  refine ⟨h1, by rw [World.size_setCell]; exact h2, fun j hj => room_set (h3 j hj) p v hp, fun k hk => ?_⟩
  obtain ⟨g', o, e, hg, hx⟩ := h4 k hk
  simp only [Option.some.injEq, Addr.mk.injEq, and_true] at e
  obtain ⟨rfl, rfl⟩ := e
  exact ⟨g, 0, rfl, by rw [World.size_setCell]; exact hg, six_set hx p v hp⟩
theorem owned_gr {a w w' : World} {g : Nat} {bs : List Bx} (h : Owned a w g bs) (gr : Gr w w') : Owned a w' g bs :=
  ⟨h.1, Nat.lt_of_lt_of_le h.2.1 gr.size, fun j hj => room_gr (h.2.2.1 j hj) gr h.2.1, boxes_gr h.2.2.2 gr⟩

set_option maxHeartbeats 1000000 in
theorem toTube_any (s : ByteArray) (a : Option Addr) (cap : Nat) (bs : List Bx) (w : World) (ha : Boxes w a bs) (hn : bs.length ≤ 1048576) :
    Calls Tryz.prog 19 #[.agg #[.string s, .slice a bs.length cap]] w fun e w' => (∃ g, e = .returned (.agg #[.string s, .slice (some ⟨g, 0, none⟩) bs.length bs.length]) ∧ Owned w w' g bs) ∧ Gr w w' := by
  go_enter Tryz.func19, Tryz.ntmps19
  go_wp2_with (go_at_call 44; refine (toBoxS_any _ _ bs _ (boxes_gr ha ((((Gr.refl _).alloc _).alloc _).alloc _)) hn).mono ?_; rintro e w1 ⟨rfl, g1, hl, hr, hb⟩; obtain ⟨hc, hf⟩ := g1.cells)
  have hO : Owned w w1 (w.heap.size + 1 + 1 + 1) bs := by simp at hl hr hb; exact ⟨by omega, hl, hr, hb⟩
  exact bodyPost_ret (v := .agg #[.string s, .slice (some ⟨w.heap.size + 1 + 1 + 1, 0, none⟩) bs.length bs.length]) (by simp [results, Tryz.results19, go_sem, hc]) rfl
    ⟨⟨_, rfl, owned_set (owned_set (owned_set hO _ _ (by simp)) _ _ (by simp)) _ _ (by simp)⟩, (((((((Gr.refl _).alloc _).alloc _).alloc _).trans g1).setCell (by dsimp only; omega) _).setCell (by dsimp only; omega) _).setCell (by dsimp only; omega) _⟩

set_option maxHeartbeats 400000 in
theorem eqBox_same (b : Bx) (w : World) : Calls Tryz.prog 83 #[.agg #[.int .i64 b.x, .int .i64 b.y, .int .i64 b.l, .int .i64 b.h, .int .i64 b.i, .int .i64 b.o], .agg #[.int .i64 b.x, .int .i64 b.y, .int .i64 b.l, .int .i64 b.h, .int .i64 b.i, .int .i64 b.o]] w fun e w' => e = .returned (.bool true) ∧ Gr w w' := by
  go_enter Tryz.func83, Tryz.ntmps83
  go_wp2
  go_ret
  exact ⟨rfl, ((Gr.refl _).alloc _).alloc _⟩

set_option maxHeartbeats 2000000 in
theorem eqBoxS_same (a a' : Option Addr) (cap cap' : Nat) (bs : List Bx) (w : World) (ha : Boxes w a bs) (ha' : Boxes w a' bs) (hn : bs.length ≤ 1048576) :
    Calls Tryz.prog 46 #[.slice a bs.length cap, .slice a' bs.length cap'] w fun e w' => e = .returned (.bool true) ∧ Gr w w' := by
  go_enter Tryz.func46, Tryz.ntmps46
  go_wp2
  go_loopw [5] (fun i wr => ∃ k : Nat, k ≤ bs.length ∧ i = .int .i64 k ∧ Gr w wr) (fun i _ => bs.length - (intOf i).toNat)
  case atStart => exact ⟨0, Nat.zero_le _, rfl, Gr.refl _⟩
  case round =>
    obtain ⟨k, hk, rfl, gr⟩ := hrel
    by_cases hkl : k < bs.length
    · obtain ⟨g, o, rfl, hg, hx⟩ := ha k hkl
      obtain ⟨g', o', rfl, hg', hx'⟩ := ha' k hkl
      obtain ⟨b, hb⟩ : ∃ b, b = bs.getD k Bx.nil := ⟨_, rfl⟩
      rw [← hb] at hx hx'
      clear hb
      have hi0 : (0 : Int) ≤ (k : Int) := by omega
      have hi1 : (k : Int) < (bs.length : Int) := by omega
      have y := six_gr hx gr hg
      have y' := six_gr hx' gr hg'
      have hgr := gr.size
      have HG : Hid (Gr w wr) := gr
      clear gr hx hx' ha ha'
      go_wp2_with fail
      go_region_held3 (fun w' => (Gr wr w' ∧ w'.cell? ⟨g, o + k * 6, none⟩ = some (.int .i64 b.x) ∧ w'.cell? ⟨g, o + k * 6 + 1, none⟩ = some (.int .i64 b.y) ∧ w'.cell? ⟨g, o + k * 6 + 2, none⟩ = some (.int .i64 b.l) ∧ w'.cell? ⟨g, o + k * 6 + 3, none⟩ = some (.int .i64 b.h) ∧ w'.cell? ⟨g, o + k * 6 + 4, none⟩ = some (.int .i64 b.i) ∧ w'.cell? ⟨g, o + k * 6 + 5, none⟩ = some (.int .i64 b.o)) ∧
          w'.cell? ⟨g', o' + k * 6, none⟩ = some (.int .i64 b.x) ∧ w'.cell? ⟨g', o' + k * 6 + 1, none⟩ = some (.int .i64 b.y) ∧ w'.cell? ⟨g', o' + k * 6 + 2, none⟩ = some (.int .i64 b.l) ∧ w'.cell? ⟨g', o' + k * 6 + 3, none⟩ = some (.int .i64 b.h) ∧ w'.cell? ⟨g', o' + k * 6 + 4, none⟩ = some (.int .i64 b.i) ∧ w'.cell? ⟨g', o' + k * 6 + 5, none⟩ = some (.int .i64 b.o))
        (first
          | exact ⟨⟨(Gr.refl _).drew, y⟩, y'⟩
          | exact ⟨⟨(Gr.refl _).drew.trans g1, six_gr (w := wr.drew) y g1 (Nat.lt_of_lt_of_le hg hgr)⟩, six_gr (w := wr.drew) y' g1 (Nat.lt_of_lt_of_le hg' hgr)⟩)
        (first
          | (go_at_call 83; refine (eqBox_same b _).mono ?_; rintro e w1 ⟨rfl, g1⟩))
      go_wp2
      go_roundw
      case rel => exact ⟨k + 1, by omega, by go_num, HG.out.trans (And.left (And.left (by assumption)))⟩
      case measure => simp [intOf]; omega
    · go_wp2
      go_ret
      exact ⟨rfl, gr⟩

set_option maxHeartbeats 1000000 in
theorem eqTube_same (s : ByteArray) (a a' : Option Addr) (cap cap' : Nat) (bs : List Bx) (w : World) (ha : Boxes w a bs) (ha' : Boxes w a' bs) (hn : bs.length ≤ 1048576) :
    Calls Tryz.prog 21 #[.agg #[.string s, .slice a bs.length cap], .agg #[.string s, .slice a' bs.length cap']] w fun e w' => e = .returned (.bool true) ∧ Gr w w' := by
  go_enter Tryz.func21, Tryz.ntmps21
  go_wp2_with (go_at_call 46; refine (eqBoxS_same _ _ _ _ bs _ (boxes_gr ha (((Gr.refl _).alloc _).alloc _)) (boxes_gr ha' (((Gr.refl _).alloc _).alloc _)) hn).mono ?_; rintro e w1 ⟨rfl, g1⟩)
  go_ret
  exact ⟨rfl, (((Gr.refl _).alloc _).alloc _).trans g1⟩

end Go.Proofs.YtpdcgjkfilohcabGreat
