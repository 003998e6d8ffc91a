import Derived.Test.YtpdcgjkfilohcaaSmall
namespace Go.Proofs.Ytpdcgjkfilohcaa
open Go.RowKit
attribute [local go_sem ↓] Go.wp_at_zero Go.wp_at_succ

theorem new_six {w w1 : World} {b : Bx} {t : TypeId} (g : Gr (w.alloc (.cells #[.int .i64 b.x, .int .i64 b.y, .int .i64 b.l, .int .i64 b.h, .int .i64 b.i, .int .i64 b.o] t)) w1) : w.heap.size < w1.heap.size ∧ w1.cell? ⟨w.heap.size, 0, none⟩ = some (.int .i64 b.x) ∧ w1.cell? ⟨w.heap.size, 1, none⟩ = some (.int .i64 b.y) ∧ w1.cell? ⟨w.heap.size, 2, none⟩ = some (.int .i64 b.l) ∧ w1.cell? ⟨w.heap.size, 3, none⟩ = some (.int .i64 b.h) ∧ w1.cell? ⟨w.heap.size, 4, none⟩ = some (.int .i64 b.i) ∧ w1.cell? ⟨w.heap.size, 5, none⟩ = some (.int .i64 b.o) :=
  ⟨g.lt_alloc, (g.cells.1 _ _ (by simp)).trans (by simp), (g.cells.1 _ _ (by simp)).trans (by simp), (g.cells.1 _ _ (by simp)).trans (by simp), (g.cells.1 _ _ (by simp)).trans (by simp), (g.cells.1 _ _ (by simp)).trans (by simp), (g.cells.1 _ _ (by simp)).trans (by simp)⟩

theorem any_snoc {p : Bx → Bool} (bs : List Bx) (k : Nat) (h : k < bs.length) : (bs.take (k + 1)).any p = ((bs.take k).any p || p (bs.getD k Bx.nil)) := by
  rw [List.take_succ_eq_append_getElem h, List.any_append]
  simp [h]
theorem any_hit {p : Bx → Bool} (bs : List Bx) (k : Nat) (h : k < bs.length) (hb : p (bs.getD k Bx.nil) = true) : bs.any p = true := by
  rw [List.any_eq_true]
  exact ⟨bs[k], List.getElem_mem h, by simpa [h] using hb⟩
theorem any_all {p : Bx → Bool} (bs : List Bx) (k : Nat) (h : ¬ k < bs.length) : (bs.take k).any p = bs.any p := by
  rw [List.take_of_length_le (by omega)]
theorem all_snoc {p : Bx → Bool} (bs : List Bx) (k : Nat) (h : k < bs.length) : (bs.take (k + 1)).all p = ((bs.take k).all p && p (bs.getD k Bx.nil)) := by
  rw [List.take_succ_eq_append_getElem h, List.all_append]
  simp [h]
theorem all_stop {p : Bx → Bool} (bs : List Bx) (k : Nat) (h : k < bs.length) (hb : p (bs.getD k Bx.nil) = false) : bs.all p = false := by
  rw [List.all_eq_false]
  exact ⟨bs[k], List.getElem_mem h, by simpa [h] using hb⟩
theorem all_all {p : Bx → Bool} (bs : List Bx) (k : Nat) (h : ¬ k < bs.length) : (bs.take k).all p = bs.all p := by
  rw [List.take_of_length_le (by omega)]

/-- Some of the boxes holds box c. -/
def holdB (bs : List Bx) (c : Bx) : Bool := bs.any (inB c)

set_option maxHeartbeats 1000000 in
theorem hold_any (a : Option Addr) (cap : Nat) (bs : List Bx) (c : Bx) (w : World) (ha : Boxes w a bs) (hn : bs.length ≤ 1048576) :
    Calls Try.prog 81 #[.slice a bs.length cap, .agg #[.int .i64 c.x, .int .i64 c.y, .int .i64 c.l, .int .i64 c.h, .int .i64 c.i, .int .i64 c.o]] w fun e w' => e = .returned (.bool (holdB bs c)) ∧ Gr w w' := by
  go_enter Try.func81, Try.ntmps81
  go_wp2
  go_loopw [9] (fun i wr => ∃ k : Nat, k ≤ bs.length ∧ i = .int .i64 k ∧ Gr (w.alloc (.cells #[.int .i64 c.x, .int .i64 c.y, .int .i64 c.l, .int .i64 c.h, .int .i64 c.i, .int .i64 c.o] 36)) wr ∧ Hid ((bs.take k).any (inB c) = false)) (fun i _ => bs.length - (intOf i).toNat)
  case atStart => exact ⟨0, Nat.zero_le _, rfl, Gr.refl _, by show (bs.take 0).any (inB c) = false; simp⟩
  case round =>
    obtain ⟨k, hk, rfl, gr, hb⟩ := hrel
    have gw : Gr w wr := ((Gr.refl _).alloc _).trans gr
    by_cases hkl : k < bs.length
    · obtain ⟨g, o, rfl, hg, hx⟩ := ha k hkl
      have HN : Hid (inB c (bs.getD k Bx.nil) = false → (bs.take (k + 1)).any (inB c) = false) := fun h => by rw [any_snoc bs k hkl, hb.out, h]; rfl
      have HF : Hid (inB c (bs.getD k Bx.nil) = true → holdB bs c = true) := fun h => any_hit bs k hkl h
      obtain ⟨c0, c1, c2, c3, c4, c5⟩ := six_gr hx gw hg
      obtain ⟨hl, d0, d1, d2, d3, d4, d5⟩ := new_six gr
      clear hx hb
      generalize bs.getD k Bx.nil = b at *
      cases hok : inB c b
      · have HR : Hid ((bs.take (k + 1)).any (inB c) = false) := HN.out hok
        clear HF HN
        go_wp2_with (go_at_call 90; refine (boxWithin_any c b _).mono ?_; rintro e w1 ⟨rfl, g1⟩)
        go_roundw
        case rel => exact ⟨k + 1, by omega, by go_num, (gr.alloc _).trans g1, HR⟩
        case measure => simp [intOf]; omega
      · have HR : Hid (holdB bs c = true) := HF.out hok
        clear HF HN
        go_wp2_with (go_at_call 90; refine (boxWithin_any c b _).mono ?_; rintro e w1 ⟨rfl, g1⟩)
        go_ret
        exact ⟨by rw [HR.out]; rfl, (gw.alloc _).trans g1⟩
    · go_wp2
      go_ret
      exact ⟨by rw [holdB, ← any_all bs k hkl, hb.out]; rfl, gw⟩

set_option maxHeartbeats 1000000 in
theorem within_any (a a' : Option Addr) (cap cap' : Nat) (cs bs : List Bx) (w : World) (ha : Boxes w a cs) (hb : Boxes w a' bs) (hn : cs.length ≤ 1048576) (hm : bs.length ≤ 1048576) :
    Calls Try.prog 50 #[.slice a cs.length cap, .slice a' bs.length cap'] w fun e w' => e = .returned (.bool (cs.all (holdB bs))) ∧ Gr w w' := by
  go_enter Try.func50, Try.ntmps50
  go_wp2
  go_loopw [9] (fun i wr => ∃ k : Nat, k ≤ cs.length ∧ i = .int .i64 k ∧ Gr w wr ∧ Hid ((cs.take k).all (holdB bs) = true)) (fun i _ => cs.length - (intOf i).toNat)
  case atStart => exact ⟨0, Nat.zero_le _, rfl, Gr.refl _, by show (cs.take 0).all (holdB bs) = true; simp⟩
  case round =>
    obtain ⟨k, hk, rfl, gr, hq⟩ := hrel
    by_cases hkl : k < cs.length
    · obtain ⟨g, o, rfl, hg, hx⟩ := ha k hkl
      have HN : Hid (holdB bs (cs.getD k Bx.nil) = true → (cs.take (k + 1)).all (holdB bs) = true) := fun h => by rw [all_snoc cs k hkl, hq.out, h]; rfl
      have HF : Hid (holdB bs (cs.getD k Bx.nil) = false → cs.all (holdB bs) = false) := fun h => all_stop cs k hkl h
      obtain ⟨c0, c1, c2, c3, c4, c5⟩ := six_gr hx gr hg
      clear hx hq
      generalize cs.getD k Bx.nil = c at *
      cases hok : holdB bs c
      · have HR : Hid (cs.all (holdB bs) = false) := HF.out hok
        clear HF HN
        go_wp2_with (go_at_call 81; refine (hold_any _ _ bs c _ (boxes_gr hb (gr.alloc _)) hm).mono ?_; rintro e w1 ⟨rfl, g1⟩)
        go_ret
        exact ⟨by rw [HR.out]; rfl, (gr.alloc _).trans g1⟩
      · have HR : Hid ((cs.take (k + 1)).all (holdB bs) = true) := HN.out hok
        clear HF HN
        go_wp2_with (go_at_call 81; refine (hold_any _ _ bs c _ (boxes_gr hb (gr.alloc _)) hm).mono ?_; rintro e w1 ⟨rfl, g1⟩)
        go_roundw
        case rel => exact ⟨k + 1, by omega, by go_num, (gr.alloc _).trans g1, HR⟩
        case measure => simp [intOf]; omega
    · go_wp2
      go_ret
      exact ⟨by rw [← all_all cs k hkl, hq.out]; rfl, gr⟩

theorem within_eq {cs : List Bx} (bs : List Bx) (h : boxesB cs = true) : cs.all (holdB bs) = withinB cs bs := by
  unfold boxesB at h
  rw [List.all_eq_true] at h
  unfold withinB holdB
  rw [Bool.eq_iff_iff, List.all_eq_true, List.all_eq_true]
  constructor
  · intro q c hc
    have := q c hc
    rw [List.any_eq_true] at this ⊢
    obtain ⟨b, hb, e⟩ := this
    exact ⟨b, hb, by rw [← inB_cover b (h c hc)]; exact e⟩
  · intro q c hc
    have := q c hc
    rw [List.any_eq_true] at this ⊢
    obtain ⟨b, hb, e⟩ := this
    exact ⟨b, hb, by rw [inB_cover b (h c hc)]; exact e⟩

end Go.Proofs.Ytpdcgjkfilohcaa
