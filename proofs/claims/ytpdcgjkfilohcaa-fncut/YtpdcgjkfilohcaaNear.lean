import Derived.Test.YtpdcgjkfilohcaaDrawC
namespace Go.Proofs.Ytpdcgjkfilohcaa
open Go.RowKit
attribute [local go_sem ↓] Go.wp_at_zero Go.wp_at_succ

/-- A tick is one of both boxes. -/
def timeB (a b : Bx) (t : Int) : Bool := decide (a.i ≤ t ∧ t ≤ a.o ∧ b.i ≤ t ∧ t ≤ b.o)
/-- Two boxes are too near at a tick. -/
def wnB (a b : Bx) (t : Int) : Bool := timeB a b t && nearB a b

set_option maxHeartbeats 400000 in
theorem wAbs_any (n : Int) (w : World) (h0 : -1000 ≤ n) (h1 : n ≤ 1000) :
    Calls Try.prog 47 #[.int .i64 n] w fun e w' => e = .returned (.int .i64 (if n < 0 then -n else n)) ∧ w' = w := by
  by_cases h : n < 0
  · rw [if_pos h]
    go_enter Try.func47, Try.ntmps47
    go_wp2
    go_ret
    exact ⟨rfl, rfl⟩
  · rw [if_neg h]
    go_enter Try.func47, Try.ntmps47
    go_wp2
    go_ret
    exact ⟨rfl, rfl⟩

theorem wn_time {a b : Bx} {t : Int} (h : ¬ (a.i ≤ t ∧ t ≤ a.o ∧ b.i ≤ t ∧ t ≤ b.o)) : wnB a b t = false := by
  have : timeB a b t = false := by simpa [timeB] using h
  rw [wnB, this]; rfl
theorem wn_far {a b : Bx} {t : Int} (h : ¬ (a.x - b.x ≤ 1 ∧ b.x - a.x ≤ 1 ∧ a.y - b.y ≤ 1 ∧ b.y - a.y ≤ 1 ∧ a.l ≤ b.h ∧ b.l ≤ a.h)) : wnB a b t = false := by
  have : nearB a b = false := by
    simp only [nearB, decide_eq_false_iff_not]
    exact fun h' => h ⟨h'.1, h'.2.1, h'.2.2.1, h'.2.2.2.1, h'.2.2.2.2.1, h'.2.2.2.2.2.1⟩
  rw [wnB, this, Bool.and_false]
theorem wn_true {a b : Bx} {t : Int} (h : a.i ≤ t ∧ t ≤ a.o ∧ b.i ≤ t ∧ t ≤ b.o) (h' : a.x - b.x ≤ 1 ∧ b.x - a.x ≤ 1 ∧ a.y - b.y ≤ 1 ∧ b.y - a.y ≤ 1 ∧ a.l ≤ b.h ∧ b.l ≤ a.h) : wnB a b t = true := by
  obtain ⟨h1, h2, h3, h4⟩ := h
  obtain ⟨k1, k2, k3, k4, k5, k6⟩ := h'
  simp only [wnB, timeB, nearB, Bool.and_eq_true, decide_eq_true_eq]
  omega

set_option maxRecDepth 100000 in
set_option maxHeartbeats 2000000 in
/-- Ahead of the first box's first tick nothing else is looked at. -/
theorem wNear_ahead (a b : Bx) (t : Int) (w : World) (h1 : t < a.i) :
    Calls Try.prog 16 #[.agg #[.int .i64 a.x, .int .i64 a.y, .int .i64 a.l, .int .i64 a.h, .int .i64 a.i, .int .i64 a.o], .agg #[.int .i64 b.x, .int .i64 b.y, .int .i64 b.l, .int .i64 b.h, .int .i64 b.i, .int .i64 b.o], .int .i64 t] w fun e w' => e = .returned (.bool false) ∧ Gr w w' := by
  go_enter Try.func16, Try.ntmps16
  go_wp2
  go_ret
  exact ⟨rfl, ((Gr.refl _).alloc _).alloc _⟩

set_option maxRecDepth 100000 in
set_option maxHeartbeats 4000000 in
theorem wNear_any (a b : Bx) (t : Int) (w : World) (ha : a.ok = true) (hb : b.ok = true) :
    Calls Try.prog 16 #[.agg #[.int .i64 a.x, .int .i64 a.y, .int .i64 a.l, .int .i64 a.h, .int .i64 a.i, .int .i64 a.o], .agg #[.int .i64 b.x, .int .i64 b.y, .int .i64 b.l, .int .i64 b.h, .int .i64 b.i, .int .i64 b.o], .int .i64 t] w fun e w' => e = .returned (.bool (wnB a b t)) ∧ Gr w w' := by
  obtain ⟨a1, a2, a3, a4, a5, a6, a7, a8, a9, a10⟩ := ok_nums ha
  obtain ⟨b1, b2, b3, b4, b5, b6, b7, b8, b9, b10⟩ := ok_nums hb
  clear ha hb
  by_cases h1 : t < a.i
  · rw [wn_time (by omega)]
    exact wNear_ahead a b t w h1
  by_cases h2 : a.o < t
  · have HV : Hid (wnB a b t = false) := wn_time (by omega)
    go_enter Try.func16, Try.ntmps16
    go_wp2
    go_ret
    exact ⟨by rw [HV.out]; rfl, ((Gr.refl _).alloc _).alloc _⟩
  by_cases h3 : t < b.i
  · have HV : Hid (wnB a b t = false) := wn_time (by omega)
    go_enter Try.func16, Try.ntmps16
    go_wp2
    go_ret
    exact ⟨by rw [HV.out]; rfl, ((Gr.refl _).alloc _).alloc _⟩
  by_cases h4 : b.o < t
  · have HV : Hid (wnB a b t = false) := wn_time (by omega)
    go_enter Try.func16, Try.ntmps16
    go_wp2
    go_ret
    exact ⟨by rw [HV.out]; rfl, ((Gr.refl _).alloc _).alloc _⟩
  obtain ⟨X, hX⟩ : ∃ X, (if a.x - b.x < 0 then -(a.x - b.x) else a.x - b.x) = X := ⟨_, rfl⟩
  obtain ⟨Y, hY⟩ : ∃ Y, (if a.y - b.y < 0 then -(a.y - b.y) else a.y - b.y) = Y := ⟨_, rfl⟩
  have CX : Hid (∀ w : World, Calls Try.prog 47 #[.int .i64 (a.x - b.x)] w fun e w' => e = .returned (.int .i64 X) ∧ w' = w) := fun w => hX ▸ wAbs_any _ w (by omega) (by omega)
  have CY : Hid (∀ w : World, Calls Try.prog 47 #[.int .i64 (a.y - b.y)] w fun e w' => e = .returned (.int .i64 Y) ∧ w' = w) := fun w => hY ▸ wAbs_any _ w (by omega) (by omega)
  have FX : Hid ((2 ≤ X → ¬ (a.x - b.x ≤ 1 ∧ b.x - a.x ≤ 1)) ∧ (X < 2 → a.x - b.x ≤ 1 ∧ b.x - a.x ≤ 1)) := by
    show (2 ≤ X → _) ∧ _
    rw [← hX]
    constructor <;> (split <;> omega)
  have FY : Hid ((2 ≤ Y → ¬ (a.y - b.y ≤ 1 ∧ b.y - a.y ≤ 1)) ∧ (Y < 2 → a.y - b.y ≤ 1 ∧ b.y - a.y ≤ 1)) := by
    show (2 ≤ Y → _) ∧ _
    rw [← hY]
    constructor <;> (split <;> omega)
  clear hX hY
  by_cases h5 : 2 ≤ X
  · have HV : Hid (wnB a b t = false) := wn_far (fun h => FX.out.1 h5 ⟨h.1, h.2.1⟩)
    go_enter Try.func16, Try.ntmps16
    go_wp2_with (go_at_call 47; (with_reducible refine Calls.mono (CX.out _) ?_); rintro e w' ⟨rfl, rfl⟩)
    go_ret
    exact ⟨by rw [HV.out]; rfl, ((Gr.refl _).alloc _).alloc _⟩
  by_cases h6 : 2 ≤ Y
  · have HV : Hid (wnB a b t = false) := wn_far (fun h => FY.out.1 h6 ⟨h.2.2.1, h.2.2.2.1⟩)
    go_enter Try.func16, Try.ntmps16
    go_wp2_with (first | (go_at_call 47; (with_reducible refine Calls.mono (CX.out _) ?_); rintro e w' ⟨rfl, rfl⟩) | (go_at_call 47; (with_reducible refine Calls.mono (CY.out _) ?_); rintro e w' ⟨rfl, rfl⟩))
    go_ret
    exact ⟨by rw [HV.out]; rfl, ((Gr.refl _).alloc _).alloc _⟩
  have HN : Hid (a.l ≤ b.h ∧ b.l ≤ a.h → wnB a b t = true) := fun h => by
    have hx := FX.out.2 (by omega)
    have hy := FY.out.2 (by omega)
    exact wn_true (by omega) ⟨hx.1, hx.2, hy.1, hy.2, h.1, h.2⟩
  have HF : Hid (¬ (a.l ≤ b.h ∧ b.l ≤ a.h) → wnB a b t = false) := fun h => wn_far (fun h' => h ⟨h'.2.2.2.2.1, h'.2.2.2.2.2⟩)
  go_enter Try.func16, Try.ntmps16
  go_wp2_with (first | (go_at_call 47; (with_reducible refine Calls.mono (CX.out _) ?_); rintro e w' ⟨rfl, rfl⟩) | (go_at_call 47; (with_reducible refine Calls.mono (CY.out _) ?_); rintro e w' ⟨rfl, rfl⟩))
  go_loopw [7] (fun v wr => ∃ k : Int, v = .int .i64 k ∧ a.l ≤ k ∧ k ≤ a.h + 1 ∧ Hid (∀ j, a.l ≤ j → j < k → ¬ (b.l ≤ j ∧ j ≤ b.h)) ∧ wr = (w.alloc (.cells #[.int .i64 a.x, .int .i64 a.y, .int .i64 a.l, .int .i64 a.h, .int .i64 a.i, .int .i64 a.o] 36)).alloc (.cells #[.int .i64 b.x, .int .i64 b.y, .int .i64 b.l, .int .i64 b.h, .int .i64 b.i, .int .i64 b.o] 36)) (fun v _ => (a.h + 1 - intOf v).toNat)
  case atStart => exact ⟨a.l, rfl, Int.le_refl _, by omega, fun j h1 h2 => by omega, rfl⟩
  case round =>
    obtain ⟨k, rfl, hk1, hk2, HK, rfl⟩ := hrel
    by_cases hk : k ≤ a.h
    · by_cases hm : b.l ≤ k
      · by_cases hM : k ≤ b.h
        · have HV : Hid (wnB a b t = true) := HN.out ⟨by omega, by omega⟩
          go_wp2
          go_ret
          exact ⟨by rw [HV.out]; rfl, ((Gr.refl _).alloc _).alloc _⟩
        · have HK' : Hid (∀ j, a.l ≤ j → j < k + 1 → ¬ (b.l ≤ j ∧ j ≤ b.h)) := fun j h1 h2 h3 => by
            rcases Int.lt_or_eq_of_le (Int.lt_add_one_iff.mp h2) with h | rfl
            · exact HK.out j h1 h h3
            · omega
          go_wp2
          go_roundw
          case rel => exact ⟨k + 1, rfl, by omega, by omega, HK', trivial⟩
          case measure => simp [intOf]; omega
      · have HK' : Hid (∀ j, a.l ≤ j → j < k + 1 → ¬ (b.l ≤ j ∧ j ≤ b.h)) := fun j h1 h2 h3 => by
          rcases Int.lt_or_eq_of_le (Int.lt_add_one_iff.mp h2) with h | rfl
          · exact HK.out j h1 h h3
          · omega
        go_wp2
        go_roundw
        case rel => exact ⟨k + 1, rfl, by omega, by omega, HK', trivial⟩
        case measure => simp [intOf]; omega
    · have HV : Hid (wnB a b t = false) := HF.out (fun h => by
        by_cases hh : a.l ≤ b.l
        · exact HK.out b.l hh (by omega) ⟨Int.le_refl _, b6⟩
        · exact HK.out a.l (Int.le_refl _) (by omega) ⟨by omega, h.1⟩)
      go_wp2
      go_ret
      exact ⟨by rw [HV.out]; rfl, ((Gr.refl _).alloc _).alloc _⟩
end Go.Proofs.Ytpdcgjkfilohcaa
