import Derived.Test.YtpdcgjkfilohcabGreatClose
namespace Go.Proofs.YtpdcgjkfilohcabGreat
open Go.RowKit
attribute [local go_sem ↓] Go.wp_at_zero Go.wp_at_succ

theorem chainP (a b : Bool) (p q r s : Prop) [Decidable p] [Decidable q] [Decidable r] [Decidable s] : a = false ∨ (a = true ∧ b = false) ∨ (a = true ∧ b = true ∧ p) ∨ (a = true ∧ b = true ∧ ¬ p ∧ q) ∨ (a = true ∧ b = true ∧ ¬ p ∧ ¬ q ∧ r) ∨ (a = true ∧ b = true ∧ ¬ p ∧ ¬ q ∧ ¬ r ∧ s) ∨ (a = true ∧ b = true ∧ ¬ p ∧ ¬ q ∧ ¬ r ∧ ¬ s) := by
  by_cases p <;> by_cases q <;> by_cases r <;> by_cases s <;> cases a <;> cases b <;> simp_all

theorem close_nums {a b : Bx} (ha : a.ok = true) (hb : b.ok = true) :
    closeB a b = (lieB (a.x - b.x) (a.x - b.x) (-1) 1 && lieB (a.y - b.y) (a.y - b.y) (-1) 1 && !decide (b.h < a.l) && !decide (a.h < b.l) && !decide (b.o < a.i) && !decide (a.o < b.i)) := by
  rw [closeB, ha, hb, Bool.eq_iff_iff]; simp [nearB, lieB]; omega
theorem ok_nums {a : Bx} (ha : a.ok = true) : 0 ≤ a.x ∧ a.x ≤ 15 ∧ 0 ≤ a.y ∧ a.y ≤ 15 ∧ 0 ≤ a.l ∧ a.l ≤ a.h ∧ a.h ≤ 6 ∧ 0 ≤ a.i ∧ a.i ≤ a.o ∧ a.o ≤ 10000 := by simpa [Bx.ok, boxB] using ha

set_option maxHeartbeats 1000000 in
theorem specL1Close_any (a b : Bx) (w : World) (ha : a.ok = true) (hb : b.ok = true) :
    Calls Tryz.prog 63 #[.agg #[.int .i64 a.x, .int .i64 a.y, .int .i64 a.l, .int .i64 a.h, .int .i64 a.i, .int .i64 a.o], .agg #[.int .i64 b.x, .int .i64 b.y, .int .i64 b.l, .int .i64 b.h, .int .i64 b.i, .int .i64 b.o]] w fun e w' => e = .returned (.tuple #[.int .i64 (closeT a b), .bool (closeB a b)]) ∧ Gr w w' := by
  obtain ⟨a1, a2, a3, a4, -, -, -, a5, -, a6⟩ := ok_nums ha
  obtain ⟨b1, b2, b3, b4, -, -, -, b5, -, b6⟩ := ok_nums hb
  have hN := close_nums ha hb
  have HN : Hid (closeB a b = (lieB (a.x - b.x) (a.x - b.x) (-1) 1 && lieB (a.y - b.y) (a.y - b.y) (-1) 1 && !decide (b.h < a.l) && !decide (a.h < b.l) && !decide (b.o < a.i) && !decide (a.o < b.i))) := hN
  clear hN ha hb
  rcases chainP (lieB (a.x - b.x) (a.x - b.x) (-1) 1) (lieB (a.y - b.y) (a.y - b.y) (-1) 1) (b.h < a.l) (a.h < b.l) (b.o < a.i) (a.o < b.i) with h1 | ⟨h1, h2⟩ | ⟨h1, h2, h3⟩ | ⟨h1, h2, h3, h4⟩ | ⟨h1, h2, h3, h4, h5⟩ | ⟨h1, h2, h3, h4, h5, h6⟩ | ⟨h1, h2, h3, h4, h5, h6⟩
  case' inr.inr.inr.inr.inr.inr => by_cases h7 : b.i < a.i
  all_goals
    go_enter Tryz.func63, Tryz.ntmps63
    go_wp2_with (go_at_call 108; refine (l1In_any _ _ _ _).mono ?_; rintro e w' ⟨rfl, rfl⟩)
    go_ret2
    refine ⟨?_, ((Gr.refl _).alloc _).alloc _⟩
    have hN := HN.out
    first | (simp [closeT, *]; done) | (simp [closeT, *]; omega)

set_option maxHeartbeats 1000000 in
theorem specClose_any (a b : Bx) (w : World) :
    Calls Tryz.prog 93 #[.agg #[.int .i64 a.x, .int .i64 a.y, .int .i64 a.l, .int .i64 a.h, .int .i64 a.i, .int .i64 a.o], .agg #[.int .i64 b.x, .int .i64 b.y, .int .i64 b.l, .int .i64 b.h, .int .i64 b.i, .int .i64 b.o]] w fun e w' => e = .returned (.tuple #[.int .i64 (closeT a b), .bool (closeB a b)]) ∧ Gr w w' := by
  cases ha : a.ok
  · have e1 : closeB a b = false := by simp [closeB, ha]
    have e2 : closeT a b = 0 := by simp [closeT, e1]
    rw [e1, e2]
    clear e1 e2
    simp only [Bx.ok] at ha
    have G := Gr.refl ((w.alloc (.cells #[.int .i64 a.x, .int .i64 a.y, .int .i64 a.l, .int .i64 a.h, .int .i64 a.i, .int .i64 a.o] 77)).alloc (.cells #[.int .i64 b.x, .int .i64 b.y, .int .i64 b.l, .int .i64 b.h, .int .i64 b.i, .int .i64 b.o] 77))
    go_enter Tryz.func93, Tryz.ntmps93
    go_wp2_with (go_at_call 75; refine (specBoxOk_any _ _ _ _ _ _ _).mono ?_; rintro e w1 ⟨rfl, g1⟩; replace G := G.trans g1; clear g1; (try clear hc hf); obtain ⟨hc, hf⟩ := G.cells)
    go_ret2
    exact ⟨rfl, (((Gr.refl _).alloc _).alloc _).trans G⟩
  · cases hb : b.ok
    · have e1 : closeB a b = false := by simp [closeB, hb]
      have e2 : closeT a b = 0 := by simp [closeT, e1]
      rw [e1, e2]
      clear e1 e2
      simp only [Bx.ok] at ha hb
      have G := Gr.refl ((w.alloc (.cells #[.int .i64 a.x, .int .i64 a.y, .int .i64 a.l, .int .i64 a.h, .int .i64 a.i, .int .i64 a.o] 77)).alloc (.cells #[.int .i64 b.x, .int .i64 b.y, .int .i64 b.l, .int .i64 b.h, .int .i64 b.i, .int .i64 b.o] 77))
      go_enter Tryz.func93, Tryz.ntmps93
      go_wp2_with (go_at_call 75; refine (specBoxOk_any _ _ _ _ _ _ _).mono ?_; rintro e w1 ⟨rfl, g1⟩; replace G := G.trans g1; clear g1; (try clear hc hf); obtain ⟨hc, hf⟩ := G.cells)
      go_ret2
      exact ⟨rfl, (((Gr.refl _).alloc _).alloc _).trans G⟩
    · have oka := ha
      have okb := hb
      simp only [Bx.ok] at ha hb
      have HA : Hid (a.ok = true) := oka
      have HB : Hid (b.ok = true) := okb
      clear oka okb
      have G := Gr.refl ((w.alloc (.cells #[.int .i64 a.x, .int .i64 a.y, .int .i64 a.l, .int .i64 a.h, .int .i64 a.i, .int .i64 a.o] 77)).alloc (.cells #[.int .i64 b.x, .int .i64 b.y, .int .i64 b.l, .int .i64 b.h, .int .i64 b.i, .int .i64 b.o] 77))
      go_enter Tryz.func93, Tryz.ntmps93
      go_wp2_with (first
        | (go_at_call 75; refine (specBoxOk_any _ _ _ _ _ _ _).mono ?_; rintro e w1 ⟨rfl, g1⟩; replace G := G.trans g1; clear g1; (try clear hc hf); obtain ⟨hc, hf⟩ := G.cells)
        | (go_at_call 63; refine (specL1Close_any a b _ HA.out HB.out).mono ?_; rintro e w1 ⟨rfl, g1⟩; replace G := G.trans g1; clear g1; (try clear hc hf); obtain ⟨hc, hf⟩ := G.cells))
      go_ret2
      exact ⟨rfl, (((Gr.refl _).alloc _).alloc _).trans G⟩

end Go.Proofs.YtpdcgjkfilohcabGreat
