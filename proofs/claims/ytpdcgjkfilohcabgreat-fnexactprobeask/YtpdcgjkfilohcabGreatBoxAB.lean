import Derived.Test.YtpdcgjkfilohcabGreatRows
import Derived.WalkKit
import Derived.WalkSpells
import Derived.WalkLawsBesides
namespace Go.Proofs.YtpdcgjkfilohcabGreat
open Go.RowKit

/-- The numbers from a to b are some, and all within c to d. -/
def lieB (a b c d : Int) : Bool := decide (c ≤ a ∧ a ≤ b ∧ b ≤ d)

/-- A box that is ok. -/
def boxB (x y l h i o : Int) : Bool := decide (0 ≤ x ∧ x ≤ 15 ∧ 0 ≤ y ∧ y ≤ 15 ∧ 0 ≤ l ∧ l ≤ h ∧ h ≤ 6 ∧ 0 ≤ i ∧ i ≤ o ∧ o ≤ 10000)

theorem boxB_spec (x y l h i o : Int) : boxB x y l h i o = (lieB x x 0 15 && lieB y y 0 15 && lieB l l 0 h && decide (h ≤ 6) && lieB i i 0 o && decide (o ≤ 10000)) := by
  rw [Bool.eq_iff_iff]; simp [boxB, lieB]; omega

theorem boxB_impl (x y l h i o : Int) : boxB x y l h i o = (lieB x x 0 15 && lieB y y 0 15 && lieB l h 0 6 && lieB i o 0 10000) := by
  rw [Bool.eq_iff_iff]; simp [boxB, lieB]; omega

theorem chain6 (a b c d e f : Bool) : a = false ∨ (a = true ∧ b = false) ∨ (a = true ∧ b = true ∧ c = false) ∨ (a = true ∧ b = true ∧ c = true ∧ d = false) ∨ (a = true ∧ b = true ∧ c = true ∧ d = true ∧ e = false) ∨ (a = true ∧ b = true ∧ c = true ∧ d = true ∧ e = true ∧ f = false) ∨ (a = true ∧ b = true ∧ c = true ∧ d = true ∧ e = true ∧ f = true) := by
  cases a <;> cases b <;> cases c <;> cases d <;> cases e <;> cases f <;> simp
theorem chain4 (a b c d : Bool) : a = false ∨ (a = true ∧ b = false) ∨ (a = true ∧ b = true ∧ c = false) ∨ (a = true ∧ b = true ∧ c = true ∧ d = false) ∨ (a = true ∧ b = true ∧ c = true ∧ d = true) := by
  cases a <;> cases b <;> cases c <;> cases d <;> simp

/-- Memory has grown, and all that was there is as it was. -/
def Gr (w w' : World) : Prop := Below w.heap.size w w'
theorem Gr.refl (w : World) : Gr w w := Below.refl _ _
theorem Gr.size {a b : World} (h : Gr a b) : a.heap.size ≤ b.heap.size := Below.size h
theorem Gr.trans {a b c : World} (h : Gr a b) (k : Gr b c) : Gr a c := Below.trans h (Below.mono k h.size)
theorem Gr.alloc {a w : World} (h : Gr a w) (o : Obj) : Gr a (w.alloc o) := Below.alloc h h.size o
theorem Gr.setCell {a w : World} (h : Gr a w) {p : Addr} (hp : a.heap.size ≤ p.block) (u : Value) : Gr a (w.setCell p u) := Below.setCell h hp u
theorem Gr.drew {a w : World} (h : Gr a w) : Gr a w.drew := Below.drew h
theorem Gr.cells {W w1 : World} (hb : Gr W w1) : (∀ b o, b < W.heap.size → w1.cell? ⟨b, o, none⟩ = W.cell? ⟨b, o, none⟩) ∧ (∀ b o, b < W.heap.size → w1.frozen? ⟨b, o, none⟩ = W.frozen? ⟨b, o, none⟩) :=
  ⟨fun b o h => Below.cell (p := ⟨b, o, none⟩) hb h, fun b o h => Below.frozen (p := ⟨b, o, none⟩) hb h⟩

set_option maxHeartbeats 400000 in
theorem l1In_any (n low high : Int) (w : World) :
    Calls Tryz.prog 108 #[.int .i64 n, .int .i64 low, .int .i64 high] w fun e w' => e = .returned (.bool (lieB n n low high)) ∧ w' = w := by
  by_cases h1 : low ≤ n <;> by_cases h2 : n ≤ high
  all_goals
    go_enter Tryz.func108, Tryz.ntmps108
    go_wp2
    go_ret
    exact ⟨by simp [lieB, h1, h2], rfl⟩

set_option maxHeartbeats 400000 in
theorem liesLevel_any (a b c d : Int) (w : World) :
    Calls Tryz.prog 145 #[.agg #[.int .i64 a, .int .i64 b], .agg #[.int .i64 c, .int .i64 d]] w fun e w' => e = .returned (.bool (lieB a b c d)) ∧ Gr w w' := by
  by_cases h1 : c ≤ a <;> by_cases h2 : a ≤ b <;> by_cases h3 : b ≤ d
  all_goals
    go_enter Tryz.func145, Tryz.ntmps145
    go_wp2
    go_ret
    exact ⟨by simp [lieB, h1, h2, h3], ((Gr.refl _).alloc _).alloc _⟩

set_option maxHeartbeats 400000 in
theorem liesTick_any (a b c d : Int) (w : World) :
    Calls Tryz.prog 146 #[.agg #[.int .i64 a, .int .i64 b], .agg #[.int .i64 c, .int .i64 d]] w fun e w' => e = .returned (.bool (lieB a b c d)) ∧ Gr w w' := by
  by_cases h1 : c ≤ a <;> by_cases h2 : a ≤ b <;> by_cases h3 : b ≤ d
  all_goals
    go_enter Tryz.func146, Tryz.ntmps146
    go_wp2
    go_ret
    exact ⟨by simp [lieB, h1, h2, h3], ((Gr.refl _).alloc _).alloc _⟩

set_option maxHeartbeats 400000 in
theorem liesPlace_any (a b c d : Int) (w : World) :
    Calls Tryz.prog 167 #[.agg #[.int .i64 a, .int .i64 b], .agg #[.int .i64 c, .int .i64 d]] w fun e w' => e = .returned (.bool (lieB a b c d)) ∧ Gr w w' := by
  by_cases h1 : c ≤ a <;> by_cases h2 : a ≤ b <;> by_cases h3 : b ≤ d
  all_goals
    go_enter Tryz.func167, Tryz.ntmps167
    go_wp2
    go_ret
    exact ⟨by simp [lieB, h1, h2, h3], ((Gr.refl _).alloc _).alloc _⟩

set_option maxHeartbeats 400000 in
theorem sideOk_any (n : Int) (w : World) :
    Calls Tryz.prog 144 #[.int .i64 n] w fun e w' => e = .returned (.bool (lieB n n 0 15)) ∧ Gr w w' := by
  go_enter Tryz.func144, Tryz.ntmps144
  go_wp2_with (go_at_call 167; refine (liesPlace_any _ _ _ _ _).mono ?_; rintro e w' ⟨rfl, hb⟩)
  go_ret
  exact ⟨rfl, hb⟩

set_option maxHeartbeats 400000 in
theorem levelsOf_any (x y l h i o : Int) (w : World) :
    Calls Tryz.prog 101 #[.agg #[.int .i64 x, .int .i64 y, .int .i64 l, .int .i64 h, .int .i64 i, .int .i64 o]] w fun e w' => e = .returned (.agg #[.int .i64 l, .int .i64 h]) ∧ Gr w w' := by
  go_enter Tryz.func101, Tryz.ntmps101
  go_wp2
  exact bodyPost_ret (v := .agg #[.int .i64 l, .int .i64 h]) (by simp [results, Tryz.results101, go_sem]) rfl ⟨rfl, ((Gr.refl _).alloc _).alloc _⟩

set_option maxHeartbeats 400000 in
theorem ticksOf_any (x y l h i o : Int) (w : World) :
    Calls Tryz.prog 103 #[.agg #[.int .i64 x, .int .i64 y, .int .i64 l, .int .i64 h, .int .i64 i, .int .i64 o]] w fun e w' => e = .returned (.agg #[.int .i64 i, .int .i64 o]) ∧ Gr w w' := by
  go_enter Tryz.func103, Tryz.ntmps103
  go_wp2
  exact bodyPost_ret (v := .agg #[.int .i64 i, .int .i64 o]) (by simp [results, Tryz.results103, go_sem]) rfl ⟨rfl, ((Gr.refl _).alloc _).alloc _⟩

set_option maxHeartbeats 400000 in
theorem toBox_any (x y l h i o : Int) (w : World) :
    Calls Tryz.prog 76 #[.agg #[.int .i64 x, .int .i64 y, .int .i64 l, .int .i64 h, .int .i64 i, .int .i64 o]] w fun e w' => e = .returned (.agg #[.int .i64 x, .int .i64 y, .int .i64 l, .int .i64 h, .int .i64 i, .int .i64 o]) ∧ Gr w w' := by
  go_enter Tryz.func76, Tryz.ntmps76
  go_wp2
  exact bodyPost_ret (v := .agg #[.int .i64 x, .int .i64 y, .int .i64 l, .int .i64 h, .int .i64 i, .int .i64 o]) (by simp [results, Tryz.results76, go_sem]) rfl ⟨rfl, (((Gr.refl _).alloc _).alloc _).alloc _⟩

set_option maxHeartbeats 1000000 in
theorem specBoxOk_any (x y l h i o : Int) (w : World) :
    Calls Tryz.prog 75 #[.agg #[.int .i64 x, .int .i64 y, .int .i64 l, .int .i64 h, .int .i64 i, .int .i64 o]] w fun e w' => e = .returned (.bool (boxB x y l h i o)) ∧ Gr w w' := by
  rw [boxB_spec]
  rcases chain6 (lieB x x 0 15) (lieB y y 0 15) (lieB l l 0 h) (decide (h ≤ 6)) (lieB i i 0 o) (decide (o ≤ 10000)) with h1 | ⟨h1, h2⟩ | ⟨h1, h2, h3⟩ | ⟨h1, h2, h3, h4⟩ | ⟨h1, h2, h3, h4, h5⟩ | ⟨h1, h2, h3, h4, h5, h6⟩ | ⟨h1, h2, h3, h4, h5, h6⟩
  all_goals
    go_enter Tryz.func75, Tryz.ntmps75
    go_wp2_with (go_at_call 108; refine (l1In_any _ _ _ _).mono ?_; rintro e w' ⟨rfl, rfl⟩)
    go_ret
    exact ⟨by simp [*], (Gr.refl _).alloc _⟩

end Go.Proofs.YtpdcgjkfilohcabGreat

namespace Go.Proofs.YtpdcgjkfilohcabGreat
open Go.RowKit

set_option maxHeartbeats 1000000 in
theorem implBoxOk_any (x y l h i o : Int) (w : World) :
    Calls Tryz.prog 98 #[.agg #[.int .i64 x, .int .i64 y, .int .i64 l, .int .i64 h, .int .i64 i, .int .i64 o]] w fun e w' => e = .returned (.bool (boxB x y l h i o)) ∧ Gr w w' := by
  rw [boxB_impl]
  rcases chain4 (lieB x x 0 15) (lieB y y 0 15) (lieB l h 0 6) (lieB i o 0 10000) with h1 | ⟨h1, h2⟩ | ⟨h1, h2, h3⟩ | ⟨h1, h2, h3, h4⟩ | ⟨h1, h2, h3, h4⟩
  all_goals
    have G := Gr.refl (w.alloc (.cells #[.int .i64 x, .int .i64 y, .int .i64 l, .int .i64 h, .int .i64 i, .int .i64 o] 77))
    go_enter Tryz.func98, Tryz.ntmps98
    go_wp2_with (first
      | (go_at_call 144; refine (sideOk_any _ _).mono ?_; rintro e w1 ⟨rfl, g1⟩; replace G := G.trans g1; clear g1; (try clear hc hf); obtain ⟨hc, hf⟩ := G.cells)
      | (go_at_call 101; refine (levelsOf_any _ _ _ _ _ _ _).mono ?_; rintro e w1 ⟨rfl, g1⟩; replace G := G.trans g1; clear g1; (try clear hc hf); obtain ⟨hc, hf⟩ := G.cells)
      | (go_at_call 145; refine (liesLevel_any _ _ _ _ _).mono ?_; rintro e w1 ⟨rfl, g1⟩; replace G := G.trans g1; clear g1; (try clear hc hf); obtain ⟨hc, hf⟩ := G.cells)
      | (go_at_call 103; refine (ticksOf_any _ _ _ _ _ _ _).mono ?_; rintro e w1 ⟨rfl, g1⟩; replace G := G.trans g1; clear g1; (try clear hc hf); obtain ⟨hc, hf⟩ := G.cells)
      | (go_at_call 146; refine (liesTick_any _ _ _ _ _).mono ?_; rintro e w1 ⟨rfl, g1⟩; replace G := G.trans g1; clear g1; (try clear hc hf); obtain ⟨hc, hf⟩ := G.cells))
    go_ret
    exact ⟨by simp [*], ((Gr.refl _).alloc _).trans G⟩

end Go.Proofs.YtpdcgjkfilohcabGreat
