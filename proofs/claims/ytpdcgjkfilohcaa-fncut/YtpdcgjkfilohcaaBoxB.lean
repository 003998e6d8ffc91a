import Derived.Test.YtpdcgjkfilohcaaBox
namespace Go.Proofs.Ytpdcgjkfilohcaa
open Go.RowKit

set_option maxHeartbeats 1000000 in
theorem implBoxOk_any (x y l h i o : Int) (w : World) :
    Calls Try.prog 25 #[.agg #[.int .i64 x, .int .i64 y, .int .i64 l, .int .i64 h, .int .i64 i, .int .i64 o]] w fun e w' => e = .returned (.bool (boxB x y l h i o)) ∧ Gr w w' := by
  rw [boxB_impl]
  rcases chain4 (lieB x x 0 15) (lieB y y 0 15) (lieB l h 0 6) (lieB i o 0 10000) with h1 | ⟨h1, h2⟩ | ⟨h1, h2, h3⟩ | ⟨h1, h2, h3, h4⟩ | ⟨h1, h2, h3, h4⟩
  all_goals
    have G := Gr.refl (w.alloc (.cells #[.int .i64 x, .int .i64 y, .int .i64 l, .int .i64 h, .int .i64 i, .int .i64 o] 36))
    go_enter Try.func25, Try.ntmps25
    go_wp2_with (first
      | (go_at_call 52; refine (sideOk_any _ _).mono ?_; rintro e w1 ⟨rfl, g1⟩; replace G := G.trans g1; clear g1; (try clear hc hf); obtain ⟨hc, hf⟩ := G.cells)
      | (go_at_call 53; refine (levelsOf_any _ _ _ _ _ _ _).mono ?_; rintro e w1 ⟨rfl, g1⟩; replace G := G.trans g1; clear g1; (try clear hc hf); obtain ⟨hc, hf⟩ := G.cells)
      | (go_at_call 54; refine (liesLevel_any _ _ _ _ _).mono ?_; rintro e w1 ⟨rfl, g1⟩; replace G := G.trans g1; clear g1; (try clear hc hf); obtain ⟨hc, hf⟩ := G.cells)
      | (go_at_call 55; refine (ticksOf_any _ _ _ _ _ _ _).mono ?_; rintro e w1 ⟨rfl, g1⟩; replace G := G.trans g1; clear g1; (try clear hc hf); obtain ⟨hc, hf⟩ := G.cells)
      | (go_at_call 56; refine (liesTick_any _ _ _ _ _).mono ?_; rintro e w1 ⟨rfl, g1⟩; replace G := G.trans g1; clear g1; (try clear hc hf); obtain ⟨hc, hf⟩ := G.cells))
    go_ret
    exact ⟨by simp [*], ((Gr.refl _).alloc _).trans G⟩

set_option maxHeartbeats 400000 in
theorem lawBoxOk_any (x y l h i o : Int) (w : World) :
    Calls Try.prog 5 #[.agg #[.int .i64 x, .int .i64 y, .int .i64 l, .int .i64 h, .int .i64 i, .int .i64 o]] w fun e w' => e = .returned (.bool true) ∧ Gr w w' := by
  have G := Gr.refl (w.alloc (.cells #[.int .i64 x, .int .i64 y, .int .i64 l, .int .i64 h, .int .i64 i, .int .i64 o] 43))
  go_enter Try.func5, Try.ntmps5
  go_wp2_with (first
    | (go_at_call 24; refine (toBox_any _ _ _ _ _ _ _).mono ?_; rintro e w1 ⟨rfl, g1⟩; replace G := G.trans g1; clear g1; (try clear hc hf); obtain ⟨hc, hf⟩ := G.cells)
    | (go_at_call 23; refine (specBoxOk_any _ _ _ _ _ _ _).mono ?_; rintro e w1 ⟨rfl, g1⟩; replace G := G.trans g1; clear g1; (try clear hc hf); obtain ⟨hc, hf⟩ := G.cells)
    | (go_at_call 25; refine (implBoxOk_any _ _ _ _ _ _ _).mono ?_; rintro e w1 ⟨rfl, g1⟩; replace G := G.trans g1; clear g1; (try clear hc hf); obtain ⟨hc, hf⟩ := G.cells))
  go_ret
  exact ⟨rfl, ((Gr.refl _).alloc _).trans G⟩

end Go.Proofs.Ytpdcgjkfilohcaa
