import Derived.Test.YtpdcgjkfilohcabGreatDoorBox
namespace Go.Proofs.YtpdcgjkfilohcabGreatDoor
open Go.RowKit

set_option maxHeartbeats 1000000 in
theorem implBoxOk_any (x y l h i o : Int) (w : World) :
    Calls Tryz.prog 114 #[.agg #[.int .i64 x, .int .i64 y, .int .i64 l, .int .i64 h, .int .i64 i, .int .i64 o]] w fun e w' => e = .returned (.bool (boxB x y l h i o)) ∧ Gr w w' := by
  rw [boxB_impl]
  rcases chain4 (lieB x x 0 15) (lieB y y 0 15) (lieB l h 0 6) (lieB i o 0 10000) with h1 | ⟨h1, h2⟩ | ⟨h1, h2, h3⟩ | ⟨h1, h2, h3, h4⟩ | ⟨h1, h2, h3, h4⟩
  all_goals
    have G := Gr.refl (w.alloc (.cells #[.int .i64 x, .int .i64 y, .int .i64 l, .int .i64 h, .int .i64 i, .int .i64 o] 102))
    go_enter Tryz.func114, Tryz.ntmps114
    go_wp2_with (first
      | (go_at_call 148; refine (sideOk_any _ _).mono ?_; rintro e w1 ⟨rfl, g1⟩; replace G := G.trans g1; clear g1; (try clear hc hf); obtain ⟨hc, hf⟩ := G.cells)
      | (go_at_call 149; refine (levelsOf_any _ _ _ _ _ _ _).mono ?_; rintro e w1 ⟨rfl, g1⟩; replace G := G.trans g1; clear g1; (try clear hc hf); obtain ⟨hc, hf⟩ := G.cells)
      | (go_at_call 150; refine (liesLevel_any _ _ _ _ _).mono ?_; rintro e w1 ⟨rfl, g1⟩; replace G := G.trans g1; clear g1; (try clear hc hf); obtain ⟨hc, hf⟩ := G.cells)
      | (go_at_call 151; refine (ticksOf_any _ _ _ _ _ _ _).mono ?_; rintro e w1 ⟨rfl, g1⟩; replace G := G.trans g1; clear g1; (try clear hc hf); obtain ⟨hc, hf⟩ := G.cells)
      | (go_at_call 152; refine (liesTick_any _ _ _ _ _).mono ?_; rintro e w1 ⟨rfl, g1⟩; replace G := G.trans g1; clear g1; (try clear hc hf); obtain ⟨hc, hf⟩ := G.cells))
    go_ret
    exact ⟨by simp [*], ((Gr.refl _).alloc _).trans G⟩

end Go.Proofs.YtpdcgjkfilohcabGreatDoor
