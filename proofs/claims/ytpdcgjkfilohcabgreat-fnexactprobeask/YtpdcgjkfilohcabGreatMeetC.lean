import Derived.Test.YtpdcgjkfilohcabGreatMeetAB
namespace Go.Proofs.YtpdcgjkfilohcabGreat
open Go.RowKit
attribute [local go_sem ↓] Go.wp_at_zero Go.wp_at_succ

theorem eqClash_same (s t : ByteArray) (x y z : Int) (w : World) : Calls Tryz.prog 38 #[.agg #[.string s, .string t, .int .i64 x, .int .i64 y, .int .i64 z], .agg #[.string s, .string t, .int .i64 x, .int .i64 y, .int .i64 z]] w fun e w' => e = .returned (.bool true) ∧ Gr w w' := by
  go_enter Tryz.func38, Tryz.ntmps38
  go_wp2
  go_ret
  exact ⟨rfl, ((Gr.refl _).alloc _).alloc _⟩

end Go.Proofs.YtpdcgjkfilohcabGreat
