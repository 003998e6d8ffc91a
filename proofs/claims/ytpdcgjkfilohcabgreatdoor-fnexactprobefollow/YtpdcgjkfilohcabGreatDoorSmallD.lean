import Derived.Test.YtpdcgjkfilohcabGreatDoorSmallC
import Derived.Test.YtpdcgjkfilohcabGreatDoorLawTubeOk
namespace Go.Proofs.YtpdcgjkfilohcabGreatDoor
open Go.RowKit
attribute [local go_sem ↓] Go.wp_at_zero Go.wp_at_succ

theorem field71 (W : World) (s : ByteArray) (v : Value) (hv : ∃ a n c, v = .slice a n c) : (Instr.field 234 (.agg #[.string s, v]) 1).run Tryz.prog W = .ok v W := by
  obtain ⟨a, n, c, rfl⟩ := hv
  kernel_rfl

end Go.Proofs.YtpdcgjkfilohcabGreatDoor
