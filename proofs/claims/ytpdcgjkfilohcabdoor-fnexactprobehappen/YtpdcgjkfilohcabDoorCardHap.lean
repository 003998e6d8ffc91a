import Derived.Test.YtpdcgjkfilohcabDoorRowHap
import Derived.Test.YtpdcgjkfilohcabDoorTie
import Derived.Test.YtpdcgjkfilohcabDoorCards
import Derived.SevenTiedAt
namespace Go.Proofs.YtpdcgjkfilohcabDoor
open Go

theorem happen_card : Rows.FnExactProbeHappenCardSaid :=
  Claim7.holds_tied_plain_at .later [] [.handle] true Rows.fnExactProbeHappenCard.stood.harness true
    happen_said (fun _ h => by cases h) (by kernel_rfl) (fun _ h => by cases h) fnExactProbeHappen_row_tie rfl ⟨rfl, rfl⟩ (by kernel_rfl) rfl
    (fun f fn hf hfn => by
      obtain rfl : f = 3 := Option.some.inj ((show Tryd.prog.funcNamed "loop.example/lapprobe/laws.FnExactProbeHappen" = some 3 by kernel_rfl).symm.trans hf) |>.symm
      obtain rfl : fn = Tryd.f3 := (Option.some.inj (Tryd.func3.symm.trans hfn)).symm
      exact ⟨by kernel_rfl, fun j t ht => by
        rw [Tryd.params3] at ht
        rcases j with _ | _ | j
        · obtain rfl : t = 22 := by simpa using ht.symm
          exact (show Tryd.prog.wantsStandIn 22 = false by kernel_rfl)
        · obtain rfl : t = 27 := by simpa using ht.symm
          exact (show Tryd.prog.wantsStandIn 27 = false by kernel_rfl)
        · simp at ht⟩)
    (by kernel_rfl)
#print axioms happen_card
end Go.Proofs.YtpdcgjkfilohcabDoor
