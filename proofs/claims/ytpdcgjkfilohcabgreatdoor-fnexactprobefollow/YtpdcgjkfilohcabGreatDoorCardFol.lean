import Derived.Test.YtpdcgjkfilohcabGreatDoorSaidFol
import Derived.Test.YtpdcgjkfilohcabGreatDoorTie
import Derived.Test.YtpdcgjkfilohcabGreatDoorCards
import Derived.SevenTiedAt
namespace Go.Proofs.YtpdcgjkfilohcabGreatDoor
open Go

theorem follow_card : Rows.FnExactProbeFollowCardSaid := by
  have hl : ∀ f fn, Tryz.prog.funcNamed "loop.example/lapprobe/laws.FnExactProbeFollow" = some f → Tryz.prog.funcs[f]? = some fn → true = Tryz.prog.looks [] ∧ ∀ (j : Nat) t, fn.params[j]? = some t → Tryz.prog.wantsStandIn t = false := fun f fn hf hfn => by
    obtain rfl : f = 3 := Option.some.inj ((show Tryz.prog.funcNamed "loop.example/lapprobe/laws.FnExactProbeFollow" = some 3 by kernel_rfl).symm.trans hf) |>.symm
    obtain rfl : fn = Tryz.f3 := (Option.some.inj (Tryz.func3.symm.trans hfn)).symm
    exact ⟨by kernel_rfl, fun j t ht => by
      rw [Tryz.params3] at ht
      rcases j with _ | _ | _ | j
      · obtain rfl : t = 24 := by simpa using ht.symm
        exact (show Tryz.prog.wantsStandIn 24 = false by kernel_rfl)
      · obtain rfl : t = 25 := by simpa using ht.symm
        exact (show Tryz.prog.wantsStandIn 25 = false by kernel_rfl)
      · obtain rfl : t = 30 := by simpa using ht.symm
        exact (show Tryz.prog.wantsStandIn 30 = false by kernel_rfl)
      · simp at ht⟩
  exact ⟨Claim7.tied_new_at .later [.handle] true (Claim7.new_of_sixth follow_said Rows.fnExactProbeFollowCard.stood.harness true rfl ⟨rfl, rfl⟩ (by kernel_rfl) rfl hl) (by kernel_rfl), (fun D hD => by cases hD), fnExactProbeFollow_row_tie, (fun h => by cases h), by kernel_rfl⟩
#print axioms follow_card
end Go.Proofs.YtpdcgjkfilohcabGreatDoor
