import Derived.Test.YtpdcgjkfilohcabGreatDoorSaidA
namespace Go.Proofs.YtpdcgjkfilohcabGreatDoor
open Go.ChangeShapes Go.WideShapes Go.ChangeAt Go.RowKit Go.Joins

set_option maxRecDepth 100000 in
theorem fol_facts : joinedFacts Tryz.prog 3 Tryz.f3 Rows.fnExactProbeFollowSpec Rows.fnExactProbeFollowRow = true := by
  unfold joinedFacts
  with_reducible exact (and_t (and_t (and_t (and_t (and_t (and_t (and_t (and_t (and_t (and_t (and_t (and_t (and_t (and_t (and_t (and_t (and_t (and_t (and_t (and_t (and_t (and_t (and_t (and_t (and_t (and_t (and_t (and_t (and_t (and_t (and_t fol_k1 fol_k2) fol_k3) fol_k4) fol_k5) (by kernel_rfl)) (by kernel_rfl)) (by kernel_rfl)) (by kernel_rfl)) fol_k10) fol_k11) fol_k12) fol_k13) fol_k14) fol_k15) (by kernel_rfl)) fol_k17) fol_k18) fol_k19) (by kernel_rfl)) (by kernel_rfl)) (by kernel_rfl)) fol_k23) (by kernel_rfl)) fol_k25) fol_k26) fol_k27) fol_k28) (by kernel_rfl)) (by kernel_rfl)) fol_k31) fol_k32)
theorem fol_named : Tryz.prog.funcNamed Rows.fnExactProbeFollowRow.func = some 3 := by kernel_rfl
theorem follow_said : Rows.FnExactProbeFollowSaid :=
  OpenClaim.holds_of_wide 3 Tryz.f3 rfl rfl rfl rfl rfl rfl rfl ⟨rfl, rfl, rfl, rfl, rfl⟩ rfl rfl rfl rfl rfl fol_named Tryz.func3 fol_facts
    (of_decide_eq_true (by kernel_rfl)) (by unfold Func.isWrapper; first | (rw [if_pos (by decide +kernel)]; kernel_rfl) | (rw [if_neg (by decide +kernel)]; exact ⟨rfl, rfl⟩))
    (fun os started H enc _ => follow_lifted os started H enc)
#print axioms follow_said
end Go.Proofs.YtpdcgjkfilohcabGreatDoor
