import Derived.Test.YtpdcgjkfilohcabGreatDoorRowFol
namespace Go.Proofs.YtpdcgjkfilohcabGreatDoor
open Go.ChangeShapes Go.WideShapes Go.ChangeAt Go.RowKit Go.Joins

/-! The row's facts, one a theorem: together they want more memory than the kernel is given. -/

theorem and_t {a b : Bool} (ha : a = true) (hb : b = true) : (a && b) = true := by rw [ha, hb]; rfl
theorem fol_k1 : (Rows.fnExactProbeFollowRow.wf (OpenSpec.ofChange Rows.fnExactProbeFollowSpec)) = true := by kernel_rfl
theorem fol_k2 : (laidOutB Tryz.prog) = true := by kernel_rfl
theorem fol_k3 : (mapsRowed Tryz.prog) = true := by kernel_rfl
theorem fol_k4 : (Tryz.f3.params.all (Tryz.prog.readableRec ·)) = true := by kernel_rfl
theorem fol_k5 : (namedTie Tryz.prog Rows.fnExactProbeFollowRow.named Rows.fnExactProbeFollowSpec.vars) = true := by kernel_rfl
theorem fol_k6 : ((Rows.fnExactProbeFollowRow.stops == [])) = true := by kernel_rfl
theorem fol_k7 : ((Tryz.prog.stops == [])) = true := by kernel_rfl
theorem fol_k8 : ((Rows.fnExactProbeFollowRow.knobs == [])) = true := by kernel_rfl
theorem fol_k9 : ((Tryz.prog.stopKnobs == [])) = true := by kernel_rfl
theorem fol_k10 : ((Rows.fnExactProbeFollowRow.inPlace == Tryz.prog.inPlace 3)) = true := by kernel_rfl
theorem fol_k11 : ((Rows.fnExactProbeFollowRow.unfollowed == Tryz.prog.unfollowed 3)) = true := by kernel_rfl
theorem fol_k12 : ((Rows.fnExactProbeFollowRow.recurses == Tryz.prog.recurses 3)) = true := by kernel_rfl
theorem fol_k13 : ((Rows.fnExactProbeFollowRow.named == Tryz.prog.varsNamed 3)) = true := by kernel_rfl
theorem fol_k14 : ((Rows.fnExactProbeFollowRow.maps == (Tryz.f3.params.toList ++ Rows.fnExactProbeFollowSpec.plain.varTypes Tryz.prog).any (Tryz.prog.mapsRec ·))) = true := by kernel_rfl
theorem fol_k15 : ((Rows.fnExactProbeFollowRow.ifaces == (Tryz.f3.params.toList ++ Rows.fnExactProbeFollowSpec.plain.varTypes Tryz.prog).any (Tryz.prog.ifacesRec ·))) = true := by kernel_rfl
theorem fol_k16 : ((Rows.fnExactProbeFollowRow.mapsOut == Tryz.prog.mapsAmong Tryz.f3.resultTypes.toList)) = true := by kernel_rfl
theorem fol_k17 : ((Rows.fnExactProbeFollowRow.loops == (Tryz.f3.params.toList ++ Rows.fnExactProbeFollowSpec.plain.varTypes Tryz.prog).any (Tryz.prog.loopsFrom ·))) = true := by kernel_rfl
theorem fol_k18 : ((Rows.fnExactProbeFollowRow.wideKeys == (Tryz.f3.params.toList ++ Rows.fnExactProbeFollowSpec.plain.varTypes Tryz.prog ++ Tryz.f3.resultTypes.toList).any (Tryz.prog.wideKeysFrom ·))) = true := by kernel_rfl
theorem fol_k19 : (Rows.fnExactProbeFollowSpec.vars.all (Tryz.prog.varReadable ·)) = true := by kernel_rfl
theorem fol_k20 : (Tryz.f3.resultTypes.all (fun t => Tryz.prog.readableRec t && decide (t < Tryz.prog.types.size))) = true := by kernel_rfl
theorem fol_k21 : ((Rows.fnExactProbeFollowRow.ifacesOut == Tryz.f3.resultTypes.toList.any (Tryz.prog.ifacesRec ·))) = true := by kernel_rfl
theorem fol_k22 : ((Rows.fnExactProbeFollowRow.loopsOut == Tryz.f3.resultTypes.toList.any (Tryz.prog.loopsFrom ·))) = true := by kernel_rfl
theorem fol_k23 : ((Rows.fnExactProbeFollowRow.plainKeys == Tryz.prog.plainKeys)) = true := by kernel_rfl
theorem fol_k24 : (Rows.fnExactProbeFollowRow.shortTexts.isNone) = true := by kernel_rfl
theorem fol_k25 : (Tryz.prog.stopsHeard) = true := by kernel_rfl
theorem fol_k26 : (Tryz.prog.mayEnter) = true := by kernel_rfl
theorem fol_k27 : ((Rows.fnExactProbeFollowRow.lifted == Tryz.prog.liftsFinal)) = true := by kernel_rfl
theorem fol_k28 : ((Tryz.prog.make == some Rows.fnExactProbeFollowRow.make)) = true := by kernel_rfl
theorem fol_k29 : ((Rows.fnExactProbeFollowRow.kinds == (if Rows.fnExactProbeFollowRow.domain.isEmpty then [] else Tryz.f3.params.toList.map fun t => match Tryz.prog.underlying t with | some (.int k) => some k | _ => none))) = true := by kernel_rfl
theorem fol_k30 : ((Rows.fnExactProbeFollowRow.pinned == Rows.fnExactProbeFollowRow.pinnedBy)) = true := by kernel_rfl
theorem fol_k31 : ((Rows.fnExactProbeFollowRow.veiled == (Tryz.f3.params.toList ++ Rows.fnExactProbeFollowSpec.plain.varTypes Tryz.prog ++ Tryz.f3.resultTypes.toList).any (Tryz.prog.veiledRec ·))) = true := by kernel_rfl
theorem fol_k32 : (Rows.fnExactProbeFollowRow.veiledFits Tryz.prog Tryz.f3.params.toList (Tryz.f3.params.toList ++ Rows.fnExactProbeFollowSpec.plain.varTypes Tryz.prog ++ Tryz.f3.resultTypes.toList)) = true := by kernel_rfl
end Go.Proofs.YtpdcgjkfilohcabGreatDoor
