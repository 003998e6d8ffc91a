/-
  DERIVED. GIVEN WITH THE SEED: THE CARDS: each row of YtpdcgjkfilohcabGreatDoorRows.lean that lists a variable, with what it lists TIED to the program's text (the seventh form; the later family's looks); each row that meets fmt, with fmt's text TOLD by the authors' own Lean function (tested against real Go, not proved from fmt's source: count such statements apart). THE CARD IS WHAT COUNTS. Prove the row's statement (the work); the ties are given (YtpdcgjkfilohcabGreatDoorTie.lean); close each card by the builder's one call (the guide's Derived/Test/ToyasCard.lean, 'card_holds'). Laid BY PROGRAM, IN A SANDBOX (cutbox-door.mjs). By AI agents, Wed Nov 11 2026. No macro, syntax, notation, axiom, sorry.
-/
import Derived.Test.YtpdcgjkfilohcabGreatDoorRows
import GoSem.ClaimSeven
namespace Go.Proofs.YtpdcgjkfilohcabGreatDoor
namespace Rows

/-- THE TIED CARD OF 'laws.FnExactProbeFollow'. -/
def fnExactProbeFollowCard : Claim7 := { stood := { row := fnExactProbeFollowRow, standIns := [], harness := (true, "c9e71f71345e7edea7d0c59570b9048ce60a76fdc0cc3c5b87daeaf6861bf604"), looks := true }, kinds := [], alts := [], goes := true, laidByText := true, laidKinds := [.handle], laidTests := true, laidLooks := .later }
def FnExactProbeFollowCardSaid : Prop := Claim7.holds Tryz.pinned (.plain (OpenSpec.ofChange fnExactProbeFollowSpec)) fnExactProbeFollowCard

/-- THE TIED CARD OF 'laws.FnExactProbeSession'. -/
def fnExactProbeSessionCard : Claim7 := { stood := { row := fnExactProbeSessionRow, standIns := [], harness := (true, "c9e71f71345e7edea7d0c59570b9048ce60a76fdc0cc3c5b87daeaf6861bf604"), looks := true }, kinds := [], alts := [], goes := true, laidByText := true, laidKinds := [.data, .data, .data, .data, .handle, .sentinel, .sentinel, .pinned], laidTests := true, laidLooks := .later }
def FnExactProbeSessionCardSaid : Prop := Claim7.holds Tryz.pinned (.plain (OpenSpec.ofChange fnExactProbeSessionSpec)) fnExactProbeSessionCard

/-- THE SECOND FORM's CARD OF 'laws.FnExactProbeFollow'. -/
def fnExactProbeFollowUptoCard : Claim7 := { stood := { row := fnExactProbeFollowUptoRow, standIns := [], harness := (true, "c9e71f71345e7edea7d0c59570b9048ce60a76fdc0cc3c5b87daeaf6861bf604"), looks := true }, kinds := [], alts := [], goes := true, laidByText := true, laidKinds := [.handle], laidTests := true, laidLooks := .later }
def FnExactProbeFollowUptoCardSaid : Prop := Claim7.holds Tryz.pinned (.plain (OpenSpec.upto fnExactProbeFollowSpec)) fnExactProbeFollowUptoCard

/-- THE SECOND FORM's CARD OF 'laws.FnExactProbeSession'. -/
def fnExactProbeSessionUptoCard : Claim7 := { stood := { row := fnExactProbeSessionUptoRow, standIns := [], harness := (true, "c9e71f71345e7edea7d0c59570b9048ce60a76fdc0cc3c5b87daeaf6861bf604"), looks := true }, kinds := [], alts := [], goes := true, laidByText := true, laidKinds := [.data, .data, .data, .data, .handle, .sentinel, .sentinel, .pinned], laidTests := true, laidLooks := .later }
def FnExactProbeSessionUptoCardSaid : Prop := Claim7.holds Tryz.pinned (.plain (OpenSpec.upto fnExactProbeSessionSpec)) fnExactProbeSessionUptoCard
end Rows
end Go.Proofs.YtpdcgjkfilohcabGreatDoor
