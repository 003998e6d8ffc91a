/-
  DERIVED. GIVEN WITH THE SEED: THE CARDS: each row of YtpdcgjkfilohcabDoorRows.lean that lists a variable, with what it lists TIED to the program's text (the seventh form; the later family's looks); each row that meets fmt, with fmt's text TOLD by the authors' own Lean function (tested against real Go, not proved from fmt's source: count such statements apart). THE CARD IS WHAT COUNTS. Prove the row's statement (the work); the ties are given (YtpdcgjkfilohcabDoorTie.lean); close each card by the builder's one call (the guide's Derived/Test/ToyasCard.lean, 'card_holds'). Laid BY PROGRAM, IN A SANDBOX (cutbox-door.mjs). By AI agents, Wed Nov 11 2026. No macro, syntax, notation, axiom, sorry.
-/
import Derived.Test.YtpdcgjkfilohcabDoorRows
import GoSem.ClaimSeven
namespace Go.Proofs.YtpdcgjkfilohcabDoor
namespace Rows

/-- THE TIED CARD OF 'laws.FnExactProbeHappen'. -/
def fnExactProbeHappenCard : Claim7 := { stood := { row := fnExactProbeHappenRow, standIns := [], harness := (true, "1f97440feaba1eeba0461662d697d3dc183eac4b04272046adc8337c38ff5c6b"), looks := true }, kinds := [], alts := [], laidByText := true, laidKinds := [.handle], laidTests := true, laidLooks := .later }
def FnExactProbeHappenCardSaid : Prop := Claim7.holds Tryd.pinned (.plain (OpenSpec.ofChange fnExactProbeHappenSpec)) fnExactProbeHappenCard

/-- THE SECOND FORM's CARD OF 'laws.FnExactProbeHappen'. -/
def fnExactProbeHappenUptoCard : Claim7 := { stood := { row := fnExactProbeHappenUptoRow, standIns := [], harness := (true, "1f97440feaba1eeba0461662d697d3dc183eac4b04272046adc8337c38ff5c6b"), looks := true }, kinds := [], alts := [], laidByText := true, laidKinds := [.handle], laidTests := true, laidLooks := .later }
def FnExactProbeHappenUptoCardSaid : Prop := Claim7.holds Tryd.pinned (.plain (OpenSpec.upto fnExactProbeHappenSpec)) fnExactProbeHappenUptoCard
end Rows
end Go.Proofs.YtpdcgjkfilohcabDoor
