/-
  DERIVED. GIVEN WITH THE SEED: THE CARDS: each row of YtocidankimefpaaGreatDoorRows.lean that lists a variable, with what it lists TIED to the program's text (the seventh form; the later family's looks); each row that meets fmt, with fmt's text TOLD by the authors' own Lean function (tested against real Go, not proved from fmt's source: count such statements apart). THE CARD IS WHAT COUNTS. Prove the row's statement (the work); the ties are given (YtocidankimefpaaGreatDoorTie.lean); close each card by the builder's one call (the guide's Derived/Test/ToyasCard.lean, 'card_holds'). Laid BY PROGRAM, IN A SANDBOX (cutbox-door.mjs). By AI agents, Wed Nov 11 2026. No macro, syntax, notation, axiom, sorry.
-/
import Derived.Test.YtocidankimefpaaGreatDoorRows
import GoSem.ClaimSeven
namespace Go.Proofs.YtocidankimefpaaGreatDoor
namespace Rows

/-- THE TIED CARD OF 'laws.FnExactGrieved'. -/
def fnExactGrievedCard : Claim7 := { stood := { row := fnExactGrievedRow, standIns := [], harness := (true, "7471e579ddbc6be097442a5d3f289e07b538a14968739701321b98ca5ac7f45d"), looks := true }, kinds := [], alts := [], laidByText := true, laidKinds := [.sentinel], laidTests := true, laidLooks := .later }
def FnExactGrievedCardSaid : Prop := Claim7.holds Tryz.pinned (.plain (OpenSpec.ofChange fnExactGrievedSpec)) fnExactGrievedCard

/-- THE TIED CARD OF 'laws.FnExactSwept'. -/
def fnExactSweptCard : Claim7 := { stood := { row := fnExactSweptRow, standIns := [], harness := (true, "7471e579ddbc6be097442a5d3f289e07b538a14968739701321b98ca5ac7f45d"), looks := true }, kinds := [], alts := [], laidByText := true, laidKinds := [.sentinel], laidTests := true, laidLooks := .later }
def FnExactSweptCardSaid : Prop := Claim7.holds Tryz.pinned (.plain (OpenSpec.ofChange fnExactSweptSpec)) fnExactSweptCard

/-- THE SECOND FORM's CARD OF 'laws.FnExactGrieved'. -/
def fnExactGrievedUptoCard : Claim7 := { stood := { row := fnExactGrievedUptoRow, standIns := [], harness := (true, "7471e579ddbc6be097442a5d3f289e07b538a14968739701321b98ca5ac7f45d"), looks := true }, kinds := [], alts := [], laidByText := true, laidKinds := [.sentinel], laidTests := true, laidLooks := .later }
def FnExactGrievedUptoCardSaid : Prop := Claim7.holds Tryz.pinned (.plain (OpenSpec.upto fnExactGrievedSpec)) fnExactGrievedUptoCard

/-- THE SECOND FORM's CARD OF 'laws.FnExactSwept'. -/
def fnExactSweptUptoCard : Claim7 := { stood := { row := fnExactSweptUptoRow, standIns := [], harness := (true, "7471e579ddbc6be097442a5d3f289e07b538a14968739701321b98ca5ac7f45d"), looks := true }, kinds := [], alts := [], laidByText := true, laidKinds := [.sentinel], laidTests := true, laidLooks := .later }
def FnExactSweptUptoCardSaid : Prop := Claim7.holds Tryz.pinned (.plain (OpenSpec.upto fnExactSweptSpec)) fnExactSweptUptoCard
end Rows
end Go.Proofs.YtocidankimefpaaGreatDoor
