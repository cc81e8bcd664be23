/-
  DERIVED. GIVEN WITH THE SEED: THE CARDS: each row of YtacilbilnbmcbaaGreatDoorRows.lean that lists a variable, with what it lists TIED to the program's text (the seventh form; the later family's looks); each row that meets fmt, with fmt's text TOLD by the authors' own Lean function (tested against real Go, not proved from fmt's source: count such statements apart). THE CARD IS WHAT COUNTS. Prove the row's statement (the work); the ties are given (YtacilbilnbmcbaaGreatDoorTie.lean); close each card by the builder's one call (the guide's Derived/Test/ToyasCard.lean, 'card_holds'). Laid BY PROGRAM, IN A SANDBOX (cutbox-door.mjs). By AI agents, Wed Nov 11 2026. No macro, syntax, notation, axiom, sorry.
-/
import Derived.Test.YtacilbilnbmcbaaGreatDoorRows
import GoSem.ClaimSeven
namespace Go.Proofs.YtacilbilnbmcbaaGreatDoor
namespace Rows

/-- THE TIED CARD OF 'laws.FnExactGrieved'. -/
def fnExactGrievedCard : Claim7 := { stood := { row := fnExactGrievedRow, standIns := [], harness := (true, "0e4dd7925150c1ec25a179df01822e8175382285041a9c81c47ce88994d6348d"), looks := true }, kinds := [], alts := [], laidByText := true, laidKinds := [.sentinel], laidTests := true, laidLooks := .later }
def FnExactGrievedCardSaid : Prop := Claim7.holds Tryz.pinned (.plain (OpenSpec.ofChange fnExactGrievedSpec)) fnExactGrievedCard

/-- THE TIED CARD OF 'laws.FnExactNilled'. -/
def fnExactNilledCard : Claim7 := { stood := { row := fnExactNilledRow, standIns := [], harness := (true, "0e4dd7925150c1ec25a179df01822e8175382285041a9c81c47ce88994d6348d"), looks := true }, kinds := [], alts := [], laidByText := true, laidKinds := [.handle, .sentinel, .sentinel], laidTests := true, laidLooks := .later }
def FnExactNilledCardSaid : Prop := Claim7.holds Tryz.pinned (.plain (OpenSpec.ofChange fnExactNilledSpec)) fnExactNilledCard

/-- THE SECOND FORM's CARD OF 'laws.FnExactGrieved'. -/
def fnExactGrievedUptoCard : Claim7 := { stood := { row := fnExactGrievedUptoRow, standIns := [], harness := (true, "0e4dd7925150c1ec25a179df01822e8175382285041a9c81c47ce88994d6348d"), looks := true }, kinds := [], alts := [], laidByText := true, laidKinds := [.sentinel], laidTests := true, laidLooks := .later }
def FnExactGrievedUptoCardSaid : Prop := Claim7.holds Tryz.pinned (.plain (OpenSpec.upto fnExactGrievedSpec)) fnExactGrievedUptoCard

/-- THE SECOND FORM's CARD OF 'laws.FnExactNilled'. -/
def fnExactNilledUptoCard : Claim7 := { stood := { row := fnExactNilledUptoRow, standIns := [], harness := (true, "0e4dd7925150c1ec25a179df01822e8175382285041a9c81c47ce88994d6348d"), looks := true }, kinds := [], alts := [], laidByText := true, laidKinds := [.handle, .sentinel, .sentinel], laidTests := true, laidLooks := .later }
def FnExactNilledUptoCardSaid : Prop := Claim7.holds Tryz.pinned (.plain (OpenSpec.upto fnExactNilledSpec)) fnExactNilledUptoCard
end Rows
end Go.Proofs.YtacilbilnbmcbaaGreatDoor
