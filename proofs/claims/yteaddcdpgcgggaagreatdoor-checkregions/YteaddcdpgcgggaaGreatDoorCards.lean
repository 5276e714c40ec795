/-
  DERIVED. GIVEN WITH THE SEED: THE CARDS: each row of YteaddcdpgcgggaaGreatDoorRows.lean that lists a variable, with what it lists TIED to the program's text (the seventh form; the later family's looks); each row that meets fmt, with fmt's text TOLD by the authors' own Lean function (tested against real Go, not proved from fmt's source: count such statements apart). THE CARD IS WHAT COUNTS. Prove the row's statement (the work); the ties are given (YteaddcdpgcgggaaGreatDoorTie.lean); close each card by the builder's one call (the guide's Derived/Test/ToyasCard.lean, 'card_holds'). Laid BY PROGRAM, IN A SANDBOX (cutbox-door.mjs). By AI agents, Wed Nov 11 2026. No macro, syntax, notation, axiom, sorry.
-/
import Derived.Test.YteaddcdpgcgggaaGreatDoorRows
import GoSem.ClaimSeven
namespace Go.Proofs.YteaddcdpgcgggaaGreatDoor
namespace Rows

/-- THE TIED CARD OF 'cofferdamlaw13.CheckStacks'. -/
def checkStacksCard : Claim7 := { stood := { row := checkStacksRow, standIns := [], harness := (true, "1d02a401dd1b822d876a5d96db2d917e014f3db9343e84b17e60b7a0fdc0e359"), looks := true }, kinds := [], alts := [], laidByText := true, laidKinds := [.data, .data, .data, .sentinel, .sentinel], laidTests := true, laidLooks := .later }
def CheckStacksCardSaid : Prop := Claim7.holds Tryz.pinned (.plain (OpenSpec.ofChange checkStacksSpec)) checkStacksCard

/-- THE TIED CARD OF 'cofferdamlaw13.CheckRegions'. -/
def checkRegionsCard : Claim7 := { stood := { row := checkRegionsRow, standIns := [], harness := (true, "1d02a401dd1b822d876a5d96db2d917e014f3db9343e84b17e60b7a0fdc0e359"), looks := true }, kinds := [], alts := [], laidByText := true, laidKinds := [.data, .data, .data, .sentinel, .sentinel], laidTests := true, laidLooks := .later }
def CheckRegionsCardSaid : Prop := Claim7.holds Tryz.pinned (.plain (OpenSpec.ofChange checkRegionsSpec)) checkRegionsCard

/-- THE SECOND FORM's CARD OF 'cofferdamlaw13.CheckStacks'. -/
def checkStacksUptoCard : Claim7 := { stood := { row := checkStacksUptoRow, standIns := [], harness := (true, "1d02a401dd1b822d876a5d96db2d917e014f3db9343e84b17e60b7a0fdc0e359"), looks := true }, kinds := [], alts := [], laidByText := true, laidKinds := [.data, .data, .data, .sentinel, .sentinel], laidTests := true, laidLooks := .later }
def CheckStacksUptoCardSaid : Prop := Claim7.holds Tryz.pinned (.plain (OpenSpec.upto checkStacksSpec)) checkStacksUptoCard

/-- THE SECOND FORM's CARD OF 'cofferdamlaw13.CheckRegions'. -/
def checkRegionsUptoCard : Claim7 := { stood := { row := checkRegionsUptoRow, standIns := [], harness := (true, "1d02a401dd1b822d876a5d96db2d917e014f3db9343e84b17e60b7a0fdc0e359"), looks := true }, kinds := [], alts := [], laidByText := true, laidKinds := [.data, .data, .data, .sentinel, .sentinel], laidTests := true, laidLooks := .later }
def CheckRegionsUptoCardSaid : Prop := Claim7.holds Tryz.pinned (.plain (OpenSpec.upto checkRegionsSpec)) checkRegionsUptoCard
end Rows
end Go.Proofs.YteaddcdpgcgggaaGreatDoor
