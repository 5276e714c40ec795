/-
  DERIVED. GIVEN WITH THE SEED: THE CARDS: each row of YtebcfkigbbolaaaGreatDoorRows.lean that lists a variable, with what it lists TIED to the program's text (the seventh form; the later family's looks); each row that meets fmt, with fmt's text TOLD by the authors' own Lean function (tested against real Go, not proved from fmt's source: count such statements apart). THE CARD IS WHAT COUNTS. Prove the row's statement (the work); the ties are given (YtebcfkigbbolaaaGreatDoorTie.lean); close each card by the builder's one call (the guide's Derived/Test/ToyasCard.lean, 'card_holds'). Laid BY PROGRAM, IN A SANDBOX (cutbox-door.mjs). By AI agents, Wed Nov 11 2026. No macro, syntax, notation, axiom, sorry.
-/
import Derived.Test.YtebcfkigbbolaaaGreatDoorRows
import GoSem.ClaimSeven
namespace Go.Proofs.YtebcfkigbbolaaaGreatDoor
namespace Rows

/-- THE TIED CARD OF 'cofferdamlaw13.CheckStacks'. -/
def checkStacksCard : Claim7 := { stood := { row := checkStacksRow, standIns := [], harness := (true, "ab68a453df16e997179bf99a9a36ba81a63b730b6315a851b8d430a8c90f87c7"), looks := true }, kinds := [], alts := [], laidByText := true, laidKinds := [.data, .data, .data, .sentinel, .sentinel], laidTests := true, laidLooks := .later }
def CheckStacksCardSaid : Prop := Claim7.holds Tryz.pinned (.plain (OpenSpec.ofChange checkStacksSpec)) checkStacksCard

/-- THE TIED CARD OF 'cofferdamlaw13.CheckRegions'. -/
def checkRegionsCard : Claim7 := { stood := { row := checkRegionsRow, standIns := [], harness := (true, "ab68a453df16e997179bf99a9a36ba81a63b730b6315a851b8d430a8c90f87c7"), looks := true }, kinds := [], alts := [], laidByText := true, laidKinds := [.data, .data, .data, .sentinel, .sentinel], laidTests := true, laidLooks := .later }
def CheckRegionsCardSaid : Prop := Claim7.holds Tryz.pinned (.plain (OpenSpec.ofChange checkRegionsSpec)) checkRegionsCard

/-- THE TIED CARD OF 'cofferdamlaw13.CheckWhole'. -/
def checkWholeCard : Claim7 := { stood := { row := checkWholeRow, standIns := [], harness := (true, "ab68a453df16e997179bf99a9a36ba81a63b730b6315a851b8d430a8c90f87c7"), looks := true }, kinds := [], alts := [], laidByText := true, laidKinds := [.data, .data, .data, .sentinel, .sentinel], laidTests := true, laidLooks := .later }
def CheckWholeCardSaid : Prop := Claim7.holds Tryz.pinned (.plain (OpenSpec.ofChange checkWholeSpec)) checkWholeCard

/-- THE TIED CARD OF 'cofferdamlaw13.CheckPrinted'. -/
def checkPrintedCard : Claim7 := { stood := { row := checkPrintedRow, standIns := [], harness := (true, "ab68a453df16e997179bf99a9a36ba81a63b730b6315a851b8d430a8c90f87c7"), looks := true }, kinds := [], alts := [], laidByText := true, laidKinds := [.data, .data, .data, .sentinel, .sentinel], laidTests := true, laidLooks := .later }
def CheckPrintedCardSaid : Prop := Claim7.holds Tryz.pinned (.plain (OpenSpec.ofChange checkPrintedSpec)) checkPrintedCard

/-- THE TIED CARD OF 'cofferdamlaw13.CheckMore'. -/
def checkMoreCard : Claim7 := { stood := { row := checkMoreRow, standIns := [], harness := (true, "ab68a453df16e997179bf99a9a36ba81a63b730b6315a851b8d430a8c90f87c7"), looks := true }, kinds := [], alts := [], laidByText := true, laidKinds := [.data, .data, .data, .sentinel, .sentinel], laidTests := true, laidLooks := .later }
def CheckMoreCardSaid : Prop := Claim7.holds Tryz.pinned (.plain (OpenSpec.ofChange checkMoreSpec)) checkMoreCard

/-- THE TIED CARD OF 'cofferdamlaw13.CheckNames'. -/
def checkNamesCard : Claim7 := { stood := { row := checkNamesRow, standIns := [], harness := (true, "ab68a453df16e997179bf99a9a36ba81a63b730b6315a851b8d430a8c90f87c7"), looks := true }, kinds := [], alts := [], laidByText := true, laidKinds := [.data, .data, .data, .sentinel, .sentinel], laidTests := true, laidLooks := .later }
def CheckNamesCardSaid : Prop := Claim7.holds Tryz.pinned (.plain (OpenSpec.ofChange checkNamesSpec)) checkNamesCard

/-- THE SECOND FORM's CARD OF 'cofferdamlaw13.CheckStacks'. -/
def checkStacksUptoCard : Claim7 := { stood := { row := checkStacksUptoRow, standIns := [], harness := (true, "ab68a453df16e997179bf99a9a36ba81a63b730b6315a851b8d430a8c90f87c7"), looks := true }, kinds := [], alts := [], laidByText := true, laidKinds := [.data, .data, .data, .sentinel, .sentinel], laidTests := true, laidLooks := .later }
def CheckStacksUptoCardSaid : Prop := Claim7.holds Tryz.pinned (.plain (OpenSpec.upto checkStacksSpec)) checkStacksUptoCard

/-- THE SECOND FORM's CARD OF 'cofferdamlaw13.CheckRegions'. -/
def checkRegionsUptoCard : Claim7 := { stood := { row := checkRegionsUptoRow, standIns := [], harness := (true, "ab68a453df16e997179bf99a9a36ba81a63b730b6315a851b8d430a8c90f87c7"), looks := true }, kinds := [], alts := [], laidByText := true, laidKinds := [.data, .data, .data, .sentinel, .sentinel], laidTests := true, laidLooks := .later }
def CheckRegionsUptoCardSaid : Prop := Claim7.holds Tryz.pinned (.plain (OpenSpec.upto checkRegionsSpec)) checkRegionsUptoCard

/-- THE SECOND FORM's CARD OF 'cofferdamlaw13.CheckWhole'. -/
def checkWholeUptoCard : Claim7 := { stood := { row := checkWholeUptoRow, standIns := [], harness := (true, "ab68a453df16e997179bf99a9a36ba81a63b730b6315a851b8d430a8c90f87c7"), looks := true }, kinds := [], alts := [], laidByText := true, laidKinds := [.data, .data, .data, .sentinel, .sentinel], laidTests := true, laidLooks := .later }
def CheckWholeUptoCardSaid : Prop := Claim7.holds Tryz.pinned (.plain (OpenSpec.upto checkWholeSpec)) checkWholeUptoCard

/-- THE SECOND FORM's CARD OF 'cofferdamlaw13.CheckPrinted'. -/
def checkPrintedUptoCard : Claim7 := { stood := { row := checkPrintedUptoRow, standIns := [], harness := (true, "ab68a453df16e997179bf99a9a36ba81a63b730b6315a851b8d430a8c90f87c7"), looks := true }, kinds := [], alts := [], laidByText := true, laidKinds := [.data, .data, .data, .sentinel, .sentinel], laidTests := true, laidLooks := .later }
def CheckPrintedUptoCardSaid : Prop := Claim7.holds Tryz.pinned (.plain (OpenSpec.upto checkPrintedSpec)) checkPrintedUptoCard

/-- THE SECOND FORM's CARD OF 'cofferdamlaw13.CheckMore'. -/
def checkMoreUptoCard : Claim7 := { stood := { row := checkMoreUptoRow, standIns := [], harness := (true, "ab68a453df16e997179bf99a9a36ba81a63b730b6315a851b8d430a8c90f87c7"), looks := true }, kinds := [], alts := [], laidByText := true, laidKinds := [.data, .data, .data, .sentinel, .sentinel], laidTests := true, laidLooks := .later }
def CheckMoreUptoCardSaid : Prop := Claim7.holds Tryz.pinned (.plain (OpenSpec.upto checkMoreSpec)) checkMoreUptoCard

/-- THE SECOND FORM's CARD OF 'cofferdamlaw13.CheckNames'. -/
def checkNamesUptoCard : Claim7 := { stood := { row := checkNamesUptoRow, standIns := [], harness := (true, "ab68a453df16e997179bf99a9a36ba81a63b730b6315a851b8d430a8c90f87c7"), looks := true }, kinds := [], alts := [], laidByText := true, laidKinds := [.data, .data, .data, .sentinel, .sentinel], laidTests := true, laidLooks := .later }
def CheckNamesUptoCardSaid : Prop := Claim7.holds Tryz.pinned (.plain (OpenSpec.upto checkNamesSpec)) checkNamesUptoCard
end Rows
end Go.Proofs.YtebcfkigbbolaaaGreatDoor
