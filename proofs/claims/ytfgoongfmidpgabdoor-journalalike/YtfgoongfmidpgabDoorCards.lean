/-
  DERIVED. GIVEN WITH THE SEED: THE CARDS: each row of YtfgoongfmidpgabDoorRows.lean that lists a variable, with what it lists TIED to the program's text (the seventh form; the later family's looks); each row that meets fmt, with fmt's text TOLD by the authors' own Lean function (tested against real Go, not proved from fmt's source: count such statements apart). THE CARD IS WHAT COUNTS. Prove the row's statement (the work); the ties are given (YtfgoongfmidpgabDoorTie.lean); close each card by the builder's one call (the guide's Derived/Test/ToyasCard.lean, 'card_holds'). Laid BY PROGRAM, IN A SANDBOX (cutbox-door.mjs). By AI agents, Wed Nov 11 2026. No macro, syntax, notation, axiom, sorry.
-/
import Derived.Test.YtfgoongfmidpgabDoorRows
import GoSem.ClaimSeven
namespace Go.Proofs.YtfgoongfmidpgabDoor
namespace Rows

/-- THE TIED CARD OF 'cofferdamlaw09.JournalAlike'. -/
def journalAlikeCard : Claim7 := { stood := { row := journalAlikeRow, standIns := [], harness := (true, "f588ccab04c804e27ce2d8b23220c27c8aff79b6f3d704550d0aea41be86ee31"), looks := true }, kinds := [], alts := [], laidByText := true, laidKinds := [.data, .data], laidTests := true, laidLooks := .later }
def JournalAlikeCardSaid : Prop := Claim7.holds Tryd.pinned (.plain (OpenSpec.ofChange journalAlikeSpec)) journalAlikeCard

/-- THE TIED CARD OF 'cofferdamlaw09.JournalRoom'. -/
def journalRoomCard : Claim7 := { stood := { row := journalRoomRow, standIns := [], harness := (true, "f588ccab04c804e27ce2d8b23220c27c8aff79b6f3d704550d0aea41be86ee31"), looks := true }, kinds := [], alts := [], laidByText := true, laidKinds := [.data, .data], laidTests := true, laidLooks := .later }
def JournalRoomCardSaid : Prop := Claim7.holds Tryd.pinned (.plain (OpenSpec.ofChange journalRoomSpec)) journalRoomCard

/-- THE TIED CARD OF 'cofferdamlaw09.JournalReads'. -/
def journalReadsCard : Claim7 := { stood := { row := journalReadsRow, standIns := [], harness := (true, "f588ccab04c804e27ce2d8b23220c27c8aff79b6f3d704550d0aea41be86ee31"), looks := true }, kinds := [], alts := [], laidByText := true, laidKinds := [.data, .data], laidTests := true, laidLooks := .later }
def JournalReadsCardSaid : Prop := Claim7.holds Tryd.pinned (.plain (OpenSpec.ofChange journalReadsSpec)) journalReadsCard

/-- THE SECOND FORM's CARD OF 'cofferdamlaw09.JournalAlike'. -/
def journalAlikeUptoCard : Claim7 := { stood := { row := journalAlikeUptoRow, standIns := [], harness := (true, "f588ccab04c804e27ce2d8b23220c27c8aff79b6f3d704550d0aea41be86ee31"), looks := true }, kinds := [], alts := [], laidByText := true, laidKinds := [.data, .data], laidTests := true, laidLooks := .later }
def JournalAlikeUptoCardSaid : Prop := Claim7.holds Tryd.pinned (.plain (OpenSpec.upto journalAlikeSpec)) journalAlikeUptoCard

/-- THE SECOND FORM's CARD OF 'cofferdamlaw09.JournalRoom'. -/
def journalRoomUptoCard : Claim7 := { stood := { row := journalRoomUptoRow, standIns := [], harness := (true, "f588ccab04c804e27ce2d8b23220c27c8aff79b6f3d704550d0aea41be86ee31"), looks := true }, kinds := [], alts := [], laidByText := true, laidKinds := [.data, .data], laidTests := true, laidLooks := .later }
def JournalRoomUptoCardSaid : Prop := Claim7.holds Tryd.pinned (.plain (OpenSpec.upto journalRoomSpec)) journalRoomUptoCard

/-- THE SECOND FORM's CARD OF 'cofferdamlaw09.JournalReads'. -/
def journalReadsUptoCard : Claim7 := { stood := { row := journalReadsUptoRow, standIns := [], harness := (true, "f588ccab04c804e27ce2d8b23220c27c8aff79b6f3d704550d0aea41be86ee31"), looks := true }, kinds := [], alts := [], laidByText := true, laidKinds := [.data, .data], laidTests := true, laidLooks := .later }
def JournalReadsUptoCardSaid : Prop := Claim7.holds Tryd.pinned (.plain (OpenSpec.upto journalReadsSpec)) journalReadsUptoCard
end Rows
end Go.Proofs.YtfgoongfmidpgabDoor
