/-
  DERIVED. GIVEN WITH THE SEED: THE CARDS: each row of YtoeanaadlihkeaaDoorRows.lean that lists a variable, with what it lists TIED to the program's text (the seventh form; the later family's looks); each row that meets fmt, with fmt's text TOLD by the authors' own Lean function (tested against real Go, not proved from fmt's source: count such statements apart). THE CARD IS WHAT COUNTS. Prove the row's statement (the work); the ties are given (YtoeanaadlihkeaaDoorTie.lean); close each card by the builder's one call (the guide's Derived/Test/ToyasCard.lean, 'card_holds'). Laid BY PROGRAM, IN A SANDBOX (cutbox-door.mjs). By AI agents, Wed Nov 11 2026. No macro, syntax, notation, axiom, sorry.
-/
import Derived.Test.YtoeanaadlihkeaaDoorRows
import GoSem.ClaimSeven
namespace Go.Proofs.YtoeanaadlihkeaaDoor
namespace Rows

/-- THE TIED CARD OF 'cofferdamlaw06.MerklePlaces'. -/
def merklePlacesCard : Claim7 := { stood := { row := merklePlacesRow, standIns := [], harness := (true, "98df819277548ca7f156285bc8c802ab723cf884ed820a995628667a0c7f612b"), looks := false }, kinds := [], alts := [], laidByText := true, laidKinds := [.data, .data], laidTests := true, laidLooks := .later }
def MerklePlacesCardSaid : Prop := Claim7.holds Tryd.pinned (.plain (OpenSpec.ofChange merklePlacesSpec)) merklePlacesCard

/-- THE TIED CARD OF 'cofferdamlaw06.MerkleTrees'. -/
def merkleTreesCard : Claim7 := { stood := { row := merkleTreesRow, standIns := [], harness := (true, "98df819277548ca7f156285bc8c802ab723cf884ed820a995628667a0c7f612b"), looks := false }, kinds := [], alts := [], laidByText := true, laidKinds := [.data, .data], laidTests := true, laidLooks := .later }
def MerkleTreesCardSaid : Prop := Claim7.holds Tryd.pinned (.plain (OpenSpec.ofChange merkleTreesSpec)) merkleTreesCard

/-- THE TIED CARD OF 'cofferdamlaw06.MerkleChecks'. -/
def merkleChecksCard : Claim7 := { stood := { row := merkleChecksRow, standIns := [], harness := (true, "98df819277548ca7f156285bc8c802ab723cf884ed820a995628667a0c7f612b"), looks := false }, kinds := [], alts := [], laidByText := true, laidKinds := [.data, .data], laidTests := true, laidLooks := .later }
def MerkleChecksCardSaid : Prop := Claim7.holds Tryd.pinned (.plain (OpenSpec.ofChange merkleChecksSpec)) merkleChecksCard

/-- THE TIED CARD OF 'cofferdamlaw06.MerkleOwn'. -/
def merkleOwnCard : Claim7 := { stood := { row := merkleOwnRow, standIns := [], harness := (true, "98df819277548ca7f156285bc8c802ab723cf884ed820a995628667a0c7f612b"), looks := false }, kinds := [], alts := [], laidByText := true, laidKinds := [.data, .data], laidTests := true, laidLooks := .later }
def MerkleOwnCardSaid : Prop := Claim7.holds Tryd.pinned (.plain (OpenSpec.ofChange merkleOwnSpec)) merkleOwnCard

/-- THE TIED CARD OF 'cofferdamlaw06.MerkleNoOther'. -/
def merkleNoOtherCard : Claim7 := { stood := { row := merkleNoOtherRow, standIns := [], harness := (true, "98df819277548ca7f156285bc8c802ab723cf884ed820a995628667a0c7f612b"), looks := false }, kinds := [], alts := [], laidByText := true, laidKinds := [.data, .data], laidTests := true, laidLooks := .later }
def MerkleNoOtherCardSaid : Prop := Claim7.holds Tryd.pinned (.plain (OpenSpec.ofChange merkleNoOtherSpec)) merkleNoOtherCard

/-- THE TIED CARD OF 'cofferdamlaw06.MerkleHalves'. -/
def merkleHalvesCard : Claim7 := { stood := { row := merkleHalvesRow, standIns := [], harness := (true, "98df819277548ca7f156285bc8c802ab723cf884ed820a995628667a0c7f612b"), looks := false }, kinds := [], alts := [], laidByText := true, laidKinds := [.data, .data], laidTests := true, laidLooks := .later }
def MerkleHalvesCardSaid : Prop := Claim7.holds Tryd.pinned (.plain (OpenSpec.ofChange merkleHalvesSpec)) merkleHalvesCard

/-- THE SECOND FORM's CARD OF 'cofferdamlaw06.MerklePlaces'. -/
def merklePlacesUptoCard : Claim7 := { stood := { row := merklePlacesUptoRow, standIns := [], harness := (true, "98df819277548ca7f156285bc8c802ab723cf884ed820a995628667a0c7f612b"), looks := false }, kinds := [], alts := [], laidByText := true, laidKinds := [.data, .data], laidTests := true, laidLooks := .later }
def MerklePlacesUptoCardSaid : Prop := Claim7.holds Tryd.pinned (.plain (OpenSpec.upto merklePlacesSpec)) merklePlacesUptoCard

/-- THE SECOND FORM's CARD OF 'cofferdamlaw06.MerkleTrees'. -/
def merkleTreesUptoCard : Claim7 := { stood := { row := merkleTreesUptoRow, standIns := [], harness := (true, "98df819277548ca7f156285bc8c802ab723cf884ed820a995628667a0c7f612b"), looks := false }, kinds := [], alts := [], laidByText := true, laidKinds := [.data, .data], laidTests := true, laidLooks := .later }
def MerkleTreesUptoCardSaid : Prop := Claim7.holds Tryd.pinned (.plain (OpenSpec.upto merkleTreesSpec)) merkleTreesUptoCard

/-- THE SECOND FORM's CARD OF 'cofferdamlaw06.MerkleChecks'. -/
def merkleChecksUptoCard : Claim7 := { stood := { row := merkleChecksUptoRow, standIns := [], harness := (true, "98df819277548ca7f156285bc8c802ab723cf884ed820a995628667a0c7f612b"), looks := false }, kinds := [], alts := [], laidByText := true, laidKinds := [.data, .data], laidTests := true, laidLooks := .later }
def MerkleChecksUptoCardSaid : Prop := Claim7.holds Tryd.pinned (.plain (OpenSpec.upto merkleChecksSpec)) merkleChecksUptoCard

/-- THE SECOND FORM's CARD OF 'cofferdamlaw06.MerkleOwn'. -/
def merkleOwnUptoCard : Claim7 := { stood := { row := merkleOwnUptoRow, standIns := [], harness := (true, "98df819277548ca7f156285bc8c802ab723cf884ed820a995628667a0c7f612b"), looks := false }, kinds := [], alts := [], laidByText := true, laidKinds := [.data, .data], laidTests := true, laidLooks := .later }
def MerkleOwnUptoCardSaid : Prop := Claim7.holds Tryd.pinned (.plain (OpenSpec.upto merkleOwnSpec)) merkleOwnUptoCard

/-- THE SECOND FORM's CARD OF 'cofferdamlaw06.MerkleNoOther'. -/
def merkleNoOtherUptoCard : Claim7 := { stood := { row := merkleNoOtherUptoRow, standIns := [], harness := (true, "98df819277548ca7f156285bc8c802ab723cf884ed820a995628667a0c7f612b"), looks := false }, kinds := [], alts := [], laidByText := true, laidKinds := [.data, .data], laidTests := true, laidLooks := .later }
def MerkleNoOtherUptoCardSaid : Prop := Claim7.holds Tryd.pinned (.plain (OpenSpec.upto merkleNoOtherSpec)) merkleNoOtherUptoCard

/-- THE SECOND FORM's CARD OF 'cofferdamlaw06.MerkleHalves'. -/
def merkleHalvesUptoCard : Claim7 := { stood := { row := merkleHalvesUptoRow, standIns := [], harness := (true, "98df819277548ca7f156285bc8c802ab723cf884ed820a995628667a0c7f612b"), looks := false }, kinds := [], alts := [], laidByText := true, laidKinds := [.data, .data], laidTests := true, laidLooks := .later }
def MerkleHalvesUptoCardSaid : Prop := Claim7.holds Tryd.pinned (.plain (OpenSpec.upto merkleHalvesSpec)) merkleHalvesUptoCard
end Rows
end Go.Proofs.YtoeanaadlihkeaaDoor
