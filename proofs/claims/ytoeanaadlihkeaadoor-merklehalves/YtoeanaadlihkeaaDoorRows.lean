/-
  NARROWER THAN 'FOR EVERY INPUT', by the rows' own cells (each row's printed sentence says how): MerklePlaces: laid · MerkleTrees: laid · MerkleChecks: laid · MerkleOwn: laid · MerkleNoOther: laid · MerkleHalves: laid.
  DERIVED. THE GIVEN ROWS OF THIS SEAT. 6 by the template 'for every input the law returns true; each argument reads behind the call as it read before'; 0 by the template 'total and deterministic' (their statements: YtoeanaadlihkeaaDoorTotals.lean).
  GIVEN WITH THE SEED: the statements are not yours to turn. If you find one false, say at which input.
  Laid BY PROGRAM, IN A SANDBOX (cutbox-rows.mjs): the forced cells as the released guide's own fill.sh prints them over the translation 9a48b473db92bbec… (all of the seat's roots in one cut). By AI agents, Wed Nov 11 2026. No macro, syntax, notation, axiom, sorry.
-/
import Derived.Test.YtoeanaadlihkeaaDoorChecked
import GoSem.Claim
import GoSem.ClaimJoined
import GoSem.ClaimMapViews
import Derived.JoinedTies
import Derived.KernelRfl
namespace Go.Proofs.YtoeanaadlihkeaaDoor
/- THE CELL 'sum', in the pinned program and in every row, IS THE sha256 OF THE DUMP (.gsa) THAT YtoeanaadlihkeaaDoorProg.lean LOADS. Nothing in Lean hashes anything: it is a label: what it is worth is what the hold of that sum in a sandbox is worth. -/
noncomputable def Tryd.pinned : Pinned := { name := "ytoeanaadlihkeaadoor", sum := "9a48b473db92bbec924e1e892f150db67ba297a632cb4f0ae3bee0d03e5b6556", checked := Tryd.checked }
namespace Rows
def none {H : Type} : Left H := { results := [], args := [] }

/- WHAT THE LISTED PACKAGE-LEVEL VARIABLES READ AS WHEN THE CALL BEGINS. Each datum BY PROGRAM (the guide's laid-datum.mjs) off the statement by which the dump's own 'gosem.cut.vars' lays the variable. In a bare row this is a premise. The card (YtoeanaadlihkeaaDoorCards.lean) ties it to the program's text. -/
def laid_cofferdam_sha_constants {H : Type} : DataW H := .agg [.lit (.int .u32 1116352408), .lit (.int .u32 1899447441), .lit (.int .u32 3049323471), .lit (.int .u32 3921009573), .lit (.int .u32 961987163), .lit (.int .u32 1508970993), .lit (.int .u32 2453635748), .lit (.int .u32 2870763221), .lit (.int .u32 3624381080), .lit (.int .u32 310598401), .lit (.int .u32 607225278), .lit (.int .u32 1426881987), .lit (.int .u32 1925078388), .lit (.int .u32 2162078206), .lit (.int .u32 2614888103), .lit (.int .u32 3248222580), .lit (.int .u32 3835390401), .lit (.int .u32 4022224774), .lit (.int .u32 264347078), .lit (.int .u32 604807628), .lit (.int .u32 770255983), .lit (.int .u32 1249150122), .lit (.int .u32 1555081692), .lit (.int .u32 1996064986), .lit (.int .u32 2554220882), .lit (.int .u32 2821834349), .lit (.int .u32 2952996808), .lit (.int .u32 3210313671), .lit (.int .u32 3336571891), .lit (.int .u32 3584528711), .lit (.int .u32 113926993), .lit (.int .u32 338241895), .lit (.int .u32 666307205), .lit (.int .u32 773529912), .lit (.int .u32 1294757372), .lit (.int .u32 1396182291), .lit (.int .u32 1695183700), .lit (.int .u32 1986661051), .lit (.int .u32 2177026350), .lit (.int .u32 2456956037), .lit (.int .u32 2730485921), .lit (.int .u32 2820302411), .lit (.int .u32 3259730800), .lit (.int .u32 3345764771), .lit (.int .u32 3516065817), .lit (.int .u32 3600352804), .lit (.int .u32 4094571909), .lit (.int .u32 275423344), .lit (.int .u32 430227734), .lit (.int .u32 506948616), .lit (.int .u32 659060556), .lit (.int .u32 883997877), .lit (.int .u32 958139571), .lit (.int .u32 1322822218), .lit (.int .u32 1537002063), .lit (.int .u32 1747873779), .lit (.int .u32 1955562222), .lit (.int .u32 2024104815), .lit (.int .u32 2227730452), .lit (.int .u32 2361852424), .lit (.int .u32 2428436474), .lit (.int .u32 2756734187), .lit (.int .u32 3204031479), .lit (.int .u32 3329325298)]
def laid_cofferdam_sha_firstState {H : Type} : DataW H := .agg [.lit (.int .u32 1779033703), .lit (.int .u32 3144134277), .lit (.int .u32 1013904242), .lit (.int .u32 2773480762), .lit (.int .u32 1359893119), .lit (.int .u32 2600822924), .lit (.int .u32 528734635), .lit (.int .u32 1541459225)]

/-- 'cofferdamlaw06.MerklePlaces': WHATEVER THE INPUT: true; the input reads as it did. -/
def merklePlacesSpec : ChangeSpec := { name := "merklePlaces", fn := fun _ => fun
  | [d1, d2] => { results := [.lit (.bool true)], args := [d1, d2] }
  | _ => none }
def merklePlacesRow : OpenClaim := { program := "ytoeanaadlihkeaadoor", sum := "9a48b473db92bbec924e1e892f150db67ba297a632cb4f0ae3bee0d03e5b6556", func := "cofferdam/cofferdamlaw06.MerklePlaces", spec := "merklePlaces", unfollowed := true, recurses := true, named := ["cofferdam/sha.firstState", "cofferdam/sha.constants"], apart := false, laid := [("cofferdam/sha.constants", laid_cofferdam_sha_constants), ("cofferdam/sha.firstState", laid_cofferdam_sha_firstState)] }
def MerklePlacesSaid : Prop := merklePlacesRow.holds Tryd.pinned (OpenSpec.ofChange merklePlacesSpec)

/-- ITS FALSE NEIGHBOUR: 'it returns false'. Refute it at one input. -/
def merklePlacesWrong : ChangeSpec := { name := "merklePlaces", fn := fun _ => fun
  | [d1, d2] => { results := [.lit (.bool false)], args := [d1, d2] }
  | _ => none }
def MerklePlacesWrongFalsely : Prop := merklePlacesRow.holds Tryd.pinned (OpenSpec.ofChange merklePlacesWrong)

/-- 'cofferdamlaw06.MerkleTrees': WHATEVER THE INPUT: true; the input reads as it did. -/
def merkleTreesSpec : ChangeSpec := { name := "merkleTrees", fn := fun _ => fun
  | [d] => { results := [.lit (.bool true)], args := [d] }
  | _ => none }
def merkleTreesRow : OpenClaim := { program := "ytoeanaadlihkeaadoor", sum := "9a48b473db92bbec924e1e892f150db67ba297a632cb4f0ae3bee0d03e5b6556", func := "cofferdam/cofferdamlaw06.MerkleTrees", spec := "merkleTrees", unfollowed := true, recurses := true, named := ["cofferdam/sha.firstState", "cofferdam/sha.constants"], apart := false, laid := [("cofferdam/sha.constants", laid_cofferdam_sha_constants), ("cofferdam/sha.firstState", laid_cofferdam_sha_firstState)] }
def MerkleTreesSaid : Prop := merkleTreesRow.holds Tryd.pinned (OpenSpec.ofChange merkleTreesSpec)

/-- ITS FALSE NEIGHBOUR: 'it returns false'. Refute it at one input. -/
def merkleTreesWrong : ChangeSpec := { name := "merkleTrees", fn := fun _ => fun
  | [d] => { results := [.lit (.bool false)], args := [d] }
  | _ => none }
def MerkleTreesWrongFalsely : Prop := merkleTreesRow.holds Tryd.pinned (OpenSpec.ofChange merkleTreesWrong)

/-- 'cofferdamlaw06.MerkleChecks': WHATEVER THE INPUT: true; the input reads as it did. -/
def merkleChecksSpec : ChangeSpec := { name := "merkleChecks", fn := fun _ => fun
  | [d] => { results := [.lit (.bool true)], args := [d] }
  | _ => none }
def merkleChecksRow : OpenClaim := { program := "ytoeanaadlihkeaadoor", sum := "9a48b473db92bbec924e1e892f150db67ba297a632cb4f0ae3bee0d03e5b6556", func := "cofferdam/cofferdamlaw06.MerkleChecks", spec := "merkleChecks", unfollowed := true, recurses := true, named := ["cofferdam/sha.firstState", "cofferdam/sha.constants"], apart := false, laid := [("cofferdam/sha.constants", laid_cofferdam_sha_constants), ("cofferdam/sha.firstState", laid_cofferdam_sha_firstState)] }
def MerkleChecksSaid : Prop := merkleChecksRow.holds Tryd.pinned (OpenSpec.ofChange merkleChecksSpec)

/-- ITS FALSE NEIGHBOUR: 'it returns false'. Refute it at one input. -/
def merkleChecksWrong : ChangeSpec := { name := "merkleChecks", fn := fun _ => fun
  | [d] => { results := [.lit (.bool false)], args := [d] }
  | _ => none }
def MerkleChecksWrongFalsely : Prop := merkleChecksRow.holds Tryd.pinned (OpenSpec.ofChange merkleChecksWrong)

/-- 'cofferdamlaw06.MerkleOwn': WHATEVER THE INPUT: true; the input reads as it did. -/
def merkleOwnSpec : ChangeSpec := { name := "merkleOwn", fn := fun _ => fun
  | [d] => { results := [.lit (.bool true)], args := [d] }
  | _ => none }
def merkleOwnRow : OpenClaim := { program := "ytoeanaadlihkeaadoor", sum := "9a48b473db92bbec924e1e892f150db67ba297a632cb4f0ae3bee0d03e5b6556", func := "cofferdam/cofferdamlaw06.MerkleOwn", spec := "merkleOwn", unfollowed := true, recurses := true, named := ["cofferdam/sha.firstState", "cofferdam/sha.constants"], apart := false, laid := [("cofferdam/sha.constants", laid_cofferdam_sha_constants), ("cofferdam/sha.firstState", laid_cofferdam_sha_firstState)] }
def MerkleOwnSaid : Prop := merkleOwnRow.holds Tryd.pinned (OpenSpec.ofChange merkleOwnSpec)

/-- ITS FALSE NEIGHBOUR: 'it returns false'. Refute it at one input. -/
def merkleOwnWrong : ChangeSpec := { name := "merkleOwn", fn := fun _ => fun
  | [d] => { results := [.lit (.bool false)], args := [d] }
  | _ => none }
def MerkleOwnWrongFalsely : Prop := merkleOwnRow.holds Tryd.pinned (OpenSpec.ofChange merkleOwnWrong)

/-- 'cofferdamlaw06.MerkleNoOther': WHATEVER THE INPUT: true; the input reads as it did. -/
def merkleNoOtherSpec : ChangeSpec := { name := "merkleNoOther", fn := fun _ => fun
  | [d1, d2, d3] => { results := [.lit (.bool true)], args := [d1, d2, d3] }
  | _ => none }
def merkleNoOtherRow : OpenClaim := { program := "ytoeanaadlihkeaadoor", sum := "9a48b473db92bbec924e1e892f150db67ba297a632cb4f0ae3bee0d03e5b6556", func := "cofferdam/cofferdamlaw06.MerkleNoOther", spec := "merkleNoOther", unfollowed := true, recurses := true, named := ["cofferdam/sha.firstState", "cofferdam/sha.constants"], apart := false, laid := [("cofferdam/sha.constants", laid_cofferdam_sha_constants), ("cofferdam/sha.firstState", laid_cofferdam_sha_firstState)] }
def MerkleNoOtherSaid : Prop := merkleNoOtherRow.holds Tryd.pinned (OpenSpec.ofChange merkleNoOtherSpec)

/-- ITS FALSE NEIGHBOUR: 'it returns false'. Refute it at one input. -/
def merkleNoOtherWrong : ChangeSpec := { name := "merkleNoOther", fn := fun _ => fun
  | [d1, d2, d3] => { results := [.lit (.bool false)], args := [d1, d2, d3] }
  | _ => none }
def MerkleNoOtherWrongFalsely : Prop := merkleNoOtherRow.holds Tryd.pinned (OpenSpec.ofChange merkleNoOtherWrong)

/-- 'cofferdamlaw06.MerkleHalves': WHATEVER THE INPUT: true; the input reads as it did. -/
def merkleHalvesSpec : ChangeSpec := { name := "merkleHalves", fn := fun _ => fun
  | [d1, d2] => { results := [.lit (.bool true)], args := [d1, d2] }
  | _ => none }
def merkleHalvesRow : OpenClaim := { program := "ytoeanaadlihkeaadoor", sum := "9a48b473db92bbec924e1e892f150db67ba297a632cb4f0ae3bee0d03e5b6556", func := "cofferdam/cofferdamlaw06.MerkleHalves", spec := "merkleHalves", unfollowed := true, recurses := true, named := ["cofferdam/sha.firstState", "cofferdam/sha.constants"], apart := false, laid := [("cofferdam/sha.constants", laid_cofferdam_sha_constants), ("cofferdam/sha.firstState", laid_cofferdam_sha_firstState)] }
def MerkleHalvesSaid : Prop := merkleHalvesRow.holds Tryd.pinned (OpenSpec.ofChange merkleHalvesSpec)

/-- ITS FALSE NEIGHBOUR: 'it returns false'. Refute it at one input. -/
def merkleHalvesWrong : ChangeSpec := { name := "merkleHalves", fn := fun _ => fun
  | [d1, d2] => { results := [.lit (.bool false)], args := [d1, d2] }
  | _ => none }
def MerkleHalvesWrongFalsely : Prop := merkleHalvesRow.holds Tryd.pinned (OpenSpec.ofChange merkleHalvesWrong)

/- THE SECOND FORM. 'bulk': how many values and letters a reading holds, each counted each time it is reached (what is shared counts as often as it is met; a slice's spare places count too). A statement '..UptoSaid' is the law's where the arguments, and the package variables that the reading takes, are together of bulk at most 1048576: NARROWER than '..Said'. Prove '..Said' where nothing that the law and all that it calls make is longer than what came in: it says more and counts as full. Else prove '..UptoSaid'. A law counts once. -/
mutual
def uptoBulk {H : Type} : DataW H → Nat
  | .lit (.string bytes) => bytes.length + 1
  | .lit _ => 1
  | .nil => 1
  | .ptr d => uptoBulk d + 1
  | .slice elems spare => uptoBulkAll elems + uptoBulkAll spare + 1
  | .agg parts => uptoBulkAll parts + 1
  | .iface _ d => uptoBulk d + 1
  | .map entries => uptoBulkEntries entries + 1
  | .held _ => 1
def uptoBulkAll {H : Type} : List (DataW H) → Nat
  | [] => 0
  | d :: r => uptoBulk d + uptoBulkAll r
def uptoBulkEntries {H : Type} : List (Lit × DataW H) → Nat
  | [] => 0
  | x :: r => uptoBulkEntry x + uptoBulkEntries r
def uptoBulkEntry {H : Type} : Lit × DataW H → Nat
  | (.string bytes, d) => bytes.length + uptoBulk d + 1
  | (_, d) => uptoBulk d + 1
 end
def uptoSmall : (H : Type) → List (DataW H) → Bool := fun _ ds => decide (uptoBulkAll ds ≤ 1048576)
def OpenSpec.upto (s : _root_.Go.ChangeSpec) : _root_.Go.OpenSpec := { _root_.Go.OpenSpec.ofChange s with cond := some uptoSmall }

/-- 'cofferdamlaw06.MerklePlaces', WHERE WHAT IT READS IS OF BULK AT MOST 1048576: true; the input reads as it did. -/
def merklePlacesUptoRow : OpenClaim := { program := "ytoeanaadlihkeaadoor", sum := "9a48b473db92bbec924e1e892f150db67ba297a632cb4f0ae3bee0d03e5b6556", func := "cofferdam/cofferdamlaw06.MerklePlaces", spec := "merklePlaces", unfollowed := true, recurses := true, named := ["cofferdam/sha.firstState", "cofferdam/sha.constants"], apart := false, laid := [("cofferdam/sha.constants", laid_cofferdam_sha_constants), ("cofferdam/sha.firstState", laid_cofferdam_sha_firstState)], narrowed := true }
def MerklePlacesUptoSaid : Prop := merklePlacesUptoRow.holds Tryd.pinned (OpenSpec.upto merklePlacesSpec)

/-- 'cofferdamlaw06.MerkleTrees', WHERE WHAT IT READS IS OF BULK AT MOST 1048576: true; the input reads as it did. -/
def merkleTreesUptoRow : OpenClaim := { program := "ytoeanaadlihkeaadoor", sum := "9a48b473db92bbec924e1e892f150db67ba297a632cb4f0ae3bee0d03e5b6556", func := "cofferdam/cofferdamlaw06.MerkleTrees", spec := "merkleTrees", unfollowed := true, recurses := true, named := ["cofferdam/sha.firstState", "cofferdam/sha.constants"], apart := false, laid := [("cofferdam/sha.constants", laid_cofferdam_sha_constants), ("cofferdam/sha.firstState", laid_cofferdam_sha_firstState)], narrowed := true }
def MerkleTreesUptoSaid : Prop := merkleTreesUptoRow.holds Tryd.pinned (OpenSpec.upto merkleTreesSpec)

/-- 'cofferdamlaw06.MerkleChecks', WHERE WHAT IT READS IS OF BULK AT MOST 1048576: true; the input reads as it did. -/
def merkleChecksUptoRow : OpenClaim := { program := "ytoeanaadlihkeaadoor", sum := "9a48b473db92bbec924e1e892f150db67ba297a632cb4f0ae3bee0d03e5b6556", func := "cofferdam/cofferdamlaw06.MerkleChecks", spec := "merkleChecks", unfollowed := true, recurses := true, named := ["cofferdam/sha.firstState", "cofferdam/sha.constants"], apart := false, laid := [("cofferdam/sha.constants", laid_cofferdam_sha_constants), ("cofferdam/sha.firstState", laid_cofferdam_sha_firstState)], narrowed := true }
def MerkleChecksUptoSaid : Prop := merkleChecksUptoRow.holds Tryd.pinned (OpenSpec.upto merkleChecksSpec)

/-- 'cofferdamlaw06.MerkleOwn', WHERE WHAT IT READS IS OF BULK AT MOST 1048576: true; the input reads as it did. -/
def merkleOwnUptoRow : OpenClaim := { program := "ytoeanaadlihkeaadoor", sum := "9a48b473db92bbec924e1e892f150db67ba297a632cb4f0ae3bee0d03e5b6556", func := "cofferdam/cofferdamlaw06.MerkleOwn", spec := "merkleOwn", unfollowed := true, recurses := true, named := ["cofferdam/sha.firstState", "cofferdam/sha.constants"], apart := false, laid := [("cofferdam/sha.constants", laid_cofferdam_sha_constants), ("cofferdam/sha.firstState", laid_cofferdam_sha_firstState)], narrowed := true }
def MerkleOwnUptoSaid : Prop := merkleOwnUptoRow.holds Tryd.pinned (OpenSpec.upto merkleOwnSpec)

/-- 'cofferdamlaw06.MerkleNoOther', WHERE WHAT IT READS IS OF BULK AT MOST 1048576: true; the input reads as it did. -/
def merkleNoOtherUptoRow : OpenClaim := { program := "ytoeanaadlihkeaadoor", sum := "9a48b473db92bbec924e1e892f150db67ba297a632cb4f0ae3bee0d03e5b6556", func := "cofferdam/cofferdamlaw06.MerkleNoOther", spec := "merkleNoOther", unfollowed := true, recurses := true, named := ["cofferdam/sha.firstState", "cofferdam/sha.constants"], apart := false, laid := [("cofferdam/sha.constants", laid_cofferdam_sha_constants), ("cofferdam/sha.firstState", laid_cofferdam_sha_firstState)], narrowed := true }
def MerkleNoOtherUptoSaid : Prop := merkleNoOtherUptoRow.holds Tryd.pinned (OpenSpec.upto merkleNoOtherSpec)

/-- 'cofferdamlaw06.MerkleHalves', WHERE WHAT IT READS IS OF BULK AT MOST 1048576: true; the input reads as it did. -/
def merkleHalvesUptoRow : OpenClaim := { program := "ytoeanaadlihkeaadoor", sum := "9a48b473db92bbec924e1e892f150db67ba297a632cb4f0ae3bee0d03e5b6556", func := "cofferdam/cofferdamlaw06.MerkleHalves", spec := "merkleHalves", unfollowed := true, recurses := true, named := ["cofferdam/sha.firstState", "cofferdam/sha.constants"], apart := false, laid := [("cofferdam/sha.constants", laid_cofferdam_sha_constants), ("cofferdam/sha.firstState", laid_cofferdam_sha_firstState)], narrowed := true }
def MerkleHalvesUptoSaid : Prop := merkleHalvesUptoRow.holds Tryd.pinned (OpenSpec.upto merkleHalvesSpec)

end Rows
end Go.Proofs.YtoeanaadlihkeaaDoor
