/-
  No cell of these rows narrows 'for every input' (looked for: loops, veiled, ifaces, maps, wideKeys, modest, calm, conditions, laid).
  DERIVED. THE GIVEN ROWS OF THIS SEAT. 6 by the template 'for every input the law returns true; each argument reads behind the call as it read before'; 0 by the template 'total and deterministic' (their statements: YtalcalecmklcoaaTotals.lean).
  GIVEN WITH THE SEED: the statements are not yours to turn. If you find one false, say at which input.
  Laid BY PROGRAM, IN A SANDBOX (cutbox-rows.mjs): the forced cells as the released guide's own fill.sh prints them over the translation 846aa3ef554300a7… (all of the seat's roots in one cut). By AI agents, Wed Nov 11 2026. No macro, syntax, notation, axiom, sorry.
-/
import Derived.Test.YtalcalecmklcoaaChecked
import GoSem.Claim
import GoSem.ClaimJoined
import GoSem.ClaimMapViews
import Derived.JoinedTies
import Derived.KernelRfl
namespace Go.Proofs.Ytalcalecmklcoaa
/- THE CELL 'sum', in the pinned program and in every row, IS THE sha256 OF THE DUMP (.gsa) THAT YtalcalecmklcoaaProg.lean LOADS. Nothing in Lean hashes anything: it is a label: what it is worth is what the hold of that sum in a sandbox is worth. -/
noncomputable def Try.pinned : Pinned := { name := "ytalcalecmklcoaa", sum := "846aa3ef554300a7690170d671675157107c55251d1ab4f26fe05e5ad6ce32c7", checked := Try.checked }
namespace Rows
def none {H : Type} : Left H := { results := [], args := [] }

/-- 'cofferdamlaw07.DevicePlays': WHATEVER THE INPUT: true; the input reads as it did. -/
def devicePlaysSpec : ChangeSpec := { name := "devicePlays", fn := fun _ => fun
  | [d1, d2] => { results := [.lit (.bool true)], args := [d1, d2] }
  | _ => none }
def devicePlaysRow : OpenClaim := { program := "ytalcalecmklcoaa", sum := "846aa3ef554300a7690170d671675157107c55251d1ab4f26fe05e5ad6ce32c7", func := "cofferdam/cofferdamlaw07.DevicePlays", spec := "devicePlays", inPlace := ["maps.clone"], unfollowed := true, recurses := true, apart := false }
def DevicePlaysSaid : Prop := devicePlaysRow.holds Try.pinned (OpenSpec.ofChange devicePlaysSpec)

/-- ITS FALSE NEIGHBOUR: 'it returns false'. Refute it at one input. -/
def devicePlaysWrong : ChangeSpec := { name := "devicePlays", fn := fun _ => fun
  | [d1, d2] => { results := [.lit (.bool false)], args := [d1, d2] }
  | _ => none }
def DevicePlaysWrongFalsely : Prop := devicePlaysRow.holds Try.pinned (OpenSpec.ofChange devicePlaysWrong)

/-- 'cofferdamlaw07.DeviceSafe': WHATEVER THE INPUT: true; the input reads as it did. -/
def deviceSafeSpec : ChangeSpec := { name := "deviceSafe", fn := fun _ => fun
  | [d1, d2, d3] => { results := [.lit (.bool true)], args := [d1, d2, d3] }
  | _ => none }
def deviceSafeRow : OpenClaim := { program := "ytalcalecmklcoaa", sum := "846aa3ef554300a7690170d671675157107c55251d1ab4f26fe05e5ad6ce32c7", func := "cofferdam/cofferdamlaw07.DeviceSafe", spec := "deviceSafe", inPlace := ["maps.clone"], unfollowed := true, recurses := true, apart := false }
def DeviceSafeSaid : Prop := deviceSafeRow.holds Try.pinned (OpenSpec.ofChange deviceSafeSpec)

/-- ITS FALSE NEIGHBOUR: 'it returns false'. Refute it at one input. -/
def deviceSafeWrong : ChangeSpec := { name := "deviceSafe", fn := fun _ => fun
  | [d1, d2, d3] => { results := [.lit (.bool false)], args := [d1, d2, d3] }
  | _ => none }
def DeviceSafeWrongFalsely : Prop := deviceSafeRow.holds Try.pinned (OpenSpec.ofChange deviceSafeWrong)

/-- 'cofferdamlaw07.DeviceSettled': WHATEVER THE INPUT: true; the input reads as it did. -/
def deviceSettledSpec : ChangeSpec := { name := "deviceSettled", fn := fun _ => fun
  | [d1, d2, d3] => { results := [.lit (.bool true)], args := [d1, d2, d3] }
  | _ => none }
def deviceSettledRow : OpenClaim := { program := "ytalcalecmklcoaa", sum := "846aa3ef554300a7690170d671675157107c55251d1ab4f26fe05e5ad6ce32c7", func := "cofferdam/cofferdamlaw07.DeviceSettled", spec := "deviceSettled", inPlace := ["maps.clone"], unfollowed := true, recurses := true, apart := false }
def DeviceSettledSaid : Prop := deviceSettledRow.holds Try.pinned (OpenSpec.ofChange deviceSettledSpec)

/-- ITS FALSE NEIGHBOUR: 'it returns false'. Refute it at one input. -/
def deviceSettledWrong : ChangeSpec := { name := "deviceSettled", fn := fun _ => fun
  | [d1, d2, d3] => { results := [.lit (.bool false)], args := [d1, d2, d3] }
  | _ => none }
def DeviceSettledWrongFalsely : Prop := deviceSettledRow.holds Try.pinned (OpenSpec.ofChange deviceSettledWrong)

/-- 'cofferdamlaw07.DeviceNil': WHATEVER THE INPUT: true; the input reads as it did. -/
def deviceNilSpec : ChangeSpec := { name := "deviceNil", fn := fun _ => fun
  | [d1, d2] => { results := [.lit (.bool true)], args := [d1, d2] }
  | _ => none }
def deviceNilRow : OpenClaim := { program := "ytalcalecmklcoaa", sum := "846aa3ef554300a7690170d671675157107c55251d1ab4f26fe05e5ad6ce32c7", func := "cofferdam/cofferdamlaw07.DeviceNil", spec := "deviceNil", inPlace := ["maps.clone"], unfollowed := true, recurses := true, apart := false }
def DeviceNilSaid : Prop := deviceNilRow.holds Try.pinned (OpenSpec.ofChange deviceNilSpec)

/-- ITS FALSE NEIGHBOUR: 'it returns false'. Refute it at one input. -/
def deviceNilWrong : ChangeSpec := { name := "deviceNil", fn := fun _ => fun
  | [d1, d2] => { results := [.lit (.bool false)], args := [d1, d2] }
  | _ => none }
def DeviceNilWrongFalsely : Prop := deviceNilRow.holds Try.pinned (OpenSpec.ofChange deviceNilWrong)

/-- 'cofferdamlaw07.DeviceTogether': WHATEVER THE INPUT: true; the input reads as it did. -/
def deviceTogetherSpec : ChangeSpec := { name := "deviceTogether", fn := fun _ => fun
  | [d1, d2, d3] => { results := [.lit (.bool true)], args := [d1, d2, d3] }
  | _ => none }
def deviceTogetherRow : OpenClaim := { program := "ytalcalecmklcoaa", sum := "846aa3ef554300a7690170d671675157107c55251d1ab4f26fe05e5ad6ce32c7", func := "cofferdam/cofferdamlaw07.DeviceTogether", spec := "deviceTogether", inPlace := ["maps.clone"], unfollowed := true, recurses := true, apart := false }
def DeviceTogetherSaid : Prop := deviceTogetherRow.holds Try.pinned (OpenSpec.ofChange deviceTogetherSpec)

/-- ITS FALSE NEIGHBOUR: 'it returns false'. Refute it at one input. -/
def deviceTogetherWrong : ChangeSpec := { name := "deviceTogether", fn := fun _ => fun
  | [d1, d2, d3] => { results := [.lit (.bool false)], args := [d1, d2, d3] }
  | _ => none }
def DeviceTogetherWrongFalsely : Prop := deviceTogetherRow.holds Try.pinned (OpenSpec.ofChange deviceTogetherWrong)

/-- 'cofferdamlaw07.DeviceHeals': WHATEVER THE INPUT: true; the input reads as it did. -/
def deviceHealsSpec : ChangeSpec := { name := "deviceHeals", fn := fun _ => fun
  | [d1, d2, d3] => { results := [.lit (.bool true)], args := [d1, d2, d3] }
  | _ => none }
def deviceHealsRow : OpenClaim := { program := "ytalcalecmklcoaa", sum := "846aa3ef554300a7690170d671675157107c55251d1ab4f26fe05e5ad6ce32c7", func := "cofferdam/cofferdamlaw07.DeviceHeals", spec := "deviceHeals", inPlace := ["maps.clone"], unfollowed := true, recurses := true, apart := false }
def DeviceHealsSaid : Prop := deviceHealsRow.holds Try.pinned (OpenSpec.ofChange deviceHealsSpec)

/-- ITS FALSE NEIGHBOUR: 'it returns false'. Refute it at one input. -/
def deviceHealsWrong : ChangeSpec := { name := "deviceHeals", fn := fun _ => fun
  | [d1, d2, d3] => { results := [.lit (.bool false)], args := [d1, d2, d3] }
  | _ => none }
def DeviceHealsWrongFalsely : Prop := deviceHealsRow.holds Try.pinned (OpenSpec.ofChange deviceHealsWrong)

/- THE SECOND FORM. 'bulk': how many values and letters a reading holds, each counted each time it is reached (what is shared counts as often as it is met; a slice's spare places count too). A statement '..UptoSaid' is the law's where the arguments, and the package variables that the reading takes, are together of bulk at most 1048576: NARROWER than '..Said'. Prove '..Said' where nothing that the law and all that it calls make is longer than what came in: it says more and counts as full. Else prove '..UptoSaid'. A law counts once. -/
mutual
def uptoBulk {H : Type} : DataW H → Nat
  | .lit (.string bytes) => bytes.length + 1
  | .lit _ => 1
  | .nil => 1
  | .ptr d => uptoBulk d + 1
  | .slice elems spare => uptoBulkAll elems + uptoBulkAll spare + 1
  | .agg parts => uptoBulkAll parts + 1
  | .iface _ d => uptoBulk d + 1
  | .map entries => uptoBulkEntries entries + 1
  | .held _ => 1
def uptoBulkAll {H : Type} : List (DataW H) → Nat
  | [] => 0
  | d :: r => uptoBulk d + uptoBulkAll r
def uptoBulkEntries {H : Type} : List (Lit × DataW H) → Nat
  | [] => 0
  | x :: r => uptoBulkEntry x + uptoBulkEntries r
def uptoBulkEntry {H : Type} : Lit × DataW H → Nat
  | (.string bytes, d) => bytes.length + uptoBulk d + 1
  | (_, d) => uptoBulk d + 1
 end
def uptoSmall : (H : Type) → List (DataW H) → Bool := fun _ ds => decide (uptoBulkAll ds ≤ 1048576)
def OpenSpec.upto (s : _root_.Go.ChangeSpec) : _root_.Go.OpenSpec := { _root_.Go.OpenSpec.ofChange s with cond := some uptoSmall }

/-- 'cofferdamlaw07.DevicePlays', WHERE WHAT IT READS IS OF BULK AT MOST 1048576: true; the input reads as it did. -/
def devicePlaysUptoRow : OpenClaim := { program := "ytalcalecmklcoaa", sum := "846aa3ef554300a7690170d671675157107c55251d1ab4f26fe05e5ad6ce32c7", func := "cofferdam/cofferdamlaw07.DevicePlays", spec := "devicePlays", inPlace := ["maps.clone"], unfollowed := true, recurses := true, apart := false, narrowed := true }
def DevicePlaysUptoSaid : Prop := devicePlaysUptoRow.holds Try.pinned (OpenSpec.upto devicePlaysSpec)

/-- 'cofferdamlaw07.DeviceSafe', WHERE WHAT IT READS IS OF BULK AT MOST 1048576: true; the input reads as it did. -/
def deviceSafeUptoRow : OpenClaim := { program := "ytalcalecmklcoaa", sum := "846aa3ef554300a7690170d671675157107c55251d1ab4f26fe05e5ad6ce32c7", func := "cofferdam/cofferdamlaw07.DeviceSafe", spec := "deviceSafe", inPlace := ["maps.clone"], unfollowed := true, recurses := true, apart := false, narrowed := true }
def DeviceSafeUptoSaid : Prop := deviceSafeUptoRow.holds Try.pinned (OpenSpec.upto deviceSafeSpec)

/-- 'cofferdamlaw07.DeviceSettled', WHERE WHAT IT READS IS OF BULK AT MOST 1048576: true; the input reads as it did. -/
def deviceSettledUptoRow : OpenClaim := { program := "ytalcalecmklcoaa", sum := "846aa3ef554300a7690170d671675157107c55251d1ab4f26fe05e5ad6ce32c7", func := "cofferdam/cofferdamlaw07.DeviceSettled", spec := "deviceSettled", inPlace := ["maps.clone"], unfollowed := true, recurses := true, apart := false, narrowed := true }
def DeviceSettledUptoSaid : Prop := deviceSettledUptoRow.holds Try.pinned (OpenSpec.upto deviceSettledSpec)

/-- 'cofferdamlaw07.DeviceNil', WHERE WHAT IT READS IS OF BULK AT MOST 1048576: true; the input reads as it did. -/
def deviceNilUptoRow : OpenClaim := { program := "ytalcalecmklcoaa", sum := "846aa3ef554300a7690170d671675157107c55251d1ab4f26fe05e5ad6ce32c7", func := "cofferdam/cofferdamlaw07.DeviceNil", spec := "deviceNil", inPlace := ["maps.clone"], unfollowed := true, recurses := true, apart := false, narrowed := true }
def DeviceNilUptoSaid : Prop := deviceNilUptoRow.holds Try.pinned (OpenSpec.upto deviceNilSpec)

/-- 'cofferdamlaw07.DeviceTogether', WHERE WHAT IT READS IS OF BULK AT MOST 1048576: true; the input reads as it did. -/
def deviceTogetherUptoRow : OpenClaim := { program := "ytalcalecmklcoaa", sum := "846aa3ef554300a7690170d671675157107c55251d1ab4f26fe05e5ad6ce32c7", func := "cofferdam/cofferdamlaw07.DeviceTogether", spec := "deviceTogether", inPlace := ["maps.clone"], unfollowed := true, recurses := true, apart := false, narrowed := true }
def DeviceTogetherUptoSaid : Prop := deviceTogetherUptoRow.holds Try.pinned (OpenSpec.upto deviceTogetherSpec)

/-- 'cofferdamlaw07.DeviceHeals', WHERE WHAT IT READS IS OF BULK AT MOST 1048576: true; the input reads as it did. -/
def deviceHealsUptoRow : OpenClaim := { program := "ytalcalecmklcoaa", sum := "846aa3ef554300a7690170d671675157107c55251d1ab4f26fe05e5ad6ce32c7", func := "cofferdam/cofferdamlaw07.DeviceHeals", spec := "deviceHeals", inPlace := ["maps.clone"], unfollowed := true, recurses := true, apart := false, narrowed := true }
def DeviceHealsUptoSaid : Prop := deviceHealsUptoRow.holds Try.pinned (OpenSpec.upto deviceHealsSpec)

end Rows
end Go.Proofs.Ytalcalecmklcoaa
