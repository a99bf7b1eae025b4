/-
  No cell of these rows narrows 'for every input' (looked for: loops, veiled, ifaces, maps, wideKeys, modest, calm, conditions, laid).
  DERIVED. THE GIVEN ROWS OF THIS SEAT. 4 by the template 'for every input the law returns true; each argument reads behind the call as it read before'; 0 by the template 'total and deterministic' (their statements: YtkjnbgekaifdfaaGreatTotals.lean).
  GIVEN WITH THE SEED: the statements are not yours to turn. If you find one false, say at which input.
  Laid BY PROGRAM, IN A SANDBOX (cutbox-rows.mjs): the forced cells as the released guide's own fill.sh prints them over the translation fe06300e02fbf7dc… (all of the seat's roots in one cut). By AI agents, Wed Nov 11 2026. No macro, syntax, notation, axiom, sorry.
-/
import Derived.Test.YtkjnbgekaifdfaaGreatChecked
import GoSem.Claim
import GoSem.ClaimJoined
import GoSem.ClaimMapViews
import Derived.JoinedTies
import Derived.KernelRfl
namespace Go.Proofs.YtkjnbgekaifdfaaGreat
/- THE CELL 'sum', in the pinned program and in every row, IS THE sha256 OF THE DUMP (.gsa) THAT YtkjnbgekaifdfaaGreatProg.lean LOADS. Nothing in Lean hashes anything: it is a label: what it is worth is what the hold of that sum in a sandbox is worth. -/
noncomputable def Tryz.pinned : Pinned := { name := "ytkjnbgekaifdfaagreat", sum := "fe06300e02fbf7dc4015b1a35d02bbca9b67946632b07e5f8dfcb98d9d91eb49", checked := Tryz.checked }
namespace Rows
def none {H : Type} : Left H := { results := [], args := [] }

/-- 'nomenclatorlaw10.MessageParts': WHATEVER THE INPUT: true; the input reads as it did. -/
def messagePartsSpec : ChangeSpec := { name := "messageParts", fn := fun _ => fun
  | [d1, d2] => { results := [.lit (.bool true)], args := [d1, d2] }
  | _ => none }
def messagePartsRow : OpenClaim := { program := "ytkjnbgekaifdfaagreat", sum := "fe06300e02fbf7dc4015b1a35d02bbca9b67946632b07e5f8dfcb98d9d91eb49", func := "nomenclator/nomenclatorlaw10.MessageParts", spec := "messageParts", inPlace := ["internal/bytealg.IndexByteString"], unfollowed := true, recurses := true, apart := false }
def MessagePartsSaid : Prop := messagePartsRow.holds Tryz.pinned (OpenSpec.ofChange messagePartsSpec)

/-- ITS FALSE NEIGHBOUR: 'it returns false'. Refute it at one input. -/
def messagePartsWrong : ChangeSpec := { name := "messageParts", fn := fun _ => fun
  | [d1, d2] => { results := [.lit (.bool false)], args := [d1, d2] }
  | _ => none }
def MessagePartsWrongFalsely : Prop := messagePartsRow.holds Tryz.pinned (OpenSpec.ofChange messagePartsWrong)

/-- 'nomenclatorlaw12.FitShort': WHATEVER THE INPUT: true; the input reads as it did. -/
def fitShortSpec : ChangeSpec := { name := "fitShort", fn := fun _ => fun
  | [d1, d2] => { results := [.lit (.bool true)], args := [d1, d2] }
  | _ => none }
def fitShortRow : OpenClaim := { program := "ytkjnbgekaifdfaagreat", sum := "fe06300e02fbf7dc4015b1a35d02bbca9b67946632b07e5f8dfcb98d9d91eb49", func := "nomenclator/nomenclatorlaw12.FitShort", spec := "fitShort", inPlace := ["internal/bytealg.IndexByteString", "internal/bytealg.abigen_runtime_cmpstring"], unfollowed := true, recurses := true, apart := false }
def FitShortSaid : Prop := fitShortRow.holds Tryz.pinned (OpenSpec.ofChange fitShortSpec)

/-- ITS FALSE NEIGHBOUR: 'it returns false'. Refute it at one input. -/
def fitShortWrong : ChangeSpec := { name := "fitShort", fn := fun _ => fun
  | [d1, d2] => { results := [.lit (.bool false)], args := [d1, d2] }
  | _ => none }
def FitShortWrongFalsely : Prop := fitShortRow.holds Tryz.pinned (OpenSpec.ofChange fitShortWrong)

/-- 'nomenclatorlaw12.FitGrows': WHATEVER THE INPUT: true; the input reads as it did. -/
def fitGrowsSpec : ChangeSpec := { name := "fitGrows", fn := fun _ => fun
  | [d1, d2, d3] => { results := [.lit (.bool true)], args := [d1, d2, d3] }
  | _ => none }
def fitGrowsRow : OpenClaim := { program := "ytkjnbgekaifdfaagreat", sum := "fe06300e02fbf7dc4015b1a35d02bbca9b67946632b07e5f8dfcb98d9d91eb49", func := "nomenclator/nomenclatorlaw12.FitGrows", spec := "fitGrows", inPlace := ["internal/bytealg.IndexByteString", "internal/bytealg.abigen_runtime_cmpstring"], unfollowed := true, recurses := true, apart := false }
def FitGrowsSaid : Prop := fitGrowsRow.holds Tryz.pinned (OpenSpec.ofChange fitGrowsSpec)

/-- ITS FALSE NEIGHBOUR: 'it returns false'. Refute it at one input. -/
def fitGrowsWrong : ChangeSpec := { name := "fitGrows", fn := fun _ => fun
  | [d1, d2, d3] => { results := [.lit (.bool false)], args := [d1, d2, d3] }
  | _ => none }
def FitGrowsWrongFalsely : Prop := fitGrowsRow.holds Tryz.pinned (OpenSpec.ofChange fitGrowsWrong)

/-- 'nomenclatorlaw12.FitKnown': WHATEVER THE INPUT: true; the input reads as it did. -/
def fitKnownSpec : ChangeSpec := { name := "fitKnown", fn := fun _ => fun
  | [] => { results := [.lit (.bool true)], args := [] }
  | _ => none }
def fitKnownRow : OpenClaim := { program := "ytkjnbgekaifdfaagreat", sum := "fe06300e02fbf7dc4015b1a35d02bbca9b67946632b07e5f8dfcb98d9d91eb49", func := "nomenclator/nomenclatorlaw12.FitKnown", spec := "fitKnown", inPlace := ["internal/bytealg.IndexByteString", "internal/bytealg.abigen_runtime_cmpstring"], unfollowed := true, recurses := true, apart := false }
def FitKnownSaid : Prop := fitKnownRow.holds Tryz.pinned (OpenSpec.ofChange fitKnownSpec)

/-- ITS FALSE NEIGHBOUR: 'it returns false'. Refute it at one input. -/
def fitKnownWrong : ChangeSpec := { name := "fitKnown", fn := fun _ => fun
  | [] => { results := [.lit (.bool false)], args := [] }
  | _ => none }
def FitKnownWrongFalsely : Prop := fitKnownRow.holds Tryz.pinned (OpenSpec.ofChange fitKnownWrong)

/- THE SECOND FORM. 'bulk': how many values and letters a reading holds, each counted each time it is reached (what is shared counts as often as it is met; a slice's spare places count too). A statement '..UptoSaid' is the law's where the arguments, and the package variables that the reading takes, are together of bulk at most 1048576: NARROWER than '..Said'. Prove '..Said' where nothing that the law and all that it calls make is longer than what came in: it says more and counts as full. Else prove '..UptoSaid'. A law counts once. -/
mutual
def uptoBulk {H : Type} : DataW H → Nat
  | .lit (.string bytes) => bytes.length + 1
  | .lit _ => 1
  | .nil => 1
  | .ptr d => uptoBulk d + 1
  | .slice elems spare => uptoBulkAll elems + uptoBulkAll spare + 1
  | .agg parts => uptoBulkAll parts + 1
  | .iface _ d => uptoBulk d + 1
  | .map entries => uptoBulkEntries entries + 1
  | .held _ => 1
def uptoBulkAll {H : Type} : List (DataW H) → Nat
  | [] => 0
  | d :: r => uptoBulk d + uptoBulkAll r
def uptoBulkEntries {H : Type} : List (Lit × DataW H) → Nat
  | [] => 0
  | x :: r => uptoBulkEntry x + uptoBulkEntries r
def uptoBulkEntry {H : Type} : Lit × DataW H → Nat
  | (.string bytes, d) => bytes.length + uptoBulk d + 1
  | (_, d) => uptoBulk d + 1
 end
def uptoSmall : (H : Type) → List (DataW H) → Bool := fun _ ds => decide (uptoBulkAll ds ≤ 1048576)
def OpenSpec.upto (s : _root_.Go.ChangeSpec) : _root_.Go.OpenSpec := { _root_.Go.OpenSpec.ofChange s with cond := some uptoSmall }

/-- 'nomenclatorlaw10.MessageParts', WHERE WHAT IT READS IS OF BULK AT MOST 1048576: true; the input reads as it did. -/
def messagePartsUptoRow : OpenClaim := { program := "ytkjnbgekaifdfaagreat", sum := "fe06300e02fbf7dc4015b1a35d02bbca9b67946632b07e5f8dfcb98d9d91eb49", func := "nomenclator/nomenclatorlaw10.MessageParts", spec := "messageParts", inPlace := ["internal/bytealg.IndexByteString"], unfollowed := true, recurses := true, apart := false, narrowed := true }
def MessagePartsUptoSaid : Prop := messagePartsUptoRow.holds Tryz.pinned (OpenSpec.upto messagePartsSpec)

/-- 'nomenclatorlaw12.FitShort', WHERE WHAT IT READS IS OF BULK AT MOST 1048576: true; the input reads as it did. -/
def fitShortUptoRow : OpenClaim := { program := "ytkjnbgekaifdfaagreat", sum := "fe06300e02fbf7dc4015b1a35d02bbca9b67946632b07e5f8dfcb98d9d91eb49", func := "nomenclator/nomenclatorlaw12.FitShort", spec := "fitShort", inPlace := ["internal/bytealg.IndexByteString", "internal/bytealg.abigen_runtime_cmpstring"], unfollowed := true, recurses := true, apart := false, narrowed := true }
def FitShortUptoSaid : Prop := fitShortUptoRow.holds Tryz.pinned (OpenSpec.upto fitShortSpec)

/-- 'nomenclatorlaw12.FitGrows', WHERE WHAT IT READS IS OF BULK AT MOST 1048576: true; the input reads as it did. -/
def fitGrowsUptoRow : OpenClaim := { program := "ytkjnbgekaifdfaagreat", sum := "fe06300e02fbf7dc4015b1a35d02bbca9b67946632b07e5f8dfcb98d9d91eb49", func := "nomenclator/nomenclatorlaw12.FitGrows", spec := "fitGrows", inPlace := ["internal/bytealg.IndexByteString", "internal/bytealg.abigen_runtime_cmpstring"], unfollowed := true, recurses := true, apart := false, narrowed := true }
def FitGrowsUptoSaid : Prop := fitGrowsUptoRow.holds Tryz.pinned (OpenSpec.upto fitGrowsSpec)

/-- 'nomenclatorlaw12.FitKnown', WHERE WHAT IT READS IS OF BULK AT MOST 1048576: true; the input reads as it did. -/
def fitKnownUptoRow : OpenClaim := { program := "ytkjnbgekaifdfaagreat", sum := "fe06300e02fbf7dc4015b1a35d02bbca9b67946632b07e5f8dfcb98d9d91eb49", func := "nomenclator/nomenclatorlaw12.FitKnown", spec := "fitKnown", inPlace := ["internal/bytealg.IndexByteString", "internal/bytealg.abigen_runtime_cmpstring"], unfollowed := true, recurses := true, apart := false, narrowed := true }
def FitKnownUptoSaid : Prop := fitKnownUptoRow.holds Tryz.pinned (OpenSpec.upto fitKnownSpec)

end Rows
end Go.Proofs.YtkjnbgekaifdfaaGreat
