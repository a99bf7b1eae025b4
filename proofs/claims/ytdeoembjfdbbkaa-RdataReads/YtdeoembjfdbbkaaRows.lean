/-
  No cell of these rows narrows 'for every input' (looked for: loops, veiled, ifaces, maps, wideKeys, modest, calm, conditions, laid).
  DERIVED. THE GIVEN ROWS OF THIS SEAT. 5 by the template 'for every input the law returns true; each argument reads behind the call as it read before'; 0 by the template 'total and deterministic' (their statements: YtdeoembjfdbbkaaTotals.lean).
  GIVEN WITH THE SEED: the statements are not yours to turn. If you find one false, say at which input.
  Laid BY PROGRAM, IN A SANDBOX (cutbox-rows.mjs): the forced cells as the released guide's own fill.sh prints them over the translation 0523cb100d91b2c9… (all of the seat's roots in one cut). By AI agents, Wed Nov 11 2026. No macro, syntax, notation, axiom, sorry.
-/
import Derived.Test.YtdeoembjfdbbkaaChecked
import GoSem.Claim
import GoSem.ClaimJoined
import GoSem.ClaimMapViews
import Derived.JoinedTies
import Derived.KernelRfl
namespace Go.Proofs.Ytdeoembjfdbbkaa
/- THE CELL 'sum', in the pinned program and in every row, IS THE sha256 OF THE DUMP (.gsa) THAT YtdeoembjfdbbkaaProg.lean LOADS. Nothing in Lean hashes anything: it is a label: what it is worth is what the hold of that sum in a sandbox is worth. -/
noncomputable def Try.pinned : Pinned := { name := "ytdeoembjfdbbkaa", sum := "0523cb100d91b2c98f0e8ae15c7401601268161497c820459088065570a12860", checked := Try.checked }
namespace Rows
def none {H : Type} : Left H := { results := [], args := [] }

/-- 'nomenclatorlaw05.RdataTells': WHATEVER THE INPUT: true; the input reads as it did. -/
def rdataTellsSpec : ChangeSpec := { name := "rdataTells", fn := fun _ => fun
  | [d1, d2, d3] => { results := [.lit (.bool true)], args := [d1, d2, d3] }
  | _ => none }
def rdataTellsRow : OpenClaim := { program := "ytdeoembjfdbbkaa", sum := "0523cb100d91b2c98f0e8ae15c7401601268161497c820459088065570a12860", func := "nomenclator/nomenclatorlaw05.RdataTells", spec := "rdataTells", inPlace := ["internal/bytealg.IndexByteString", "internal/bytealg.Compare"], apart := false }
def RdataTellsSaid : Prop := rdataTellsRow.holds Try.pinned (OpenSpec.ofChange rdataTellsSpec)

/-- ITS FALSE NEIGHBOUR: 'it returns false'. Refute it at one input. -/
def rdataTellsWrong : ChangeSpec := { name := "rdataTells", fn := fun _ => fun
  | [d1, d2, d3] => { results := [.lit (.bool false)], args := [d1, d2, d3] }
  | _ => none }
def RdataTellsWrongFalsely : Prop := rdataTellsRow.holds Try.pinned (OpenSpec.ofChange rdataTellsWrong)

/-- 'nomenclatorlaw05.RdataReads': WHATEVER THE INPUT: true; the input reads as it did. -/
def rdataReadsSpec : ChangeSpec := { name := "rdataReads", fn := fun _ => fun
  | [d1, d2] => { results := [.lit (.bool true)], args := [d1, d2] }
  | _ => none }
def rdataReadsRow : OpenClaim := { program := "ytdeoembjfdbbkaa", sum := "0523cb100d91b2c98f0e8ae15c7401601268161497c820459088065570a12860", func := "nomenclator/nomenclatorlaw05.RdataReads", spec := "rdataReads", inPlace := ["internal/bytealg.IndexByteString"], apart := false }
def RdataReadsSaid : Prop := rdataReadsRow.holds Try.pinned (OpenSpec.ofChange rdataReadsSpec)

/-- ITS FALSE NEIGHBOUR: 'it returns false'. Refute it at one input. -/
def rdataReadsWrong : ChangeSpec := { name := "rdataReads", fn := fun _ => fun
  | [d1, d2] => { results := [.lit (.bool false)], args := [d1, d2] }
  | _ => none }
def RdataReadsWrongFalsely : Prop := rdataReadsRow.holds Try.pinned (OpenSpec.ofChange rdataReadsWrong)

/-- 'nomenclatorlaw05.RdataBack': WHATEVER THE INPUT: true; the input reads as it did. -/
def rdataBackSpec : ChangeSpec := { name := "rdataBack", fn := fun _ => fun
  | [d1, d2, d3] => { results := [.lit (.bool true)], args := [d1, d2, d3] }
  | _ => none }
def rdataBackRow : OpenClaim := { program := "ytdeoembjfdbbkaa", sum := "0523cb100d91b2c98f0e8ae15c7401601268161497c820459088065570a12860", func := "nomenclator/nomenclatorlaw05.RdataBack", spec := "rdataBack", inPlace := ["internal/bytealg.IndexByteString"], apart := false }
def RdataBackSaid : Prop := rdataBackRow.holds Try.pinned (OpenSpec.ofChange rdataBackSpec)

/-- ITS FALSE NEIGHBOUR: 'it returns false'. Refute it at one input. -/
def rdataBackWrong : ChangeSpec := { name := "rdataBack", fn := fun _ => fun
  | [d1, d2, d3] => { results := [.lit (.bool false)], args := [d1, d2, d3] }
  | _ => none }
def RdataBackWrongFalsely : Prop := rdataBackRow.holds Try.pinned (OpenSpec.ofChange rdataBackWrong)

/-- 'nomenclatorlaw05.RdataOrder': WHATEVER THE INPUT: true; the input reads as it did. -/
def rdataOrderSpec : ChangeSpec := { name := "rdataOrder", fn := fun _ => fun
  | [d1, d2, d3, d4] => { results := [.lit (.bool true)], args := [d1, d2, d3, d4] }
  | _ => none }
def rdataOrderRow : OpenClaim := { program := "ytdeoembjfdbbkaa", sum := "0523cb100d91b2c98f0e8ae15c7401601268161497c820459088065570a12860", func := "nomenclator/nomenclatorlaw05.RdataOrder", spec := "rdataOrder", inPlace := ["internal/bytealg.IndexByteString", "internal/bytealg.Compare"], apart := false }
def RdataOrderSaid : Prop := rdataOrderRow.holds Try.pinned (OpenSpec.ofChange rdataOrderSpec)

/-- ITS FALSE NEIGHBOUR: 'it returns false'. Refute it at one input. -/
def rdataOrderWrong : ChangeSpec := { name := "rdataOrder", fn := fun _ => fun
  | [d1, d2, d3, d4] => { results := [.lit (.bool false)], args := [d1, d2, d3, d4] }
  | _ => none }
def RdataOrderWrongFalsely : Prop := rdataOrderRow.holds Try.pinned (OpenSpec.ofChange rdataOrderWrong)

/-- 'nomenclatorlaw05.RdataKnown': WHATEVER THE INPUT: true; the input reads as it did. -/
def rdataKnownSpec : ChangeSpec := { name := "rdataKnown", fn := fun _ => fun
  | [] => { results := [.lit (.bool true)], args := [] }
  | _ => none }
def rdataKnownRow : OpenClaim := { program := "ytdeoembjfdbbkaa", sum := "0523cb100d91b2c98f0e8ae15c7401601268161497c820459088065570a12860", func := "nomenclator/nomenclatorlaw05.RdataKnown", spec := "rdataKnown", inPlace := ["internal/bytealg.IndexByteString", "internal/bytealg.Compare"], apart := false }
def RdataKnownSaid : Prop := rdataKnownRow.holds Try.pinned (OpenSpec.ofChange rdataKnownSpec)

/-- ITS FALSE NEIGHBOUR: 'it returns false'. Refute it at one input. -/
def rdataKnownWrong : ChangeSpec := { name := "rdataKnown", fn := fun _ => fun
  | [] => { results := [.lit (.bool false)], args := [] }
  | _ => none }
def RdataKnownWrongFalsely : Prop := rdataKnownRow.holds Try.pinned (OpenSpec.ofChange rdataKnownWrong)

/- THE SECOND FORM. 'bulk': how many values and letters a reading holds, each counted each time it is reached (what is shared counts as often as it is met; a slice's spare places count too). A statement '..UptoSaid' is the law's where the arguments, and the package variables that the reading takes, are together of bulk at most 1048576: NARROWER than '..Said'. Prove '..Said' where nothing that the law and all that it calls make is longer than what came in: it says more and counts as full. Else prove '..UptoSaid'. A law counts once. -/
mutual
def uptoBulk {H : Type} : DataW H → Nat
  | .lit (.string bytes) => bytes.length + 1
  | .lit _ => 1
  | .nil => 1
  | .ptr d => uptoBulk d + 1
  | .slice elems spare => uptoBulkAll elems + uptoBulkAll spare + 1
  | .agg parts => uptoBulkAll parts + 1
  | .iface _ d => uptoBulk d + 1
  | .map entries => uptoBulkEntries entries + 1
  | .held _ => 1
def uptoBulkAll {H : Type} : List (DataW H) → Nat
  | [] => 0
  | d :: r => uptoBulk d + uptoBulkAll r
def uptoBulkEntries {H : Type} : List (Lit × DataW H) → Nat
  | [] => 0
  | x :: r => uptoBulkEntry x + uptoBulkEntries r
def uptoBulkEntry {H : Type} : Lit × DataW H → Nat
  | (.string bytes, d) => bytes.length + uptoBulk d + 1
  | (_, d) => uptoBulk d + 1
 end
def uptoSmall : (H : Type) → List (DataW H) → Bool := fun _ ds => decide (uptoBulkAll ds ≤ 1048576)
def OpenSpec.upto (s : _root_.Go.ChangeSpec) : _root_.Go.OpenSpec := { _root_.Go.OpenSpec.ofChange s with cond := some uptoSmall }

/-- 'nomenclatorlaw05.RdataTells', WHERE WHAT IT READS IS OF BULK AT MOST 1048576: true; the input reads as it did. -/
def rdataTellsUptoRow : OpenClaim := { program := "ytdeoembjfdbbkaa", sum := "0523cb100d91b2c98f0e8ae15c7401601268161497c820459088065570a12860", func := "nomenclator/nomenclatorlaw05.RdataTells", spec := "rdataTells", inPlace := ["internal/bytealg.IndexByteString", "internal/bytealg.Compare"], apart := false, narrowed := true }
def RdataTellsUptoSaid : Prop := rdataTellsUptoRow.holds Try.pinned (OpenSpec.upto rdataTellsSpec)

/-- 'nomenclatorlaw05.RdataReads', WHERE WHAT IT READS IS OF BULK AT MOST 1048576: true; the input reads as it did. -/
def rdataReadsUptoRow : OpenClaim := { program := "ytdeoembjfdbbkaa", sum := "0523cb100d91b2c98f0e8ae15c7401601268161497c820459088065570a12860", func := "nomenclator/nomenclatorlaw05.RdataReads", spec := "rdataReads", inPlace := ["internal/bytealg.IndexByteString"], apart := false, narrowed := true }
def RdataReadsUptoSaid : Prop := rdataReadsUptoRow.holds Try.pinned (OpenSpec.upto rdataReadsSpec)

/-- 'nomenclatorlaw05.RdataBack', WHERE WHAT IT READS IS OF BULK AT MOST 1048576: true; the input reads as it did. -/
def rdataBackUptoRow : OpenClaim := { program := "ytdeoembjfdbbkaa", sum := "0523cb100d91b2c98f0e8ae15c7401601268161497c820459088065570a12860", func := "nomenclator/nomenclatorlaw05.RdataBack", spec := "rdataBack", inPlace := ["internal/bytealg.IndexByteString"], apart := false, narrowed := true }
def RdataBackUptoSaid : Prop := rdataBackUptoRow.holds Try.pinned (OpenSpec.upto rdataBackSpec)

/-- 'nomenclatorlaw05.RdataOrder', WHERE WHAT IT READS IS OF BULK AT MOST 1048576: true; the input reads as it did. -/
def rdataOrderUptoRow : OpenClaim := { program := "ytdeoembjfdbbkaa", sum := "0523cb100d91b2c98f0e8ae15c7401601268161497c820459088065570a12860", func := "nomenclator/nomenclatorlaw05.RdataOrder", spec := "rdataOrder", inPlace := ["internal/bytealg.IndexByteString", "internal/bytealg.Compare"], apart := false, narrowed := true }
def RdataOrderUptoSaid : Prop := rdataOrderUptoRow.holds Try.pinned (OpenSpec.upto rdataOrderSpec)

/-- 'nomenclatorlaw05.RdataKnown', WHERE WHAT IT READS IS OF BULK AT MOST 1048576: true; the input reads as it did. -/
def rdataKnownUptoRow : OpenClaim := { program := "ytdeoembjfdbbkaa", sum := "0523cb100d91b2c98f0e8ae15c7401601268161497c820459088065570a12860", func := "nomenclator/nomenclatorlaw05.RdataKnown", spec := "rdataKnown", inPlace := ["internal/bytealg.IndexByteString", "internal/bytealg.Compare"], apart := false, narrowed := true }
def RdataKnownUptoSaid : Prop := rdataKnownUptoRow.holds Try.pinned (OpenSpec.upto rdataKnownSpec)

end Rows
end Go.Proofs.Ytdeoembjfdbbkaa
