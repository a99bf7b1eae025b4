/- What is left to be read. -/
import Derived.Test.YtgdkeafjglcgaaaDf0
namespace Go.Proofs.Ytgdkeafjglcgaaa
open Go.ChangeShapes Go.WideShapes Go.ChangeAt Go.RowKit
set_option linter.unusedVariables false
set_option linter.unusedSimpArgs false

/-- What is left to be read; a fault is nothing. -/
def mE (X : Nat) (s : ByteArray) (w : World) : Nat :=
  match w.cell? ⟨X, 1, none⟩, w.cell? ⟨X, 9, none⟩ with
  | some (.int _ z), some (.int _ e) => if e = 0 then s.size - z.toNat + 1 else 0
  | _, _ => 0
theorem Dx.mE {w : World} {X : Nat} {s : ByteArray} {p ln : Nat} {op : Int} {bl : Bool} {el : Int} {eb : Bool} {wv ev : Value} {fe fl : Int} (h : Dx w X s p ln op bl el eb wv ev fe fl) : Go.Proofs.Ytgdkeafjglcgaaa.mE X s w = if fe = 0 then s.size - p + 1 else 0 := by
  unfold Go.Proofs.Ytgdkeafjglcgaaa.mE
  rw [h.c1, h.c9]
  simp
end Go.Proofs.Ytgdkeafjglcgaaa
