/- What the library's Builder does in a block of its own. -/
import Derived.Test.YtfnpiknobmecbaaByt
import Derived.Lib.Builder
import Derived.Lib.UnsafeStr
namespace Go.Proofs.Ytfnpiknobmecbaa
open Go.ChangeShapes Go.WideShapes Go.ChangeAt Go.RowKit
set_option linter.unusedVariables false
set_option linter.unusedSimpArgs false

theorem below_row {B : Nat} {w0 w w' : World} {b : Nat} (hb : Below B w0 w) (hlt : b < w.heap.size) (hg : w.grownBy w' (some b)) (hB : B ≤ b) : Below B w0 w' :=
  hb.grown hg (by omega) (fun k e => by have := Option.some.inj e; omega)
theorem freeze_other (w : World) (g n b : Nat) (h : g ≠ b) : (w.freeze ⟨g, 0, none⟩ n).heap[b]? = w.heap[b]? := by
  unfold World.freeze
  split
  · rfl
  · simp [Array.getElem?_modify, h]
end Go.Proofs.Ytfnpiknobmecbaa
