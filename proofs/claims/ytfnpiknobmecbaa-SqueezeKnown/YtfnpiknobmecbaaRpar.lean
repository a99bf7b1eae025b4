/- Which label a text begins with, as the document reads it. -/
import Derived.Test.YtfnpiknobmecbaaPar
namespace Go.Proofs.Ytfnpiknobmecbaa
open Go.ChangeShapes Go.WideShapes Go.ChangeAt Go.RowKit
set_option linter.unusedVariables false
set_option linter.unusedSimpArgs false


theorem getD_drop (l : List Int) (p i : Nat) : (l.drop p).getD i 0 = l.getD (p + i) 0 := by
  simp [List.getD_eq_getElem?_getD, List.getElem?_drop]
theorem fr_at (s : ByteArray) (p : Nat) (h : p < s.size) : fr ((nums s).drop p) = if !vis (s[p].toNat : Int) then (0, 0) else if (s[p].toNat : Int) == 92 then esc ((nums s).drop p) else ((s[p].toNat : Int), 1) := by
  unfold fr
  rw [getD_drop, Nat.add_zero, nums_at s p h]
end Go.Proofs.Ytfnpiknobmecbaa
