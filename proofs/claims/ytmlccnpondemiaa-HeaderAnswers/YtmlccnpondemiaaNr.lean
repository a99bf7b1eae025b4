/- Names, as the document has them: their size, whether they may be, what they have in common. -/
import Derived.Test.YtmlccnpondemiaaTm
import Derived.Test.YtmlccnpondemiaaRtx
import Derived.Test.YtmlccnpondemiaaRpar
namespace Go.Proofs.Ytmlccnpondemiaa
open Go.ChangeShapes Go.WideShapes Go.ChangeAt Go.RowKit
set_option linter.unusedVariables false
set_option linter.unusedSimpArgs false








/-- The size of a name. -/
def nsz : List ByteArray → Nat
  | [] => 1
  | s :: r => s.size + 1 + nsz r
theorem nsz_snoc (l : List ByteArray) (s : ByteArray) : nsz (l ++ [s]) = nsz l + s.size + 1 := by
  induction l with
  | nil => simp [nsz]; omega
  | cons x l ih => simp only [List.cons_append, nsz, ih]; omega
theorem nsz_le (l : List ByteArray) (k : Nat) : nsz (l.take k) ≤ nsz l := by
  induction l generalizing k with
  | nil => simp [nsz]
  | cons x l ih =>
    cases k with
    | zero => simp [nsz]; omega
    | succ k => simp only [List.take_succ_cons, nsz]; have := ih k; omega
theorem take_snocT (ss : List ByteArray) (k : Nat) (h : k < ss.length) : ss.take (k + 1) = ss.take k ++ [ss[k]] := List.take_succ_eq_append_getElem h
/-- Whether all labels may be; the error of a name. -/
def labsOk (ss : List ByteArray) : Prop := ∀ s ∈ ss, chk s.size = 0
instance (ss : List ByteArray) : Decidable (labsOk ss) := by unfold labsOk; exact inferInstance
def nck (ss : List ByteArray) : Int := if labsOk ss then (if 255 < nsz ss then 5 else 0) else 4
theorem chk_cases (n : Nat) : chk n = 0 ∨ chk n = 4 := by unfold chk; split <;> simp
/-- How many first labels of two lists are the same; how two lists stand, the first labels first. -/
def comR : List ByteArray → List ByteArray → Nat
  | x :: a, y :: b => if cmp x y = 0 then comR a b + 1 else 0
  | _, _ => 0
def cmpR : List ByteArray → List ByteArray → Int
  | [], [] => 0
  | [], _ :: _ => -1
  | _ :: _, [] => 1
  | x :: a, y :: b => if cmp x y = 0 then cmpR a b else cmp x y
/-- The same, of names: from the last label on. -/
def ncom (a b : List ByteArray) : Nat := comR a.reverse b.reverse
def ncmp (a b : List ByteArray) : Int := cmpR a.reverse b.reverse
theorem rev_drop (ss : List ByteArray) (k : Nat) (h : k < ss.length) : ss.reverse.drop k = ss[ss.length - 1 - k] :: ss.reverse.drop (k + 1) := by
  rw [List.drop_eq_getElem_cons (by simpa using h)]
  simp
theorem comR_le : ∀ a b : List ByteArray, comR a b ≤ a.length ∧ comR a b ≤ b.length
  | [], _ => by simp [comR]
  | _ :: _, [] => by simp [comR]
  | x :: a, y :: b => by
    unfold comR
    have := comR_le a b
    split <;> simp <;> omega
theorem ncom_le (a b : List ByteArray) : ncom a b ≤ a.length ∧ ncom a b ≤ b.length := by
  have := comR_le a.reverse b.reverse
  simpa [ncom] using this
theorem cmpR_com : ∀ a b : List ByteArray, cmpR a b = if comR a b = a.length ∧ comR a b = b.length then 0 else if comR a b = a.length then -1 else if comR a b = b.length then 1 else cmp (a.getD (comR a b) ⟨#[]⟩) (b.getD (comR a b) ⟨#[]⟩)
  | [], [] => by simp [cmpR, comR]
  | [], _ :: _ => by simp [cmpR, comR]
  | _ :: _, [] => by simp [cmpR, comR]
  | x :: a, y :: b => by
    unfold cmpR comR
    by_cases h : cmp x y = 0
    · rw [if_pos h, if_pos h, cmpR_com a b]
      simp
    · rw [if_neg h, if_neg h]
      simp
end Go.Proofs.Ytmlccnpondemiaa
