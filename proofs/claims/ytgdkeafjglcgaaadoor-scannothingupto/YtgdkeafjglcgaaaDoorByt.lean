/- What single bytes are: visible, digits, special; the byte that the front of a text stands for. -/
import Derived.Test.YtgdkeafjglcgaaaDoorStr
import Derived.Deep.QuietTactic
import Derived.BigQuiet
import Derived.Deep.RegionHeld3
namespace Go.Proofs.YtgdkeafjglcgaaaDoor
open Go.ChangeShapes Go.WideShapes Go.ChangeAt Go.RowKit
set_option linter.unusedVariables false
set_option linter.unusedSimpArgs false




def vis (c : Int) : Bool := decide (33 ≤ c) && decide (c ≤ 126)
def dgt (c : Int) : Bool := decide (48 ≤ c) && decide (c ≤ 57)
theorem vis_iff (c : Int) : vis c = true ↔ 33 ≤ c ∧ c ≤ 126 := by simp [vis]
theorem dgt_iff (c : Int) : dgt c = true ↔ 48 ≤ c ∧ c ≤ 57 := by simp [dgt]
theorem ret_bool {a b : Bool} (h : a = b) : Ending.returned (.bool a) = .returned (.bool b) := by rw [h]
/-- The byte that the front of a text stands for, and how many bytes of it say so; 0, if they say none. -/
def v2 (a b : Int) : Int := 10 * (a - 48) + (b - 48)
def v3 (a b c : Int) : Int := 100 * (a - 48) + 10 * (b - 48) + (c - 48)
def num3 (l : List Int) : Int × Int :=
  if l.length < 4 then (0, 0)
  else if dgt (l.getD 1 0) && dgt (l.getD 2 0) && dgt (l.getD 3 0) && decide (v3 (l.getD 1 0) (l.getD 2 0) (l.getD 3 0) ≤ 255) then (v3 (l.getD 1 0) (l.getD 2 0) (l.getD 3 0), 4)
  else (0, 0)
def esc (l : List Int) : Int × Int :=
  if l.length ≤ 1 then (0, 0)
  else if dgt (l.getD 1 0) then num3 l
  else if vis (l.getD 1 0) then (l.getD 1 0, 2) else (0, 0)
def fr (l : List Int) : Int × Int :=
  if !vis (l.getD 0 0) then (0, 0)
  else if l.getD 0 0 == 92 then esc l
  else (l.getD 0 0, 1)
theorem ret_two {a b c d : Int} (h : a = c) (h' : b = d) : Ending.returned (.tuple #[.int .u8 a, .int .i64 b]) = .returned (.tuple #[.int .u8 c, .int .i64 d]) := by rw [h, h']
def num3c (a b c : Int) : Int × Int := if dgt a && dgt b && dgt c && decide (v3 a b c ≤ 255) then (v3 a b c, 4) else (0, 0)
end Go.Proofs.YtgdkeafjglcgaaaDoor
