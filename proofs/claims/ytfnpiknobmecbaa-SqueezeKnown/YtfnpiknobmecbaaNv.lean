/- Names out of bytes, as the document reads them. -/
import Derived.Test.YtfnpiknobmecbaaNu
namespace Go.Proofs.Ytfnpiknobmecbaa
open Go.ChangeShapes Go.WideShapes Go.ChangeAt Go.RowKit
set_option linter.unusedVariables false
set_option linter.unusedSimpArgs false


/-- The labels from a place of bytes on, and the place behind them; none, if no name's bytes stand there. -/
def rgo (l : List Int) (p : Nat) (out : List ByteArray) : Option (List ByteArray × Nat) :=
  if h : p < l.length ∧ l.getD p 0 ≤ 63 then
    if l.getD p 0 = 0 then some (out, p + 1)
    else if (l.length : Int) - ((p : Int) + 1) < l.getD p 0 then none
    else rgo l (p + 1 + (l.getD p 0).toNat) (out ++ [lb ((l.drop (p + 1)).take (l.getD p 0).toNat)])
  else none
termination_by l.length - p
decreasing_by omega
def nread (l : List Int) (d : Int) : List ByteArray × Int × Int :=
  if d < 0 ∨ (l.length : Int) ≤ d then ([], 0, 2)
  else match rgo l d.toNat [] with
    | none => ([], 0, 8)
    | some (out, q) => if nck out = 0 then (out, (q : Int), 0) else ([], 0, 8)
theorem rgo_end (l : List Int) (p : Nat) (out : List ByteArray) (h : ¬ (p < l.length ∧ l.getD p 0 ≤ 63)) : rgo l p out = none := by rw [rgo, dif_neg h]
theorem rgo_zero (l : List Int) (p : Nat) (out : List ByteArray) (h : p < l.length ∧ l.getD p 0 ≤ 63) (h0 : l.getD p 0 = 0) : rgo l p out = some (out, p + 1) := by rw [rgo, dif_pos h, if_pos h0]
theorem rgo_short (l : List Int) (p : Nat) (out : List ByteArray) (h : p < l.length ∧ l.getD p 0 ≤ 63) (h0 : ¬ l.getD p 0 = 0) (h1 : (l.length : Int) - ((p : Int) + 1) < l.getD p 0) : rgo l p out = none := by rw [rgo, dif_pos h, if_neg h0, if_pos h1]
theorem rgo_step (l : List Int) (p : Nat) (out : List ByteArray) (h : p < l.length ∧ l.getD p 0 ≤ 63) (h0 : ¬ l.getD p 0 = 0) (h1 : ¬ (l.length : Int) - ((p : Int) + 1) < l.getD p 0) : rgo l p out = rgo l (p + 1 + (l.getD p 0).toNat) (out ++ [lb ((l.drop (p + 1)).take (l.getD p 0).toNat)]) := by
  rw [rgo, dif_pos h, if_neg h0, if_neg h1]
def RPost (r : List ByteArray × Int × Int) (w : World) (e : Ending) (w' : World) : Prop :=
  ∃ v ys, e = .returned (.tuple #[v, .int .i64 r.2.1, .int .i64 r.2.2]) ∧ Hid (OwnT w.heap.size w' v r.1.length ys 1000000000000 ∧ ys.take r.1.length = r.1 ∧ Below w.heap.size w w')
theorem rpost_none {k : Int} {w w' : World} {e : Ending} (he : e = .returned (.tuple #[.slice none 0 0, .int .i64 0, .int .i64 k])) (hb : Below w.heap.size w w') : RPost ([], 0, k) w e w' :=
  ⟨.slice none 0 0, [], he, OwnT.nil _ _ _, rfl, hb⟩
end Go.Proofs.Ytfnpiknobmecbaa
