/- Names, as the document has them: the same, under, folded, cut, joined. -/
import Derived.Test.YtfnpiknobmecbaaNr
namespace Go.Proofs.Ytfnpiknobmecbaa
open Go.ChangeShapes Go.WideShapes Go.ChangeAt Go.RowKit
set_option linter.unusedVariables false
set_option linter.unusedSimpArgs false


/-- What is asked of a name that is read: it lies there, and is not too great. -/
structure Nm (w : World) (a : Option Addr) (n : Nat) (ss : List ByteArray) : Prop where
  rd : RdT w a ss
  len : ss.length = n
  sz : nsz ss ≤ 1000000000000
theorem nsz_len : ∀ l : List ByteArray, l.length + 1 ≤ nsz l
  | [] => by simp [nsz]
  | x :: l => by have := nsz_len l; simp only [List.length_cons, nsz]; omega
theorem nsz_mem : ∀ (l : List ByteArray) (s : ByteArray), s ∈ l → s.size ≤ nsz l
  | x :: l, s, h => by
    simp only [nsz]
    rcases List.mem_cons.1 h with rfl | h
    · omega
    · have := nsz_mem l s h; omega
theorem Nm.below {w w' : World} {a : Option Addr} {n : Nat} {ss : List ByteArray} (h : Nm w a n ss) (hb : Below w.heap.size w w') : Nm w' a n ss := ⟨h.rd.below hb, h.len, h.sz⟩
theorem Nm.n63 {w : World} {a : Option Addr} {n : Nat} {ss : List ByteArray} (h : Nm w a n ss) : n ≤ 1000000000000 := by have := nsz_len ss; have := h.len; have := h.sz; omega
theorem Nm.mem {w : World} {a : Option Addr} {n : Nat} {ss : List ByteArray} (h : Nm w a n ss) (s : ByteArray) (hs : s ∈ ss) : s.size ≤ 1000000000000 := Nat.le_trans (nsz_mem ss s hs) h.sz
theorem nm_check {a : Option Addr} {n : Nat} {ss : List ByteArray} {w : World} (c : Nat) (h : Nm w a n ss) : Calls Try.prog 50 #[.slice a n c] w fun e w' => e = .returned (.int .i64 (nck ss)) ∧ w' = w :=
  refcheck_any a n c ss w h.rd h.len (by have := h.sz; omega) (by have := h.n63; omega) (fun s hs => by have := h.mem s hs; omega)
theorem beq_nat (k n : Nat) : ((k : Int) == (n : Int)) = (k == n) := by
  by_cases h : k = n
  · subst h; simp
  · have h2 : ¬ (k : Int) = (n : Int) := by omega
    rw [beq_false_of_ne h, beq_false_of_ne h2]
def nsame (ss ts : List ByteArray) : Bool := ss.length == ts.length && ncom ss ts == ss.length
def nunder (ss ts : List ByteArray) : Bool := ncom ss ts == ts.length
/-- What a call that makes a name answers: the labels, the error. -/
def NPost (r : List ByteArray) (k : Int) (w : World) (e : Ending) (w' : World) : Prop :=
  ∃ v ys, e = .returned (.tuple #[v, .int .i64 k]) ∧ Hid (OwnT w.heap.size w' v r.length ys 1000000000000 ∧ ys.take r.length = r ∧ Below w.heap.size w w')
theorem npost_none {k : Int} {w w' : World} {e : Ending} (he : e = .returned (.tuple #[.slice none 0 0, .int .i64 k])) (hb : Below w.heap.size w w') : NPost [] k w e w' :=
  ⟨.slice none 0 0, [], he, OwnT.nil _ _ _, rfl, hb⟩
def nparent (ss : List ByteArray) : List ByteArray × Int := if nck ss = 0 then (if ss.length = 0 then ([], 9) else (ss.drop 1, 0)) else ([], nck ss)
def nabove (ss : List ByteArray) (d : Int) : List ByteArray × Int := if nck ss = 0 then (if d < 0 ∨ (ss.length : Int) < d then ([], 2) else (ss.drop (ss.length - d.toNat), 0)) else ([], nck ss)
theorem nsz_drop (l : List ByteArray) (k : Nat) : nsz (l.drop k) ≤ nsz l := by
  induction l generalizing k with
  | nil => simp [nsz]
  | cons x l ih =>
    cases k with
    | zero => simp
    | succ k => simp only [List.drop_succ_cons, nsz]; have := ih k; omega
theorem Nm.cut {w : World} {a a' : Option Addr} {n : Nat} {ss : List ByteArray} (h : Nm w a n ss) (p : Nat) (ha : p < ss.length → ∀ b o, a = some ⟨b, o, none⟩ → a' = some ⟨b, o + p, none⟩) : Nm w a' (n - p) (ss.drop p) := by
  refine ⟨?_, by rw [List.length_drop, h.len], Nat.le_trans (nsz_drop ss p) h.sz⟩
  have := RdV.cut (w := w) (a := a) (xs := tv ss) h.rd p (tv ss).length (a' := a') (fun hp => ha (by rw [tv_len] at hp; exact hp))
  rw [List.take_of_length_le (by simp), tv_drop] at this
  exact this
theorem nm_nil (w : World) (a : Option Addr) : Nm w a 0 [] := ⟨.inl rfl, rfl, by decide⟩
theorem nck_small {ss : List ByteArray} (h : nck ss = 0) : nsz ss ≤ 255 ∧ labsOk ss := by
  unfold nck at h
  split at h
  · rename_i h1
    split at h
    · cases h
    · exact ⟨by omega, h1⟩
  · cases h
theorem nsz_append (a b : List ByteArray) : nsz (a ++ b) + 1 = nsz a + nsz b := by
  induction a with
  | nil => simp [nsz]; omega
  | cons x a ih => simp only [List.cons_append, nsz]; omega
def njoin (a b : List ByteArray) : List ByteArray × Int := if nck a = 0 then (if nck b = 0 then (if nck (a ++ b) = 0 then (a ++ b, 0) else ([], 5)) else ([], nck b)) else ([], nck a)
end Go.Proofs.Ytfnpiknobmecbaa
