/- The document's reading: what a step comes to. -/
import Derived.Test.YtgdkeafjglcgaaaDd
import Derived.Test.YtgdkeafjglcgaaaDe
namespace Go.Proofs.Ytgdkeafjglcgaaa
open Go.ChangeShapes Go.WideShapes Go.ChangeAt Go.RowKit
set_option linter.unusedVariables false
set_option linter.unusedSimpArgs false

/-- What is left to be read; a fault is less. -/
def atM (X : Nat) (s : ByteArray) (w : World) : Nat :=
  match w.cell? ⟨X, 1, none⟩, w.cell? ⟨X, 9, none⟩ with
  | some (.int _ z), some (.int _ e) => 2 * (s.size - z.toNat) + (if e = 0 then 1 else 0)
  | _, _ => 0
theorem Dx.atM {w : World} {X : Nat} {s : ByteArray} {p ln : Nat} {op : Int} {bl : Bool} {el : Int} {eb : Bool} {wv ev : Value} {fe fl : Int} (h : Dx w X s p ln op bl el eb wv ev fe fl) : Go.Proofs.Ytgdkeafjglcgaaa.atM X s w = 2 * (s.size - p) + (if fe = 0 then 1 else 0) := by
  unfold Go.Proofs.Ytgdkeafjglcgaaa.atM
  rw [h.c1, h.c9]
  simp
/-- Bounds of what is read up to p. -/
structure Nd (q : Cf) (p : Nat) : Prop where
  st : q.st = 0
  ws : q.ws.length ≤ 64
  es : q.es.length ≤ p
  ln : q.line ≤ p + 1
  op : q.op ≤ p
def StD (B X : Nat) (w0 : World) (s : ByteArray) (L : Nat) (q : Cf) (p : Nat) (w' : World) : Prop :=
  (DF B X w0 w' s ∧ Er (goF L q (rst s p))) ∨ ∃ q' p' wv ev wS fl, DS B X w0 w' s q' p' wv ev wS fl ∧ Nd q' p' ∧ p < p' ∧ p' ≤ s.size ∧ goF L q (rst s p) = goF L q' (rst s p')
theorem u8_ne {c k : UInt8} (h : c ≠ k) (n : Int) (hn : (k.toNat : Int) = n) : ¬ ((c.toNat : Nat) : Int) = n := fun e => h (by rw [← UInt8.toNat_inj]; omega)
theorem u8_nb {c k : UInt8} (h : c ≠ k) (n : Int) (hn : (k.toNat : Int) = n) : (((c.toNat : Nat) : Int) == n) = false := by simpa using u8_ne h n hn
theorem Nd.add {q : Cf} {p p' : Nat} (h : Nd q p) (hp : p ≤ p') (h64 : ¬ q.ws.length = 64) (v : Wd) : Nd (addW q v) p' :=
  ⟨h.st, by have := h.ws; simp [addW]; omega, by have := h.es; show q.es.length ≤ p'; omega, by have := h.ln; show q.line ≤ p' + 1; omega, by have := h.op; show q.op ≤ p'; omega⟩
end Go.Proofs.Ytgdkeafjglcgaaa
