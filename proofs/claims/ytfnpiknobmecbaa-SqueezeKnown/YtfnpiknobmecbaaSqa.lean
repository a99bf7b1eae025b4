/- Names that point back, without any program: what is read at a place of bytes. -/
import Derived.Test.YtfnpiknobmecbaaNp
namespace Go.Proofs.Ytfnpiknobmecbaa
set_option linter.unusedVariables false
set_option linter.unusedSimpArgs false
/-- The label of a length at a place. -/
def qlab (l : List Int) (p n : Nat) : ByteArray := lb ((l.drop p).take n)
/-- Where a pointer at a place points. -/
def qto (l : List Int) (p : Nat) : Nat := (256 * (l.getD p 0 - 192) + l.getD (p + 1) 0).toNat
/-- A name read from a place on, in a stretch that began at st; bh: the place behind the first pointer; out: the labels so far. -/
def qgo (l : List Int) (back : Bool) (p st : Nat) (bh : Option Nat) (out : List ByteArray) : Option (List ByteArray × Nat) :=
  if h : p < l.length then
    if l.getD p 0 = 0 then some (out, bh.getD (p + 1))
    else if l.getD p 0 ≤ 63 then
      if p + 1 + (l.getD p 0).toNat ≤ l.length then
        if nck (out ++ [qlab l (p + 1) (l.getD p 0).toNat]) = 0 then qgo l back (p + 1 + (l.getD p 0).toNat) st bh (out ++ [qlab l (p + 1) (l.getD p 0).toNat]) else none
      else none
    else if back = true ∧ 192 ≤ l.getD p 0 ∧ p + 1 < l.length then
      if qto l p < st then qgo l back (qto l p) (qto l p) (some (bh.getD (p + 2))) out else none
    else none
  else none
termination_by (st, l.length - p)
theorem qgo_out {l : List Int} {back : Bool} {p st : Nat} {bh : Option Nat} {out : List ByteArray} (h : ¬ p < l.length) : qgo l back p st bh out = none := by rw [qgo, dif_neg h]
theorem qgo_end {l : List Int} {back : Bool} {p st : Nat} {bh : Option Nat} {out : List ByteArray} (h : p < l.length) (h0 : l.getD p 0 = 0) : qgo l back p st bh out = some (out, bh.getD (p + 1)) := by rw [qgo, dif_pos h, if_pos h0]
theorem qgo_lab {l : List Int} {back : Bool} {p st : Nat} {bh : Option Nat} {out : List ByteArray} (h : p < l.length) (h0 : ¬ l.getD p 0 = 0) (h1 : l.getD p 0 ≤ 63) (h2 : p + 1 + (l.getD p 0).toNat ≤ l.length) (h3 : nck (out ++ [qlab l (p + 1) (l.getD p 0).toNat]) = 0) :
    qgo l back p st bh out = qgo l back (p + 1 + (l.getD p 0).toNat) st bh (out ++ [qlab l (p + 1) (l.getD p 0).toNat]) := by rw [qgo, dif_pos h, if_neg h0, if_pos h1, if_pos h2, if_pos h3]
theorem qgo_labLong {l : List Int} {back : Bool} {p st : Nat} {bh : Option Nat} {out : List ByteArray} (h : p < l.length) (h0 : ¬ l.getD p 0 = 0) (h1 : l.getD p 0 ≤ 63) (h2 : ¬ p + 1 + (l.getD p 0).toNat ≤ l.length) :
    qgo l back p st bh out = none := by rw [qgo, dif_pos h, if_neg h0, if_pos h1, if_neg h2]
theorem qgo_labBad {l : List Int} {back : Bool} {p st : Nat} {bh : Option Nat} {out : List ByteArray} (h : p < l.length) (h0 : ¬ l.getD p 0 = 0) (h1 : l.getD p 0 ≤ 63) (h2 : p + 1 + (l.getD p 0).toNat ≤ l.length) (h3 : ¬ nck (out ++ [qlab l (p + 1) (l.getD p 0).toNat]) = 0) :
    qgo l back p st bh out = none := by rw [qgo, dif_pos h, if_neg h0, if_pos h1, if_pos h2, if_neg h3]
theorem qgo_ptr {l : List Int} {back : Bool} {p st : Nat} {bh : Option Nat} {out : List ByteArray} (h : p < l.length) (h1 : back = true ∧ 192 ≤ l.getD p 0 ∧ p + 1 < l.length) (h2 : qto l p < st) :
    qgo l back p st bh out = qgo l back (qto l p) (qto l p) (some (bh.getD (p + 2))) out := by
  rw [qgo, dif_pos h, if_neg (by have := h1.2.1; omega), if_neg (by have := h1.2.1; omega), if_pos h1, if_pos h2]
theorem qgo_ptrBad {l : List Int} {back : Bool} {p st : Nat} {bh : Option Nat} {out : List ByteArray} (h : p < l.length) (h1 : back = true ∧ 192 ≤ l.getD p 0 ∧ p + 1 < l.length) (h2 : ¬ qto l p < st) :
    qgo l back p st bh out = none := by
  rw [qgo, dif_pos h, if_neg (by have := h1.2.1; omega), if_neg (by have := h1.2.1; omega), if_pos h1, if_neg h2]
theorem qgo_no {l : List Int} {back : Bool} {p st : Nat} {bh : Option Nat} {out : List ByteArray} (h : p < l.length) (h0 : ¬ l.getD p 0 ≤ 63) (h1 : ¬ (back = true ∧ 192 ≤ l.getD p 0 ∧ p + 1 < l.length)) :
    qgo l back p st bh out = none := by rw [qgo, dif_pos h, if_neg (by omega), if_neg h0, if_neg h1]
/-- What Read answers: the name, the place behind, the error. -/
def qread (l : List Int) (d : Int) (back : Bool) : List ByteArray × Int × Int :=
  if d < 0 ∨ (l.length : Int) < d then ([], 0, 2) else
  match qgo l back d.toNat d.toNat none [] with
  | some (n, q) => (n, q, 0)
  | none => ([], 0, 8)
theorem qlab_size {l : List Int} {p n : Nat} (h : p + n ≤ l.length) : (qlab l p n).size = n := by rw [qlab, lb_size]; simp; omega
theorem nck_nil : nck [] = 0 := by decide
/-- Induction along a reading. -/
theorem qgo_ind {l : List Int} {back : Bool} {P : Nat → Nat → Option Nat → List ByteArray → Prop} (R : Option (List ByteArray × Nat))
    (hend : ∀ p st bh out, p < l.length → l.getD p 0 = 0 → R = some (out, bh.getD (p + 1)) → P p st bh out)
    (hlab : ∀ p st bh out, p < l.length → ¬ l.getD p 0 = 0 → l.getD p 0 ≤ 63 → p + 1 + (l.getD p 0).toNat ≤ l.length → nck (out ++ [qlab l (p + 1) (l.getD p 0).toNat]) = 0 → qgo l back (p + 1 + (l.getD p 0).toNat) st bh (out ++ [qlab l (p + 1) (l.getD p 0).toNat]) = R → P (p + 1 + (l.getD p 0).toNat) st bh (out ++ [qlab l (p + 1) (l.getD p 0).toNat]) → P p st bh out)
    (hptr : ∀ p st bh out, p < l.length → back = true ∧ 192 ≤ l.getD p 0 ∧ p + 1 < l.length → qto l p < st → qgo l back (qto l p) (qto l p) (some (bh.getD (p + 2))) out = R → P (qto l p) (qto l p) (some (bh.getD (p + 2))) out → P p st bh out)
    (hR : R ≠ none) : ∀ (p st : Nat) (bh : Option Nat) (out : List ByteArray), qgo l back p st bh out = R → P p st bh out := by
  intro p st bh out h
  by_cases hp : p < l.length
  · by_cases h0 : l.getD p 0 = 0
    · rw [qgo_end hp h0] at h
      exact hend p st bh out hp h0 h.symm
    · by_cases h1 : l.getD p 0 ≤ 63
      · by_cases h2 : p + 1 + (l.getD p 0).toNat ≤ l.length
        · by_cases h3 : nck (out ++ [qlab l (p + 1) (l.getD p 0).toNat]) = 0
          · rw [qgo_lab hp h0 h1 h2 h3] at h
            exact hlab p st bh out hp h0 h1 h2 h3 h (qgo_ind R hend hlab hptr hR _ _ _ _ h)
          · rw [qgo_labBad hp h0 h1 h2 h3] at h; exact absurd h.symm hR
        · rw [qgo_labLong hp h0 h1 h2] at h; exact absurd h.symm hR
      · by_cases h2 : back = true ∧ 192 ≤ l.getD p 0 ∧ p + 1 < l.length
        · by_cases h3 : qto l p < st
          · rw [qgo_ptr hp h2 h3] at h
            exact hptr p st bh out hp h2 h3 h (qgo_ind R hend hlab hptr hR _ _ _ _ h)
          · rw [qgo_ptrBad hp h2 h3] at h; exact absurd h.symm hR
        · rw [qgo_no hp h1 h2] at h; exact absurd h.symm hR
  · rw [qgo_out hp] at h; exact absurd h.symm hR
termination_by p st => (st, l.length - p)
theorem qgo_name {l : List Int} {back : Bool} {p st : Nat} {bh : Option Nat} {out n : List ByteArray} {q : Nat} (h : qgo l back p st bh out = some (n, q)) (ho : nck out = 0) : nck n = 0 := by
  refine qgo_ind (P := fun p st bh out => nck out = 0 → nck n = 0) (some (n, q)) ?_ ?_ ?_ (by simp) p st bh out h ho
  · intro p st bh out _ _ e ho; simp only [Option.some.injEq, Prod.mk.injEq] at e; rw [e.1]; exact ho
  · intro p st bh out _ _ _ _ h3 _ ih _; exact ih h3
  · intro p st bh out _ _ _ _ ih ho; exact ih ho
theorem qgo_behind {l : List Int} {back : Bool} {p st : Nat} {out n : List ByteArray} {q : Nat} (h : qgo l back p st none out = some (n, q)) : p < q ∧ q ≤ l.length := by
  have := qgo_ind (P := fun p st bh out => (∀ r, bh = some r → q = r) ∧ (bh = none → p < q ∧ q ≤ l.length)) (some (n, q)) ?_ ?_ ?_ (by simp) p st none out h
  · exact this.2 rfl
  · intro p st bh out hp _ e
    simp only [Option.some.injEq, Prod.mk.injEq] at e
    refine ⟨fun r hr => ?_, fun hr => ?_⟩
    · subst hr; exact e.2
    · subst hr; have := e.2; simp at this; omega
  · intro p st bh out hp h0 h1 h2 h3 _ ih
    refine ⟨ih.1, fun hr => ?_⟩
    have := ih.2 hr; omega
  · intro p st bh out hp h1 h2 _ ih
    refine ⟨fun r hr => ?_, fun hr => ?_⟩
    · subst hr; exact ih.1 _ rfl
    · subst hr
      have := ih.1 _ rfl
      simp at this
      omega
/-- Without pointers the same is read, and the place behind is the name's size further. -/
theorem qgo_plain {l : List Int} {p st : Nat} {out n : List ByteArray} {q : Nat} (h : qgo l false p st none out = some (n, q)) : qgo l true p st none out = some (n, q) ∧ q + nsz out = p + nsz n + 1 := by
  refine qgo_ind (P := fun p st bh out => bh = none → qgo l true p st bh out = some (n, q) ∧ q + nsz out = p + nsz n + 1) (some (n, q)) ?_ ?_ ?_ (by simp) p st none out h rfl
  · intro p st bh out hp h0 e hb
    subst hb
    rw [qgo_end hp h0]
    simp only [Option.some.injEq, Prod.mk.injEq] at e
    refine ⟨by rw [← e.1, ← e.2] , ?_⟩
    have := e.2; rw [e.1]; simp at this; omega
  · intro p st bh out hp h0 h1 h2 h3 _ ih hb
    rw [qgo_lab hp h0 h1 h2 h3]
    refine ⟨(ih hb).1, ?_⟩
    have := (ih hb).2
    rw [nsz_snoc, qlab_size h2] at this
    omega
  · intro p st bh out hp h1 h2 _ ih hb; exact absurd h1.1 (by simp)
/-- More bytes behind change nothing that is read. -/
theorem getD_more {l m : List Int} {p : Nat} (h : p < l.length) : (l ++ m).getD p 0 = l.getD p 0 := by
  rw [List.getD_eq_getElem?_getD, List.getD_eq_getElem?_getD, List.getElem?_append_left h]
theorem qlab_more {l m : List Int} {p n : Nat} (h : p + n ≤ l.length) : qlab (l ++ m) p n = qlab l p n := by
  unfold qlab
  congr 1
  rw [List.drop_append_of_le_length (by omega), List.take_append_of_le_length (by simp; omega)]
theorem qto_more {l m : List Int} {p : Nat} (h : p + 1 < l.length) : qto (l ++ m) p = qto l p := by
  unfold qto; rw [getD_more (by omega), getD_more h]
theorem qgo_more {l m : List Int} {p st : Nat} {bh : Option Nat} {back : Bool} {out n : List ByteArray} {q : Nat} (h : qgo l back p st bh out = some (n, q)) : qgo (l ++ m) back p st bh out = some (n, q) := by
  have hL : (l ++ m).length = l.length + m.length := by simp
  refine qgo_ind (P := fun p st bh out => qgo (l ++ m) back p st bh out = some (n, q)) (some (n, q)) ?_ ?_ ?_ (by simp) p st bh out h
  · intro p st bh out hp h0 e
    rw [qgo_end (by omega) (by rw [getD_more hp]; exact h0), e]
  · intro p st bh out hp h0 h1 h2 h3 _ ih
    have e := getD_more (m := m) hp
    have e2 := qlab_more (m := m) h2
    rw [qgo_lab (by omega) (by rw [e]; exact h0) (by rw [e]; exact h1) (by rw [e]; omega) (by rw [e, e2]; exact h3), e, e2]
    exact ih
  · intro p st bh out hp h1 h2 _ ih
    have e := getD_more (m := m) hp
    have e2 := qto_more (m := m) h1.2.2
    rw [qgo_ptr (by omega) ⟨h1.1, by rw [e]; exact h1.2.1, by have := h1.2.2; omega⟩ (by rw [e2]; exact h2), e2]
    exact ih
/-- What stands at a place: the labels t, up to e; st: where the stretch began. -/
inductive Stands (l : List Int) : Nat → Nat → List ByteArray → Nat → Prop
  | root (st p : Nat) (h : p < l.length) (h0 : l.getD p 0 = 0) : Stands l st p [] (p + 1)
  | label (st p : Nat) (s : ByteArray) (t : List ByteArray) (e : Nat) (hs : 1 ≤ s.size ∧ s.size ≤ 63) (h : p + 1 + s.size ≤ l.length) (h0 : l.getD p 0 = (s.size : Int)) (hl : qlab l (p + 1) s.size = s) (ht : Stands l st (p + 1 + s.size) t e) : Stands l st p (s :: t) e
  | point (st p to : Nat) (t : List ByteArray) (e : Nat) (h : p + 1 < l.length) (h0 : 192 ≤ l.getD p 0) (h1 : qto l p = to) (hlt : to < st) (ht : Stands l to to t e) : Stands l st p t (p + 2)
theorem nck_pre {a b : List ByteArray} (h : nck (a ++ b) = 0) : nck a = 0 := by
  have := nck_take (a ++ b) a.length h
  simpa using this
theorem Stands.read {l : List Int} {st p : Nat} {t : List ByteArray} {e : Nat} (h : Stands l st p t e) : ∀ (bh : Option Nat) (out : List ByteArray), nck (out ++ t) = 0 → qgo l true p st bh out = some (out ++ t, bh.getD e) := by
  induction h with
  | root st p h h0 => intro bh out _; rw [qgo_end h h0]; simp
  | label st p s t e hs h h0 hl ht ih =>
    intro bh out hk
    have hk' : nck ((out ++ [s]) ++ t) = 0 := by simpa using hk
    have e1 : (l.getD p 0).toNat = s.size := by rw [h0]; simp
    rw [qgo_lab (by omega) (by omega) (by omega) (by rw [e1]; exact h) (by rw [e1, hl]; exact nck_pre hk'), e1, hl, ih bh _ hk']
    simp
  | point st p to t e h h0 h1 hlt ht ih =>
    intro bh out hk
    rw [qgo_ptr (by omega) ⟨rfl, h0, h⟩ (by rw [h1]; exact hlt), h1, ih _ _ hk]
    simp
theorem Stands.more {l m : List Int} {st p : Nat} {t : List ByteArray} {e : Nat} (h : Stands l st p t e) : Stands (l ++ m) st p t e := by
  have hL : (l ++ m).length = l.length + m.length := by simp
  induction h with
  | root st p h h0 => exact .root st p (by omega) (by rw [getD_more h]; exact h0)
  | label st p s t e hs h h0 hl ht ih => exact .label st p s t e hs (by omega) (by rw [getD_more (by omega)]; exact h0) (by rw [qlab_more h]; exact hl) ih
  | point st p to t e h h0 h1 hlt ht ih => exact .point st p to t e (by omega) (by rw [getD_more (by omega)]; exact h0) (by rw [qto_more h]; exact h1) hlt ih
end Go.Proofs.Ytfnpiknobmecbaa
