/- Words and numbers, without any program: the word of a number, the number of a word, decimal digits. -/
import Derived.Lib.ItoaNum
import Derived.Lib.AtoiTie
import Derived.Lib.AtoiBound
namespace Go.Proofs.YtjfpkpblifbljaaDoor
open Go Go.Lib
set_option linter.unusedVariables false

/-- The value of digits. -/
def dv (l : List UInt8) : Nat := l.foldl (fun a b => 10 * a + (b.toNat - 48)) 0
theorem dv_snoc (l : List UInt8) (b : UInt8) : dv (l ++ [b]) = 10 * dv l + (b.toNat - 48) := by
  simp [dv, List.foldl_append]
theorem dec_small {n : Nat} (h : n < 10) : decDigits n = [UInt8.ofNat (48 + n)] := by rw [decDigits, dif_pos h]
theorem dec_big {n : Nat} (h : ¬ n < 10) : decDigits n = decDigits (n / 10) ++ [UInt8.ofNat (48 + n % 10)] := by rw [decDigits, dif_neg h]
theorem dig_toNat (d : Nat) (h : d < 10) : (UInt8.ofNat (48 + d)).toNat = 48 + d := by
  rw [UInt8.toNat_ofNat']; omega
theorem dv_dec (n : Nat) : dv (decDigits n) = n := by
  induction n using Nat.strongRecOn with
  | _ n ih =>
    by_cases h : n < 10
    · rw [dec_small h]
      simp only [dv, List.foldl_cons, List.foldl_nil]
      rw [dig_toNat n h]; omega
    · rw [dec_big h, dv_snoc, ih (n / 10) (by omega), dig_toNat _ (by omega)]; omega
theorem dec_inj {m n : Nat} (h : decDigits m = decDigits n) : m = n := by
  rw [← dv_dec m, h, dv_dec]
theorem dec_ne (n : Nat) : decDigits n ≠ [] := by
  by_cases h : n < 10
  · rw [dec_small h]; simp
  · rw [dec_big h]; simp
theorem dec_digit (n : Nat) : ∀ b ∈ decDigits n, 48 ≤ b.toNat ∧ b.toNat ≤ 57 := by
  induction n using Nat.strongRecOn with
  | _ n ih =>
    by_cases h : n < 10
    · rw [dec_small h]
      intro b hb
      simp only [List.mem_singleton] at hb
      subst hb
      rw [dig_toNat n h]; omega
    · rw [dec_big h]
      intro b hb
      simp only [List.mem_append, List.mem_singleton] at hb
      rcases hb with hb | hb
      · exact ih (n / 10) (by omega) b hb
      · subst hb; rw [dig_toNat _ (by omega)]; omega
/-- No nought ahead, but of 0 alone. -/
theorem dec_head (n : Nat) (h : 0 < n) : ∃ b r, decDigits n = b :: r ∧ b.toNat ≠ 48 := by
  induction n using Nat.strongRecOn with
  | _ n ih =>
    by_cases h1 : n < 10
    · exact ⟨_, _, dec_small h1, by rw [dig_toNat n h1]; omega⟩
    · obtain ⟨b, r, e, hb⟩ := ih (n / 10) (by omega) (by omega)
      exact ⟨b, r ++ [UInt8.ofNat (48 + n % 10)], by rw [dec_big h1, e]; simp, hb⟩
theorem dec_len (n : Nat) (h : n < 100000) : (decDigits n).length ≤ 5 := by
  rw [decDigits_length]
  have : ∀ k n : Nat, n < 10 ^ (k + 1) → nDigits n ≤ k + 1 := by
    intro k
    induction k with
    | zero => intro n h; rw [nDigits_small (by omega)]; exact Nat.le_refl _
    | succ k ih =>
      intro n h
      by_cases h1 : n < 10
      · rw [nDigits_small h1]; omega
      · rw [nDigits_big h1]
        have := ih (n / 10) (by rw [Nat.pow_succ] at h; omega)
        omega
  exact this 4 n (by omega)
/-- Digits without a nought ahead are those of their value. -/
theorem dec_of_digits (l : List UInt8) (h0 : l ≠ []) (hd : ∀ b ∈ l, 48 ≤ b.toNat ∧ b.toNat ≤ 57) (hz : 1 < l.length → ∀ b r, l = b :: r → b.toNat ≠ 48) : l = decDigits (dv l) ∧ (1 < l.length → 10 ≤ dv l) := by
  induction h : l.length using Nat.strongRecOn generalizing l with
  | _ k ih =>
    obtain ⟨m, b, e⟩ : ∃ m b, l = m ++ [b] := ⟨l.dropLast, l.getLast h0, (List.dropLast_concat_getLast h0).symm⟩
    subst e
    have hb := hd b (by simp)
    have hbb : UInt8.ofNat (48 + (b.toNat - 48)) = b := by
      apply UInt8.toNat_inj.1
      rw [dig_toNat _ (by omega)]; omega
    rw [dv_snoc]
    by_cases hm : m = []
    · subst hm
      have e0 : dv ([] : List UInt8) = 0 := rfl
      rw [e0]
      refine ⟨?_, by intro h1; simp at h; omega⟩
      rw [dec_small (by omega)]
      simp only [Nat.mul_zero, Nat.zero_add, hbb, List.nil_append]
    · have hml : 0 < m.length := by cases m with
        | nil => exact absurd rfl hm
        | cons => simp
      have hl : (m ++ [b]).length = m.length + 1 := by simp
      obtain ⟨i1, i2⟩ := ih m.length (by omega) m hm (fun x hx => hd x (by simp [hx])) (fun h1 x r e => hz (by omega) x (r ++ [b]) (by rw [e]; simp)) rfl
      have hpos : 0 < dv m := by
        by_cases h1 : 1 < m.length
        · have := i2 h1; omega
        · obtain ⟨x, e⟩ : ∃ x, m = [x] := List.length_eq_one_iff.1 (by omega)
          subst e
          have hx := hz (by simp) x [b] rfl
          have hx2 := hd x (by simp)
          simp only [dv, List.foldl_cons, List.foldl_nil]
          omega
      refine ⟨?_, fun _ => by omega⟩
      rw [dec_big (by omega), show (10 * dv m + (b.toNat - 48)) / 10 = dv m by omega, show (10 * dv m + (b.toNat - 48)) % 10 = b.toNat - 48 by omega, hbb, ← i1]

/-- The number that digits are, below a bound. -/
def numF (l : List UInt8) (below : Nat) : Option Nat := if l = decDigits (dv l) ∧ dv l < below then some (dv l) else none
theorem numF_dec (n below : Nat) (h : n < below) : numF (decDigits n) below = some n := by
  unfold numF; rw [dv_dec, if_pos ⟨rfl, h⟩]
theorem numF_some {l : List UInt8} {below n : Nat} (h : numF l below = some n) : l = decDigits n ∧ n < below := by
  unfold numF at h
  split at h
  · rename_i hh
    have := Option.some.inj h
    subst this
    exact hh
  · cases h
theorem numF_none {l : List UInt8} {below : Nat} (h : ∀ n, n < below → l ≠ decDigits n) : numF l below = none := by
  cases e : numF l below with
  | none => rfl
  | some n => exact absurd (numF_some e).1 (h n (numF_some e).2)

/-- Atoi of digits that Itoa writes. -/
theorem decFrom_app : ∀ (l r : List UInt8) (acc : Nat), decFrom acc (l ++ r) = (decFrom acc l).bind fun a => decFrom a r
  | [], r, acc => rfl
  | b :: l, r, acc => by
    simp only [List.cons_append, decFrom]
    cases digitVal b with
    | none => rfl
    | some d => exact decFrom_app l r _
theorem decFrom_dec (n : Nat) : decFrom 0 (decDigits n) = some n := by
  induction n using Nat.strongRecOn with
  | _ n ih =>
    by_cases h : n < 10
    · rw [dec_small h]
      simp only [decFrom, digitVal, dig_toNat n h]
      rw [if_pos (by omega)]
      simp
    · rw [dec_big h, decFrom_app, ih (n / 10) (by omega)]
      simp only [Option.bind_some, decFrom, digitVal, dig_toNat _ (show n % 10 < 10 by omega)]
      rw [if_pos (by omega)]
      simp; omega
theorem atoi_dec (n : Nat) (h : n < 100000) : atoiAll (decDigits n) = .ok (n : Int) := by
  rw [atoiAll_short _ (by have := dec_len n h; omega)]
  have e : decNat (decDigits n) = some n := by
    unfold decNat
    rw [if_neg (by simp [dec_ne n]), decFrom_dec]
  have : atoi (decDigits n) = some (n : Int) := by
    cases hd : decDigits n with
    | nil => exact absurd hd (dec_ne n)
    | cons b r =>
      have hb := dec_digit n b (by rw [hd]; simp)
      have h1 : (b == 45) = false := by
        cases hq : b == 45 with
        | false => rfl
        | true => have := eq_of_beq hq; subst this; simp at hb
      have h2 : (b == 43) = false := by
        cases hq : b == 43 with
        | false => rfl
        | true => have := eq_of_beq hq; subst this; simp at hb
      simp only [atoi, h1, h2, ← hd, e]
      rfl
  rw [this]; rfl

/-- A kind: own words with their numbers. -/
abbrev Own4 := List (List UInt8 × Nat)
/-- The word of a number. -/
def tellF (ps : Own4) (pre : List UInt8) (n : Nat) : List UInt8 :=
  match ps.find? (fun p => p.2 == n) with
  | some p => p.1
  | none => pre ++ decDigits n
/-- What stands for the number of a word. -/
def digF (ps : Own4) (pre s : List UInt8) : Option (List UInt8) :=
  match ps.find? (fun p => p.1 == s) with
  | some p => some (decDigits p.2)
  | none => if pre.isPrefixOf s then some (s.drop pre.length) else none
/-- The number of a word. -/
def readF (ps : Own4) (pre : List UInt8) (below : Nat) (s : List UInt8) : Option Nat := (digF ps pre s).bind fun l => numF l below
/-- The text's pieces. -/
def flat (ps : Own4) : List (List UInt8) := ps.flatMap fun p => [p.1, decDigits p.2]
theorem flat_len (ps : Own4) : (flat ps).length = 2 * ps.length := by
  induction ps with
  | nil => rfl
  | cons p ps ih => simp [flat] at ih ⊢; omega
theorem flat_at : ∀ (ps : Own4) (j : Nat) (p : List UInt8 × Nat), ps[j]? = some p → (flat ps)[2 * j]? = some p.1 ∧ (flat ps)[2 * j + 1]? = some (decDigits p.2)
  | [], j, p, h => by simp at h
  | q :: ps, 0, p, h => by
    simp at h; subst h
    simp [flat]
  | q :: ps, j + 1, p, h => by
    have := flat_at ps j p (by simpa using h)
    simp only [flat, List.flatMap_cons, List.cons_append, List.nil_append] at this ⊢
    rw [show 2 * (j + 1) = 2 * j + 2 by omega, show 2 * j + 2 + 1 = (2 * j + 1) + 2 by omega]
    simpa using this
/-- One step of a search. -/
theorem find_step {α : Type} (f : α → Bool) (l : List α) (j : Nat) (h : ∀ p ∈ l.take j, f p = false) (p : α) (hp : l[j]? = some p) :
    (f p = true → l.find? f = some p) ∧ (f p = false → ∀ q ∈ l.take (j + 1), f q = false) := by
  have hj : j < l.length := (List.getElem?_eq_some_iff.1 hp).1
  have e : l[j] = p := by rw [List.getElem?_eq_getElem hj] at hp; exact Option.some.inj hp
  constructor
  · intro hf
    have : l = l.take j ++ p :: l.drop (j + 1) := by rw [← e, ← List.drop_eq_getElem_cons hj, List.take_append_drop]
    rw [this, List.find?_append, List.find?_eq_none.2 (fun x hx => by rw [h x hx]; simp)]
    simp [hf]
  · intro hf q hq
    rw [List.take_succ_eq_append_getElem hj, e] at hq
    simp only [List.mem_append, List.mem_singleton] at hq
    rcases hq with hq | hq
    · exact h q hq
    · subst hq; exact hf
theorem find_end {α : Type} (f : α → Bool) (l : List α) (j : Nat) (h : ∀ p ∈ l.take j, f p = false) (hj : l.length ≤ j) : l.find? f = none := by
  rw [List.take_of_length_le hj] at h
  exact List.find?_eq_none.2 (fun x hx => by rw [h x hx]; simp)
end Go.Proofs.YtjfpkpblifbljaaDoor
