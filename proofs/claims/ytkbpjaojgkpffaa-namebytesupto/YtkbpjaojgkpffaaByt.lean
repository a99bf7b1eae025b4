/- What single bytes are: visible, digits, special; the byte that the front of a text stands for. -/
import Derived.Test.YtkbpjaojgkpffaaStr
import Derived.Deep.QuietTactic
import Derived.BigQuiet
import Derived.Deep.RegionHeld3
namespace Go.Proofs.Ytkbpjaojgkpffaa
open Go.ChangeShapes Go.WideShapes Go.ChangeAt Go.RowKit
set_option linter.unusedVariables false
set_option linter.unusedSimpArgs false

def vis (c : Int) : Bool := decide (33 ≤ c) && decide (c ≤ 126)
def dgt (c : Int) : Bool := decide (48 ≤ c) && decide (c ≤ 57)
theorem vis_iff (c : Int) : vis c = true ↔ 33 ≤ c ∧ c ≤ 126 := by simp [vis]
theorem dgt_iff (c : Int) : dgt c = true ↔ 48 ≤ c ∧ c ≤ 57 := by simp [dgt]
theorem ret_bool {a b : Bool} (h : a = b) : Ending.returned (.bool a) = .returned (.bool b) := by rw [h]

set_option maxRecDepth 100000 in
set_option maxHeartbeats 400000 in
theorem vis_any (c : Int) (w : World) : Calls Try.prog 102 #[.int .u8 c] w fun e w' => e = .returned (.bool (vis c)) ∧ w' = w := by
  go_enter Try.func102, Try.ntmps102
  go_wp2
  all_goals
    go_ret
    exact ⟨ret_bool (by simp [vis]; try omega), rfl⟩
set_option maxRecDepth 100000 in
set_option maxHeartbeats 400000 in
theorem dgt_any (c : Int) (w : World) : Calls Try.prog 103 #[.int .u8 c] w fun e w' => e = .returned (.bool (dgt c)) ∧ w' = w := by
  go_enter Try.func103, Try.ntmps103
  go_wp2
  all_goals
    go_ret
    exact ⟨ret_bool (by simp [dgt]; try omega), rfl⟩
set_option maxRecDepth 100000 in
set_option maxHeartbeats 400000 in
theorem rdgt_any (c : Int) (w : World) : Calls Try.prog 106 #[.int .u8 c] w fun e w' => e = .returned (.bool (dgt c)) ∧ w' = w := by
  go_enter Try.func106, Try.ntmps106
  go_wp2
  all_goals
    go_ret
    exact ⟨ret_bool (by simp [dgt]; try omega), rfl⟩

/-- The byte that the front of a text stands for, and how many bytes of it say so; 0, if they say none. -/
def v2 (a b : Int) : Int := 10 * (a - 48) + (b - 48)
def v3 (a b c : Int) : Int := 100 * (a - 48) + 10 * (b - 48) + (c - 48)
def num3 (l : List Int) : Int × Int :=
  if l.length < 4 then (0, 0)
  else if dgt (l.getD 1 0) && dgt (l.getD 2 0) && dgt (l.getD 3 0) && decide (v3 (l.getD 1 0) (l.getD 2 0) (l.getD 3 0) ≤ 255) then (v3 (l.getD 1 0) (l.getD 2 0) (l.getD 3 0), 4)
  else (0, 0)
def esc (l : List Int) : Int × Int :=
  if l.length ≤ 1 then (0, 0)
  else if dgt (l.getD 1 0) then num3 l
  else if vis (l.getD 1 0) then (l.getD 1 0, 2) else (0, 0)
def fr (l : List Int) : Int × Int :=
  if !vis (l.getD 0 0) then (0, 0)
  else if l.getD 0 0 == 92 then esc l
  else (l.getD 0 0, 1)
theorem ret_two {a b c d : Int} (h : a = c) (h' : b = d) : Ending.returned (.tuple #[.int .u8 a, .int .i64 b]) = .returned (.tuple #[.int .u8 c, .int .i64 d]) := by rw [h, h']
def num3c (a b c : Int) : Int × Int := if dgt a && dgt b && dgt c && decide (v3 a b c ≤ 255) then (v3 a b c, 4) else (0, 0)

set_option maxRecDepth 100000 in
set_option maxHeartbeats 1000000 in
theorem num3_any (t : ByteArray) (w : World) (ht : t.size ≤ 9223372036854775807) :
    Calls Try.prog 104 #[.string t] w fun e w' => e = .returned (.tuple #[.int .u8 (num3 (nums t)).1, .int .i64 (num3 (nums t)).2]) ∧ w' = w := by
  by_cases h4 : t.size < 4
  · have h4' : (t.size : Int) < 4 := by omega
    have e : num3 (nums t) = (0, 0) := by unfold num3; rw [if_pos (by rw [nums_len]; exact h4)]
    go_enter Try.func104, Try.ntmps104
    go_wp2
    go_ret2
    exact ⟨by rw [e]; rfl, rfl⟩
  · have h4' : ¬ (t.size : Int) < 4 := by omega
    have i1 : 1 < t.size := by omega
    have i2 : 2 < t.size := by omega
    have i3 : 3 < t.size := by omega
    have HE : Hid (num3 (nums t) = num3c (t[1].toNat : Int) (t[2].toNat : Int) (t[3].toNat : Int)) := by
      show num3 (nums t) = _
      unfold num3 num3c
      rw [if_neg (by rw [nums_len]; exact h4), nums_at t 1 i1, nums_at t 2 i2, nums_at t 3 i3]
    have b1 := t[1].toNat_lt
    have b2 := t[2].toNat_lt
    have b3 := t[3].toNat_lt
    go_enter Try.func104, Try.ntmps104
    go_wp2_with fail
    go_loop [4, 10] (fun n x => (n = .int .i64 0 ∧ x = .int .i64 0) ∨ (n = .int .i64 ((t[1].toNat : Int) - 48) ∧ x = .int .i64 1 ∧ dgt (t[1].toNat : Int) = true) ∨ (n = .int .i64 (v2 (t[1].toNat : Int) (t[2].toNat : Int)) ∧ x = .int .i64 2 ∧ dgt (t[1].toNat : Int) = true ∧ dgt (t[2].toNat : Int) = true) ∨ (n = .int .i64 (v3 (t[1].toNat : Int) (t[2].toNat : Int) (t[3].toNat : Int)) ∧ x = .int .i64 3 ∧ dgt (t[1].toNat : Int) = true ∧ dgt (t[2].toNat : Int) = true ∧ dgt (t[3].toNat : Int) = true)) (fun _ x => 3 - (intOf x).toNat)
    case atStart => exact .inl ⟨rfl, rfl⟩
    case round =>
      rcases hrel with ⟨rfl, rfl⟩ | ⟨rfl, rfl, d1⟩ | ⟨rfl, rfl, d1, d2⟩ | ⟨rfl, rfl, d1, d2, d3⟩
      · go_wp2_with fail
        refine (dgt_any _ _).mono ?_
        rintro e w1 ⟨rfl, rfl⟩
        by_cases d : dgt (t[1].toNat : Int) = true
        · have d' := (dgt_iff _).1 d
          go_wp2
          exact ⟨.inr (.inl ⟨rfl, rfl, d⟩), by decide⟩
        · have d' : dgt (t[1].toNat : Int) = false := by simpa using d
          go_wp2
          go_ret2
          have e : num3c (t[1].toNat : Int) (t[2].toNat : Int) (t[3].toNat : Int) = (0, 0) := by unfold num3c; rw [d']; rfl
          exact ⟨by rw [HE.out, e]; rfl, rfl⟩
      · have e1 := (dgt_iff _).1 d1
        go_wp2_with fail
        refine (dgt_any _ _).mono ?_
        rintro e w1 ⟨rfl, rfl⟩
        by_cases d : dgt (t[2].toNat : Int) = true
        · have d' := (dgt_iff _).1 d
          go_wp2
          exact ⟨.inr (.inr (.inl ⟨congrArg _ (by unfold v2; omega), rfl, d1, d⟩)), by decide⟩
        · have d' : dgt (t[2].toNat : Int) = false := by simpa using d
          go_wp2
          go_ret2
          have e : num3c (t[1].toNat : Int) (t[2].toNat : Int) (t[3].toNat : Int) = (0, 0) := by unfold num3c; rw [d1, d']; rfl
          exact ⟨by rw [HE.out, e]; rfl, rfl⟩
      · have e1 := (dgt_iff _).1 d1
        have e2 := (dgt_iff _).1 d2
        have HV : Hid (v3 (t[1].toNat : Int) (t[2].toNat : Int) (t[3].toNat : Int) = (10 : Int) * v2 (t[1].toNat : Int) (t[2].toNat : Int) + ((t[3].toNat : Int) - 48)) := by show _ = _; unfold v3 v2; omega
        have hv : (0 : Int) ≤ v2 (t[1].toNat : Int) (t[2].toNat : Int) ∧ v2 (t[1].toNat : Int) (t[2].toNat : Int) ≤ 99 := by unfold v2; omega
        go_wp2_with fail
        refine (dgt_any _ _).mono ?_
        rintro e w1 ⟨rfl, rfl⟩
        by_cases d : dgt (t[3].toNat : Int) = true
        · have d' := (dgt_iff _).1 d
          go_wp2
          exact ⟨.inr (.inr (.inr ⟨congrArg _ (by rw [HV.out]), rfl, d1, d2, d⟩)), by decide⟩
        · have d' : dgt (t[3].toNat : Int) = false := by simpa using d
          go_wp2
          go_ret2
          have e : num3c (t[1].toNat : Int) (t[2].toNat : Int) (t[3].toNat : Int) = (0, 0) := by unfold num3c; rw [d1, d2, d']; rfl
          exact ⟨by rw [HE.out, e]; rfl, rfl⟩
      · have e1 := (dgt_iff _).1 d1
        have e2 := (dgt_iff _).1 d2
        have e3 := (dgt_iff _).1 d3
        have hv : (0 : Int) ≤ v3 (t[1].toNat : Int) (t[2].toNat : Int) (t[3].toNat : Int) ∧ v3 (t[1].toNat : Int) (t[2].toNat : Int) (t[3].toNat : Int) ≤ 999 := by unfold v3; omega
        have HC : Hid (num3c (t[1].toNat : Int) (t[2].toNat : Int) (t[3].toNat : Int) = if decide (v3 (t[1].toNat : Int) (t[2].toNat : Int) (t[3].toNat : Int) ≤ 255) then (v3 (t[1].toNat : Int) (t[2].toNat : Int) (t[3].toNat : Int), 4) else (0, 0)) := by show _ = _; unfold num3c; rw [d1, d2, d3]; rfl
        generalize v3 (t[1].toNat : Int) (t[2].toNat : Int) (t[3].toNat : Int) = z at *
        by_cases h : 255 < z
        · go_wp2
          go_ret2
          exact ⟨by rw [HE.out, HC.out, if_neg (by simp; omega)]; rfl, rfl⟩
        · have hz : z % 256 = z := by omega
          go_wp2
          go_ret2
          exact ⟨by rw [HE.out, HC.out, if_pos (by simp; omega)]; rfl, rfl⟩

set_option maxRecDepth 100000 in
set_option maxHeartbeats 1000000 in
theorem fr_any (t : ByteArray) (w : World) (h1 : 1 ≤ t.size) (ht : t.size ≤ 9223372036854775807) :
    Calls Try.prog 97 #[.string t] w fun e w' => e = .returned (.tuple #[.int .u8 (fr (nums t)).1, .int .i64 (fr (nums t)).2]) ∧ w' = w := by
  have i0 : 0 < t.size := by omega
  have HE : Hid (fr (nums t) = if !vis (t[0].toNat : Int) then (0, 0) else if (t[0].toNat : Int) == 92 then esc (nums t) else ((t[0].toNat : Int), 1)) := by
    show fr (nums t) = _
    unfold fr
    rw [nums_at t 0 i0]
  have h1' : (1 : Int) ≤ (t.size : Int) := by omega
  go_enter Try.func97, Try.ntmps97
  go_wp2_with fail
  refine (vis_any _ _).mono ?_
  rintro e w1 ⟨rfl, rfl⟩
  by_cases hv : vis (t[0].toNat : Int) = true
  · by_cases h92 : (t[0].toNat : Int) = 92
    · have HF : Hid (fr (nums t) = esc (nums t)) := by
        show _ = _
        rw [HE.out, hv, h92]; rfl
      clear HE
      by_cases h2 : 1 < t.size
      · have h2' : (1 : Int) < (t.size : Int) := by omega
        have HG : Hid (esc (nums t) = if dgt (t[1].toNat : Int) then num3 (nums t) else if vis (t[1].toNat : Int) then ((t[1].toNat : Int), 2) else (0, 0)) := by
          show esc (nums t) = _
          unfold esc
          rw [if_neg (by rw [nums_len]; omega), nums_at t 1 h2]
        go_wp2_with fail
        refine (dgt_any _ _).mono ?_
        rintro e w2 ⟨rfl, rfl⟩
        by_cases hd : dgt (t[1].toNat : Int) = true
        · have HN : Hid (esc (nums t) = num3 (nums t)) := by show _ = _; rw [HG.out, hd]; rfl
          go_wp2_with fail
          refine (num3_any t _ ht).mono ?_
          rintro e w3 ⟨rfl, rfl⟩
          go_wp2
          go_ret2
          exact ⟨by rw [HF.out, HN.out]; rfl, rfl⟩
        · have hd' : dgt (t[1].toNat : Int) = false := by simpa using hd
          clear hd
          go_wp2_with fail
          refine (vis_any _ _).mono ?_
          rintro e w3 ⟨rfl, rfl⟩
          by_cases hv1 : vis (t[1].toNat : Int) = true
          · have HN : Hid (esc (nums t) = ((t[1].toNat : Int), 2)) := by show _ = _; rw [HG.out, hd', hv1]; rfl
            go_wp2
            go_ret2
            exact ⟨by rw [HF.out, HN.out]; rfl, rfl⟩
          · have hv1' : vis (t[1].toNat : Int) = false := by simpa using hv1
            have HN : Hid (esc (nums t) = (0, 0)) := by show _ = _; rw [HG.out, hd', hv1']; rfl
            clear hv1
            go_wp2
            go_ret2
            exact ⟨by rw [HF.out, HN.out]; rfl, rfl⟩
      · have h2' : ¬ (1 : Int) < (t.size : Int) := by omega
        have HN : Hid (esc (nums t) = (0, 0)) := by show _ = _; unfold esc; rw [if_pos (by rw [nums_len]; omega)]
        go_wp2
        go_ret2
        exact ⟨by rw [HF.out, HN.out]; rfl, rfl⟩
    · have HF : Hid (fr (nums t) = ((t[0].toNat : Int), 1)) := by
        show _ = _
        rw [HE.out, hv, beq_false_of_ne h92]; rfl
      have hb : ((t[0].toNat : Int) != 92) = true := bne_iff_ne.2 h92
      clear HE h92
      go_wp2
      go_ret2
      exact ⟨by rw [HF.out]; rfl, rfl⟩
  · have hv' : vis (t[0].toNat : Int) = false := by simpa using hv
    have HF : Hid (fr (nums t) = (0, 0)) := by show _ = _; rw [HE.out, hv']; rfl
    clear HE hv
    go_wp2
    go_ret2
    exact ⟨by rw [HF.out]; rfl, rfl⟩

set_option maxRecDepth 100000 in
set_option maxHeartbeats 2000000 in
theorem esc_any (t : ByteArray) (w : World) (ht : t.size ≤ 9223372036854775807) :
    Calls Try.prog 99 #[.string t] w fun e w' => e = .returned (.tuple #[.int .u8 (esc (nums t)).1, .int .i64 (esc (nums t)).2]) ∧ Hid (Below w.heap.size w w') := by
  by_cases h2 : 1 < t.size
  · have h2' : ¬ (t.size : Int) < 2 := by omega
    have h2'' : (1 : Int) < (t.size : Int) := by omega
    have HG : Hid (esc (nums t) = if dgt (t[1].toNat : Int) then num3 (nums t) else if vis (t[1].toNat : Int) then ((t[1].toNat : Int), 2) else (0, 0)) := by
      show esc (nums t) = _
      unfold esc
      rw [if_neg (by rw [nums_len]; omega), nums_at t 1 h2]
    by_cases hv1 : vis (t[1].toNat : Int) = true
    · have hv2 := (vis_iff _).1 hv1
      go_enter Try.func99, Try.ntmps99
      go_wp2_with fail
      refine (rdgt_any _ _).mono ?_
      rintro e w2 ⟨rfl, rfl⟩
      by_cases hd : dgt (t[1].toNat : Int) = true
      · have HN : Hid (esc (nums t) = num3 (nums t)) := by show _ = _; rw [HG.out, hd]; rfl
        have hd1 := (dgt_iff _).1 hd
        by_cases h4 : t.size < 4
        · have h4' : (t.size : Int) < 4 := by omega
          have HM : Hid (num3 (nums t) = (0, 0)) := by show _ = _; unfold num3; rw [if_pos (by rw [nums_len]; exact h4)]
          go_wp2
          go_ret2
          exact ⟨by rw [HN.out, HM.out]; rfl, Below.refl _ _⟩
        · have h4' : ¬ (t.size : Int) < 4 := by omega
          have i2 : 2 < t.size := by omega
          have i3 : 3 < t.size := by omega
          have i2' : (2 : Int) < t.size := by omega
          have i3' : (3 : Int) < t.size := by omega
          have HE : Hid (num3 (nums t) = num3c (t[1].toNat : Int) (t[2].toNat : Int) (t[3].toNat : Int)) := by
            show num3 (nums t) = _
            unfold num3 num3c
            rw [if_neg (by rw [nums_len]; exact h4), nums_at t 1 h2, nums_at t 2 i2, nums_at t 3 i3]
          go_wp2_with fail
          refine (rdgt_any _ _).mono ?_
          rintro e w3 ⟨rfl, rfl⟩
          by_cases e2 : dgt (t[2].toNat : Int) = true
          · have hd2 := (dgt_iff _).1 e2
            go_wp2_with fail
            refine (rdgt_any _ _).mono ?_
            rintro e w4 ⟨rfl, rfl⟩
            by_cases e3 : dgt (t[3].toNat : Int) = true
            · have hd3 := (dgt_iff _).1 e3
              have hv : (0 : Int) ≤ v3 (t[1].toNat : Int) (t[2].toNat : Int) (t[3].toNat : Int) ∧ v3 (t[1].toNat : Int) (t[2].toNat : Int) (t[3].toNat : Int) ≤ 999 := by unfold v3; omega
              have HC : Hid (num3c (t[1].toNat : Int) (t[2].toNat : Int) (t[3].toNat : Int) = if decide (v3 (t[1].toNat : Int) (t[2].toNat : Int) (t[3].toNat : Int) ≤ 255) then (v3 (t[1].toNat : Int) (t[2].toNat : Int) (t[3].toNat : Int), 4) else (0, 0)) := by show _ = _; unfold num3c; rw [hd, e2, e3]; rfl
              have HV : Hid ((100 : Int) * ((t[1].toNat : Int) - (48 : Int)) + (10 : Int) * ((t[2].toNat : Int) - (48 : Int)) + ((t[3].toNat : Int) - (48 : Int)) = v3 (t[1].toNat : Int) (t[2].toNat : Int) (t[3].toNat : Int)) := by show _ = _; unfold v3; omega
              generalize v3 (t[1].toNat : Int) (t[2].toNat : Int) (t[3].toNat : Int) = z at *
              go_wp2_with fail
              go_quiet (fail)
              rw [HV.out]
              have HB : Hid (Below w4.heap.size w4 (w4.drewN nq)) := ⟨rfl, rfl, rfl, Nat.le_refl _, fun _ _ => rfl⟩
              generalize w4.drewN nq = w5 at *
              by_cases h : 255 < z
              · go_wp2
                go_ret2
                exact ⟨by rw [HN.out, HE.out, HC.out, if_neg (by simp; omega)]; rfl, HB.out⟩
              · have hz : z % 256 = z := by omega
                go_wp2
                go_ret2
                exact ⟨by rw [HN.out, HE.out, HC.out, if_pos (by simp; omega)]; rfl, HB.out⟩
            · have e3' : dgt (t[3].toNat : Int) = false := by simpa using e3
              have HC : Hid (num3c (t[1].toNat : Int) (t[2].toNat : Int) (t[3].toNat : Int) = (0, 0)) := by show _ = _; unfold num3c; rw [hd, e2, e3']; rfl
              clear e3
              go_wp2
              go_ret2
              exact ⟨by rw [HN.out, HE.out, HC.out]; rfl, Below.refl _ _⟩
          · have e2' : dgt (t[2].toNat : Int) = false := by simpa using e2
            have HC : Hid (num3c (t[1].toNat : Int) (t[2].toNat : Int) (t[3].toNat : Int) = (0, 0)) := by show _ = _; unfold num3c; rw [hd, e2']; rfl
            clear e2
            go_wp2
            go_ret2
            exact ⟨by rw [HN.out, HE.out, HC.out]; rfl, Below.refl _ _⟩
      · have hd' : dgt (t[1].toNat : Int) = false := by simpa using hd
        have HN : Hid (esc (nums t) = ((t[1].toNat : Int), 2)) := by show _ = _; rw [HG.out, hd', hv1]; rfl
        clear hd
        go_wp2
        go_ret2
        exact ⟨by rw [HN.out]; rfl, Below.refl _ _⟩
    · have hv2 : ¬ ((33 : Int) ≤ (t[1].toNat : Int) ∧ (t[1].toNat : Int) ≤ (126 : Int)) := fun h => hv1 ((vis_iff _).2 h)
      have hd' : dgt (t[1].toNat : Int) = false := by
        cases hdd : dgt (t[1].toNat : Int) with
        | false => rfl
        | true => have := (dgt_iff _).1 hdd; exact absurd ⟨by omega, by omega⟩ hv2
      have hv1' : vis (t[1].toNat : Int) = false := by simpa using hv1
      have HN : Hid (esc (nums t) = (0, 0)) := by show _ = _; rw [HG.out, hd', hv1']; rfl
      clear hv1 hd'
      have hor : (t[1].toNat : Int) < 33 ∨ 126 < (t[1].toNat : Int) := by omega
      rcases hor with ho | ho
      all_goals
        go_enter Try.func99, Try.ntmps99
        go_wp2
        go_ret2
        exact ⟨by rw [HN.out]; rfl, Below.refl _ _⟩
  · have h2' : (t.size : Int) < 2 := by omega
    have HN : Hid (esc (nums t) = (0, 0)) := by show _ = _; unfold esc; rw [if_pos (by rw [nums_len]; omega)]
    go_enter Try.func99, Try.ntmps99
    go_wp2
    go_ret2
    exact ⟨by rw [HN.out]; rfl, Below.refl _ _⟩
end Go.Proofs.Ytkbpjaojgkpffaa
