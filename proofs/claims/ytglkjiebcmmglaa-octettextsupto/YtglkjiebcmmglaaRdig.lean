/- The document's digits, their worth, bytes out of them and pieces joined. -/
import Derived.Test.YtglkjiebcmmglaaJoin
import Derived.Test.YtglkjiebcmmglaaRef
namespace Go.Proofs.Ytglkjiebcmmglaa
open Go.ChangeShapes Go.WideShapes Go.ChangeAt Go.RowKit
set_option linter.unusedVariables false
set_option linter.unusedSimpArgs false

set_option maxHeartbeats 400000 in
theorem digit_any (d : Int) (w : World) (h : 0 ≤ d ∧ d < 16) :
    Calls Try.prog 47 #[.int .i64 d] w fun e w' => e = .returned (.int .u8 (dg d)) ∧ w' = w := by
  by_cases h1 : d < 10
  · go_enter Try.func47, Try.ntmps47
    go_wp2
    go_ret
    exact ⟨by unfold dg; rw [if_pos h1]; exact ret_int (by omega), rfl⟩
  · go_enter Try.func47, Try.ntmps47
    go_wp2
    go_ret
    exact ⟨by unfold dg; rw [if_neg (by omega)]; exact ret_int (by omega), rfl⟩

/-- The digit of worth k is written so. -/
def hit (c : Int) (k : Nat) : Bool := c == dg k || (decide (9 < k) && c == dg k - 32)
theorem hit_yes (c : Int) (h : 0 ≤ c ∧ c ≤ 255) (k : Nat) (hk : k < 16) (hh : hit c k = true) : wv c = k := by
  obtain ⟨n, rfl⟩ := Int.eq_ofNat_of_zero_le h.1
  have : ∀ m : Nat, m < 256 → ∀ j : Nat, j < 16 → hit (m : Int) j = true → wv (m : Int) = (j : Int) := by decide +kernel
  exact this n (by omega) k hk hh
theorem hit_no (c : Int) (h : 0 ≤ c ∧ c ≤ 255) (hh : ∀ k, k < 16 → hit c k = false) : wv c = -1 := by
  obtain ⟨n, rfl⟩ := Int.eq_ofNat_of_zero_le h.1
  have : ∀ m : Nat, m < 256 → (∀ j : Nat, j < 16 → hit (m : Int) j = false) → wv (m : Int) = -1 := by decide +kernel
  exact this n (by omega) hh

set_option maxHeartbeats 1000000 in
theorem value_any (c : Int) (w : World) (h : 0 ≤ c ∧ c ≤ 255) :
    Calls Try.prog 43 #[.int .u8 c] w fun e w' => e = .returned (.int .i64 (wv c)) ∧ w' = w := by
  go_enter Try.func43, Try.ntmps43
  go_wp2_with fail
  go_loopw [3] (fun x wr => ∃ k : Nat, k ≤ 16 ∧ x = .int .i64 k ∧ wr = w ∧ Hid (∀ j, j < k → hit c j = false)) (fun x _ => 16 - (intOf x).toNat)
  case atStart => exact ⟨0, by omega, rfl, rfl, fun j hj => absurd hj (by omega)⟩
  case round =>
    obtain ⟨k, hk, rfl, rfl, HN⟩ := hrel
    by_cases hlt : k < 16
    · have hlt' : (k : Int) < 16 := by omega
      have HD : Hid (∀ W, Calls Try.prog 47 #[.int .i64 k] W fun e w' => e = .returned (.int .u8 (dg k)) ∧ w' = W) := fun W => digit_any k W (by omega)
      have db := dg_bd (k : Int) (by omega)
      have HY : Hid (hit c k = true → wv c = k) := hit_yes c h k hlt
      have HH : Hid (hit c k = (c == dg (k : Int) || (decide (9 < k) && c == dg (k : Int) - 32))) := (show _ = _ from rfl)
      have HN2 : Hid (hit c k = false → ∀ j, j < k + 1 → hit c j = false) := fun h0 j hj => by
        by_cases e : j = k
        · rw [e]; exact h0
        · exact HN.out j (by omega)
      clear HN
      generalize dg (k : Int) = d at *
      by_cases h1 : c = d
      · have b1 : (c == d) = true := by simp [h1]
        clear h1
        go_wp2_with fail
        refine (HD.out _).mono ?_
        rintro e w1 ⟨rfl, rfl⟩
        go_wp2
        go_ret
        exact ⟨by rw [HY.out (by rw [HH.out, b1]; rfl)]; rfl, rfl⟩
      have b1 : (c == d) = false := by simp [h1]
      by_cases h9 : 9 < k
      · have h9' : (9 : Int) < (k : Int) := by omega
        by_cases h2 : c = d - 32
        · have b2 : (c == d - 32) = true := by simp [h2]
          clear h1 h2
          go_wp2_with fail
          refine (HD.out _).mono ?_
          rintro e w1 ⟨rfl, rfl⟩
          go_wp2_with fail
          refine (HD.out _).mono ?_
          rintro e w1 ⟨rfl, rfl⟩
          go_wp2
          go_ret
          exact ⟨by rw [HY.out (by rw [HH.out, b1, b2]; simp [h9])]; rfl, rfl⟩
        · have b2 : (c == d - 32) = false := by simp [h2]
          clear h1 h2
          go_wp2_with fail
          refine (HD.out _).mono ?_
          rintro e w1 ⟨rfl, rfl⟩
          go_wp2_with fail
          refine (HD.out _).mono ?_
          rintro e w1 ⟨rfl, rfl⟩
          go_wp2
          exact ⟨⟨k + 1, by omega, by go_num, trivial, HN2.out (by rw [HH.out, b1, b2]; simp)⟩, by simp [intOf]; omega⟩
      · have h9' : ¬ (9 : Int) < (k : Int) := by omega
        clear h1
        go_wp2_with fail
        refine (HD.out _).mono ?_
        rintro e w1 ⟨rfl, rfl⟩
        go_wp2
        exact ⟨⟨k + 1, by omega, by go_num, trivial, HN2.out (by rw [HH.out, b1]; simp; omega)⟩, by simp [intOf]; omega⟩
    · obtain rfl : k = 16 := by omega
      have HV : Hid (wv c = -1) := hit_no c h HN.out
      go_wp2
      go_ret
      exact ⟨by rw [HV.out]; rfl, rfl⟩
end Go.Proofs.Ytglkjiebcmmglaa
