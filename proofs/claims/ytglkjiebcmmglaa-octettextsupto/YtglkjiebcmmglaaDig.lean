/- What a digit stands for, as the program finds it. -/
import Derived.Test.YtglkjiebcmmglaaRows
import Derived.WalkKit
import Derived.WalkLawsBesides
import Derived.ProofKit
import Derived.Below
import Derived.Lib.Bytealg
namespace Go.Proofs.Ytglkjiebcmmglaa
open Go.ChangeShapes Go.WideShapes Go.ChangeAt Go.RowKit
set_option linter.unusedVariables false
set_option linter.unusedSimpArgs false

theorem call59 (s : ByteArray) (c : Int) (w : World) : (callFunc 59 #[.string s, .int .u8 c]).run Try.prog w = .ok (.value (.int .i64 (Lib.indexByte s.data.toList c.toNat.toUInt8))) w := by
  rw [run_callFunc_extern Try.func59 (by kernel_rfl) (by kernel_rfl) (by kernel_rfl) (by kernel_rfl) _ w]
  show ((Extern.BytealgIndexByte.indexByte #[.string s, .int .u8 c]).run Try.prog w).andThen _ = _
  rw [Lib.run_indexByteString]
  rfl
set_option maxHeartbeats 400000 in
theorem index_any (s : ByteArray) (c : Int) (w : World) :
    Calls Try.prog 53 #[.string s, .int .u8 c] w fun e w' => e = .returned (.int .i64 (Lib.indexByte s.data.toList c.toNat.toUInt8)) ∧ w' = w := by
  have h := call59 s c
  go_enter Try.func53, Try.ntmps53
  go_wp2
  go_ret
  exact ⟨rfl, rfl⟩
/-- The worth of a digit; -1, if it is none. -/
def wv (c : Int) : Int :=
  if Lib.indexByte [48, 49, 50, 51, 52, 53, 54, 55, 56, 57, 97, 98, 99, 100, 101, 102] c.toNat.toUInt8 < Lib.indexByte [48, 49, 50, 51, 52, 53, 54, 55, 56, 57, 65, 66, 67, 68, 69, 70] c.toNat.toUInt8
  then Lib.indexByte [48, 49, 50, 51, 52, 53, 54, 55, 56, 57, 65, 66, 67, 68, 69, 70] c.toNat.toUInt8 else Lib.indexByte [48, 49, 50, 51, 52, 53, 54, 55, 56, 57, 97, 98, 99, 100, 101, 102] c.toNat.toUInt8
set_option maxHeartbeats 400000 in
theorem worth_any (c : Int) (w : World) :
    Calls Try.prog 42 #[.int .u8 c] w fun e w' => e = .returned (.int .i64 (wv c)) ∧ w' = w := by
  go_enter Try.func42, Try.ntmps42
  go_wp2_with fail
  refine (index_any _ _ _).mono ?_
  rintro e w1 ⟨rfl, rfl⟩
  go_wp2_with fail
  refine (index_any _ _ _).mono ?_
  rintro e w1 ⟨rfl, rfl⟩
  go_wp2
  · go_ret
    exact ⟨by unfold wv; rw [if_pos (by assumption)]; rfl, rfl⟩
  · go_ret
    exact ⟨by unfold wv; rw [if_neg (by apply Int.not_lt.2; assumption)]; rfl, rfl⟩
theorem wv_bd (c : Int) (h : 0 ≤ c ∧ c ≤ 255) : -1 ≤ wv c ∧ wv c < 16 := by
  obtain ⟨n, rfl⟩ := Int.eq_ofNat_of_zero_le h.1
  have hn : n < 256 := by omega
  have : ∀ m : Nat, m < 256 → -1 ≤ wv (m : Int) ∧ wv (m : Int) < 16 := by decide +kernel
  exact this n hn
/-- The digits. -/
def dg (d : Int) : Int := if d < 10 then 48 + d else 87 + d
theorem wv_dg (d : Int) (h : 0 ≤ d ∧ d < 16) : wv (dg d) = d := by
  obtain ⟨n, rfl⟩ := Int.eq_ofNat_of_zero_le h.1
  have : ∀ m : Nat, m < 16 → wv (dg (m : Int)) = (m : Int) := by decide +kernel
  exact this n (by omega)
theorem dg_bd (d : Int) (h : 0 ≤ d ∧ d < 16) : 48 ≤ dg d ∧ dg d ≤ 102 := by unfold dg; split <;> omega
end Go.Proofs.Ytglkjiebcmmglaa
