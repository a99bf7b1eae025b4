/- The reader of octets, for names. -/
import Derived.Test.YtkbpjaojgkpffaaNxa
import Derived.Test.YtkbpjaojgkpffaaKb
import Derived.LaidEqlPtr
import Derived.WalkSpells
import Derived.Deep.RegionHeld3
namespace Go.Proofs.Ytkbpjaojgkpffaa
open Go.ChangeShapes Go.WideShapes Go.ChangeAt Go.RowKit
set_option linter.unusedVariables false
set_option linter.unusedSimpArgs false

theorem neq_ptr_same (a : Addr) (w : World) : (binOp .neq 92 (.pointer (some a)) (.pointer (some a))).run Try.prog w = .ok (.bool false) w := by
  obtain ⟨j, hi⟩ : ∃ j, Try.prog.info? 113 = some j := Option.isSome_iff_exists.1 (by kernel_rfl)
  have h : ∀ d : Nat, (Op.equalIn (d + 1) 92 (.pointer (some a)) (.pointer (some a))).run Try.prog w = .ok true w := fun d => by
    simp [Op.equalIn, run_underlying Try.underlying92, sizeOf, typeInfo, hi, run_sameAddr_same]
  simp only [binOp]
  simp [Op.equal, Op.maxDepth, h 9999]
theorem view0 (a b c d : Value) (w : World) : (Instr.field 117 (.agg #[a, b, c, d]) 0).run Try.prog w = .ok a w := by kernel_rfl
theorem view1 (a b c d : Value) (w : World) : (Instr.field 117 (.agg #[a, b, c, d]) 1).run Try.prog w = .ok b w := by kernel_rfl
theorem view2 (a b c d : Value) (w : World) : (Instr.field 117 (.agg #[a, b, c, d]) 2).run Try.prog w = .ok c w := by kernel_rfl
theorem view3 (a b c d : Value) (w : World) : (Instr.field 117 (.agg #[a, b, c, d]) 3).run Try.prog w = .ok d w := by kernel_rfl
theorem slice_is_nil (a : Option Addr) (n c : Nat) (w : World) : (binOp .eql 51 (.slice a n c) (.slice none 0 0)).run Try.prog w = .ok (.bool a.isNone) w := Lib.run_eql_slice_nil w _ _ _ _ _ _ _ Try.underlying51
attribute [local go_sem] view0 view1 view2 view3 slice_is_nil

set_option maxRecDepth 100000 in
set_option maxHeartbeats 400000 in
theorem number_any (a : Option Addr) (len cap : Nat) (zs : List Int) (w : World) (hr : Rd w a zs) (hl : zs.length = len) (hm : len ≤ 4) :
    Calls Try.prog 93 #[.slice a len cap] w fun e w' => e = .returned (.int .u32 (val zs)) ∧ w' = w := by
  have HL : Hid (zs.length = len) := hl
  have HR : Hid (Rd w a zs) := hr
  clear hl hr
  go_enter Try.func93, Try.ntmps93
  go_wp2
  go_loop [3, 8] (fun n i => ∃ k : Nat, k ≤ len ∧ i = .int .i64 k ∧ n = .int .u32 (val (zs.take k))) (fun _ i => len - (intOf i).toNat)
  case atStart => exact ⟨0, Nat.zero_le _, rfl, rfl⟩
  case round =>
    obtain ⟨k, hk, rfl, rfl⟩ := hrel
    by_cases hlt : k < len
    · rcases HR.out.1 with h1 | ⟨b, o, rfl, h1, h2⟩
      · have := HL.out; subst h1; simp at this; omega
      · have hc := h2 k (by rw [HL.out]; exact hlt)
        have hb := HR.out.bd k
        have hv := val_small zs HR.out.2 k (by omega)
        clear h2
        have hlt' : (k : Int) < (len : Int) := by omega
        go_wp2
        go_round
        case rel =>
          refine ⟨k + 1, by omega, by go_num, ?_⟩
          rw [take_snoc zs k (by rw [HL.out]; exact hlt), val_snoc, ← List.getD_eq_getElem?_getD, u32_join _ _ hv.1 hv.2 hb.1 hb.2]
        case measure => simp [intOf]; omega
    · obtain rfl : k = len := by omega
      go_wp2
      go_ret
      have : zs.take k = zs := List.take_of_length_le (by rw [HL.out]; exact Nat.le_refl _)
      rw [this]
      exact ⟨rfl, rfl⟩

theorem number_none (w : World) : Calls Try.prog 93 #[.slice none 0 0] w fun e w' => e = .returned (.int .u32 0) ∧ w' = w :=
  number_any none 0 0 [] w ⟨.inl rfl, by simp⟩ rfl (by omega)
end Go.Proofs.Ytkbpjaojgkpffaa
