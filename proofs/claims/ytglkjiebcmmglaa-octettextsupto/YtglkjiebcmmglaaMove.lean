/- What the reader's inner step answers for a reader that is none: bad, with nothing behind it. -/
import Derived.Test.YtglkjiebcmmglaaRows
import Derived.WalkKit
import Derived.ProofKit
import Derived.Below
import Derived.LaidEqlPtr
import Derived.WalkSpells
namespace Go.Proofs.Ytglkjiebcmmglaa
open Go.ChangeShapes Go.WideShapes Go.ChangeAt Go.RowKit
set_option linter.unusedVariables false

theorem neq_nil_ptr (a : Addr) (w : World) : (binOp .neq 45 (.pointer none) (.pointer (some a))).run Try.prog w = .ok (.bool true) w := by
  have h : ∀ d : Nat, (Op.equalIn (d + 1) 45 (.pointer none) (.pointer (some a))).run Try.prog w = .ok false w := fun d => by
    simp [Op.equalIn, run_underlying Try.underlying45]
  simp only [binOp]
  simp [Op.equal, Op.maxDepth, h 9999]
theorem neq_ptr_same (a : Addr) (w : World) : (binOp .neq 45 (.pointer (some a)) (.pointer (some a))).run Try.prog w = .ok (.bool false) w := by
  obtain ⟨j, hi⟩ : ∃ j, Try.prog.info? 56 = some j := Option.isSome_iff_exists.1 (by kernel_rfl)
  have h : ∀ d : Nat, (Op.equalIn (d + 1) 45 (.pointer (some a)) (.pointer (some a))).run Try.prog w = .ok true w := fun d => by
    simp [Op.equalIn, run_underlying Try.underlying45, sizeOf, typeInfo, hi, run_sameAddr_same]
  simp only [binOp]
  simp [Op.equal, Op.maxDepth, h 9999]

theorem view0 (a b c d : Value) (w : World) : (Instr.field 83 (.agg #[a, b, c, d]) 0).run Try.prog w = .ok a w := by kernel_rfl
theorem view1 (a b c d : Value) (w : World) : (Instr.field 83 (.agg #[a, b, c, d]) 1).run Try.prog w = .ok b w := by kernel_rfl
theorem view2 (a b c d : Value) (w : World) : (Instr.field 83 (.agg #[a, b, c, d]) 2).run Try.prog w = .ok c w := by kernel_rfl
theorem view3 (a b c d : Value) (w : World) : (Instr.field 83 (.agg #[a, b, c, d]) 3).run Try.prog w = .ok d w := by kernel_rfl
theorem slice_is_nil (a : Option Addr) (n c : Nat) (w : World) : (binOp .eql 23 (.slice a n c) (.slice none 0 0)).run Try.prog w = .ok (.bool a.isNone) w := Lib.run_eql_slice_nil w _ _ _ _ _ _ _ Try.underlying23
attribute [local go_sem] view0 view1 view2 view3 slice_is_nil

set_option maxHeartbeats 400000 in
theorem move_nil (f n : Int) (w : World) :
    Calls Try.prog 52 #[.pointer none, .int .u8 f, .int .i64 n] w fun e w' => e = .returned (.agg #[.slice none 0 0, .int .i64 0, .int .i64 0, .bool true]) ∧ Below w.heap.size w w' := by
  go_enter Try.func52, Try.ntmps52
  go_wp2
  exact bodyPost_ret (v := .agg #[.slice none 0 0, .int .i64 0, .int .i64 0, .bool true]) (by simp [results, Try.results52, go_sem]) rfl ⟨rfl, ((Below.refl _ _).alloc (Nat.le_refl _) _)⟩
set_option maxHeartbeats 400000 in
theorem move_zero (f n : Int) (w : World) (b o : Nat) (h : w.cell? ⟨b, o, none⟩ = some (.pointer none)) (hb : b < w.heap.size):
    Calls Try.prog 52 #[.pointer (some ⟨b, o, none⟩), .int .u8 f, .int .i64 n] w fun e w' => e = .returned (.agg #[.slice none 0 0, .int .i64 0, .int .i64 0, .bool true]) ∧ Below w.heap.size w w' := by
  have hn := neq_nil_ptr ⟨b, o, none⟩
  go_enter Try.func52, Try.ntmps52
  go_wp2
  exact bodyPost_ret (v := .agg #[.slice none 0 0, .int .i64 0, .int .i64 0, .bool true]) (by simp [results, Try.results52, go_sem]) rfl ⟨rfl, ((Below.refl _ _).alloc (Nat.le_refl _) _)⟩

/-- A reader that is none: nil, or one whose first field is nil. -/
def NoReader (w : World) (p : Option Addr) : Prop :=
  p = none ∨ ∃ b o, p = some ⟨b, o, none⟩ ∧ b < w.heap.size ∧ w.cell? ⟨b, o, none⟩ = some (.pointer none)

theorem NoReader.below {w w' : World} {p : Option Addr} (h : NoReader w p) (hb : Below w.heap.size w w') : NoReader w' p := by
  rcases h with h | ⟨b, o, h1, h2, h3⟩
  · exact .inl h
  · exact .inr ⟨b, o, h1, Nat.lt_of_lt_of_le h2 hb.size, by rw [← h3]; exact hb.cell (p := ⟨b, o, none⟩) h2⟩

theorem move_none (p : Option Addr) (f n : Int) (w : World) (h : NoReader w p) :
    Calls Try.prog 52 #[.pointer p, .int .u8 f, .int .i64 n] w fun e w' => e = .returned (.agg #[.slice none 0 0, .int .i64 0, .int .i64 0, .bool true]) ∧ Below w.heap.size w w' := by
  rcases h with rfl | ⟨b, o, rfl, h2, h3⟩
  · exact move_nil f n w
  · exact move_zero f n w b o h3 h2

theorem number_nil (w : World) :
    Calls Try.prog 40 #[.slice none 0 0] w fun e w' => e = .returned (.int .u32 0) ∧ w' = w := by
  go_enter Try.func40, Try.ntmps40
  go_wp2
  go_loop [3, 8] (fun n i => n = .int .u32 0 ∧ i = .int .i64 0) (fun _ _ => 0)
  case atStart => exact ⟨rfl, rfl⟩
  case round =>
    obtain ⟨rfl, rfl⟩ := hrel
    go_wp2
    go_ret
    exact ⟨rfl, rfl⟩

theorem clone_nil (w : World) :
    Calls Try.prog 48 #[.slice none 0 0] w fun e w' => e = .returned (.slice none 0 0) ∧ w' = w := by
  go_enter Try.func48, Try.ntmps48
  go_wp2
  go_ret
  exact ⟨rfl, rfl⟩
theorem put16_neg (w : World) :
    Calls Try.prog 9 #[.int .i64 (-1)] w fun e w' => e = .returned (.tuple #[.slice none 0 0, .int .i64 2]) ∧ w' = w := by
  go_enter Try.func9, Try.ntmps9
  go_wp2
  go_ret2
  exact ⟨rfl, rfl⟩

theorem jump_none (p : Option Addr) (n : Int) (w : World) (h : NoReader w p) :
    Calls Try.prog 30 #[.pointer p, .int .i64 n] w fun e w' => e = .returned (.tuple #[]) ∧ Below w.heap.size w w' := by
  have H : Hid (NoReader w p) := h
  clear h
  go_enter Try.func30, Try.ntmps30
  go_wp2_with fail
  refine (move_none _ _ _ _ H.out).mono ?_
  rintro e w' ⟨rfl, hb⟩
  go_wp2
  go_end0
  exact ⟨rfl, hb⟩
theorem byte_none (p : Option Addr) (w : World) (h : NoReader w p) :
    Calls Try.prog 31 #[.pointer p] w fun e w' => e = .returned (.int .i64 0) ∧ Below w.heap.size w w' := by
  have H : Hid (NoReader w p) := h
  clear h
  go_enter Try.func31, Try.ntmps31
  go_wp2_with fail
  refine (move_none _ _ _ _ H.out).mono ?_
  rintro e w' ⟨rfl, hb⟩
  go_wp2_with fail
  refine (number_nil _).mono ?_
  rintro e w' ⟨rfl, rfl⟩
  go_wp2
  go_ret
  exact ⟨rfl, hb⟩
theorem u16_none (p : Option Addr) (w : World) (h : NoReader w p) :
    Calls Try.prog 32 #[.pointer p] w fun e w' => e = .returned (.int .i64 0) ∧ Below w.heap.size w w' := by
  have H : Hid (NoReader w p) := h
  clear h
  go_enter Try.func32, Try.ntmps32
  go_wp2_with fail
  refine (move_none _ _ _ _ H.out).mono ?_
  rintro e w' ⟨rfl, hb⟩
  go_wp2_with fail
  refine (number_nil _).mono ?_
  rintro e w' ⟨rfl, rfl⟩
  go_wp2
  go_ret
  exact ⟨rfl, hb⟩
theorem u32_none (p : Option Addr) (w : World) (h : NoReader w p) :
    Calls Try.prog 33 #[.pointer p] w fun e w' => e = .returned (.int .u32 0) ∧ Below w.heap.size w w' := by
  have H : Hid (NoReader w p) := h
  clear h
  go_enter Try.func33, Try.ntmps33
  go_wp2_with fail
  refine (move_none _ _ _ _ H.out).mono ?_
  rintro e w' ⟨rfl, hb⟩
  go_wp2_with fail
  refine (number_nil _).mono ?_
  rintro e w' ⟨rfl, rfl⟩
  go_wp2
  go_ret
  exact ⟨rfl, hb⟩
theorem take_none (p : Option Addr) (n : Int) (w : World) (h : NoReader w p) :
    Calls Try.prog 34 #[.pointer p, .int .i64 n] w fun e w' => e = .returned (.slice none 0 0) ∧ Below w.heap.size w w' := by
  have H : Hid (NoReader w p) := h
  clear h
  go_enter Try.func34, Try.ntmps34
  go_wp2_with fail
  refine (move_none _ _ _ _ H.out).mono ?_
  rintro e w' ⟨rfl, hb⟩
  go_wp2_with fail
  refine (clone_nil _).mono ?_
  rintro e w' ⟨rfl, rfl⟩
  go_wp2
  go_ret
  exact ⟨rfl, hb⟩
theorem at_none (p : Option Addr) (w : World) (h : NoReader w p) :
    Calls Try.prog 35 #[.pointer p] w fun e w' => e = .returned (.int .i64 0) ∧ Below w.heap.size w w' := by
  have H : Hid (NoReader w p) := h
  clear h
  go_enter Try.func35, Try.ntmps35
  go_wp2_with fail
  refine (move_none _ _ _ _ H.out).mono ?_
  rintro e w' ⟨rfl, hb⟩
  go_wp2
  go_ret
  exact ⟨rfl, hb⟩
theorem left_none (p : Option Addr) (w : World) (h : NoReader w p) :
    Calls Try.prog 36 #[.pointer p] w fun e w' => e = .returned (.int .i64 0) ∧ Below w.heap.size w w' := by
  have H : Hid (NoReader w p) := h
  clear h
  go_enter Try.func36, Try.ntmps36
  go_wp2_with fail
  refine (move_none _ _ _ _ H.out).mono ?_
  rintro e w' ⟨rfl, hb⟩
  go_wp2
  go_ret
  exact ⟨rfl, hb⟩
theorem bad_none (p : Option Addr) (w : World) (h : NoReader w p) :
    Calls Try.prog 37 #[.pointer p] w fun e w' => e = .returned (.bool true) ∧ Below w.heap.size w w' := by
  have H : Hid (NoReader w p) := h
  clear h
  go_enter Try.func37, Try.ntmps37
  go_wp2_with fail
  refine (move_none _ _ _ _ H.out).mono ?_
  rintro e w' ⟨rfl, hb⟩
  go_wp2
  go_ret
  exact ⟨rfl, hb⟩
end Go.Proofs.Ytglkjiebcmmglaa
