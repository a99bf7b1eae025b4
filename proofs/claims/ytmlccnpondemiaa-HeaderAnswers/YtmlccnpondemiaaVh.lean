/- nomenclatorlaw08.awake; numbers of two bytes, written and read. -/
import Derived.Test.YtmlccnpondemiaaVg
import Derived.ChangeKeysEq
import Derived.Laws.StructEq
namespace Go.Proofs.Ytmlccnpondemiaa
open Go.ChangeShapes Go.WideShapes Go.ChangeAt Go.RowKit
set_option linter.unusedVariables false
set_option linter.unusedSimpArgs false

theorem awake_ns : nsL (258 : Nat) (packN 0 3 true true false true false false false : Nat) 1 0 1 0 = [258, 34051, 1, 0, 1, 0] := by decide +kernel
theorem awake_bytes : b16s [258, 34051, 1, 0, 1, 0] = [1, 2, 133, 3, 0, 1, 0, 0, 0, 1, 0, 0] := by decide +kernel
theorem awake_ok : ∀ m ∈ ([258, 34051, 1, 0, 1, 0] : List Int), okN m := by
  intro m hm
  simp only [List.mem_cons, List.not_mem_nil, or_false] at hm
  unfold okN
  omega
theorem awake_txt : (txt [1, 2, 133, 3, 0, 1, 0, 0, 0, 1, 0, 0]) = [1, 2, 133, 3, 0, 1, 0, 0, 0, 1, 0, 0] := by decide +kernel

set_option maxHeartbeats 1000000 in
theorem awake21 (w : World) : Calls Try.prog 21 #[] w fun e w' => e = .returned (.bool true) ∧ Below w.heap.size w w' := by
  have KB : Hid (Calls Try.prog 10 #[.agg #[.int .u16 258, .bool true, .int .i64 0, .bool true, .bool false, .bool true, .bool false, .bool false, .bool false, .int .i64 3, .slice none 0 0, .slice none 0 0, .slice none 0 0, .slice none 0 0], .agg #[.int .i64 1, .int .i64 0, .int .i64 1, .int .i64 0]] w fun e w' => BtPost w (nsL (258 : Nat) (packN 0 3 true true false true false false false : Nat) 1 0 1 0) e w') :=
    bytes10 258 true 0 true false true false false false 3 none none none none 0 0 0 0 0 0 0 0 1 0 1 0 w (by omega) (by omega) (by omega)
  go_enter Try.func21, Try.ntmps21
  go_wp2_with fail
  refine KB.out.mono ?_
  rintro e w1 ⟨h1, _, hb1⟩
  rw [awake_ns] at h1
  obtain ⟨g, rfl, hg, hblk⟩ := h1 awake_ok
  rw [awake_bytes] at hblk
  have hr : Rd w1 (some ⟨g, 0, none⟩) [1, 2, 133, 3, 0, 1, 0, 0, 0, 1, 0, 0] := hblk.rd 12
  have hcv := conv_rd (some ⟨g, 0, none⟩) 12 12 _ w1 hr rfl
  rw [awake_txt] at hcv
  have HB : Hid (Below w.heap.size w w1) := hb1
  clear h1 hblk hr hb1 hg KB
  go_wp2
  go_ret
  exact ⟨rfl, HB.out⟩

theorem nv_b16s (I F C0 C1 C2 C3 : Nat) (h0 : I < 65536) (h1 : F < 65536) (h2 : C0 < 65536) (h3 : C1 < 65536) (h4 : C2 < 65536) (h5 : C3 < 65536) :
    nv (b16s (nsL I F C0 C1 C2 C3)) 0 = I ∧ nv (b16s (nsL I F C0 C1 C2 C3)) 1 = F ∧ nv (b16s (nsL I F C0 C1 C2 C3)) 2 = C0 ∧ nv (b16s (nsL I F C0 C1 C2 C3)) 3 = C1 ∧ nv (b16s (nsL I F C0 C1 C2 C3)) 4 = C2 ∧ nv (b16s (nsL I F C0 C1 C2 C3)) 5 = C3 := by
  simp only [nv, b16s, nsL, b16, val, List.flatMap_cons, List.flatMap_nil, List.cons_append, List.nil_append, List.append_nil, Nat.mul_zero, Nat.mul_one, Nat.reduceMul, List.drop_zero, List.drop_succ_cons, List.take_succ_cons, List.take_zero, List.foldl_cons, List.foldl_nil]
  omega
theorem twelve {zs : List Int} (h : 12 ≤ zs.length) : ∃ z0 z1 z2 z3 z4 z5 z6 z7 z8 z9 z10 z11 r, zs = z0 :: z1 :: z2 :: z3 :: z4 :: z5 :: z6 :: z7 :: z8 :: z9 :: z10 :: z11 :: r := by
  match zs, h with
  | z0 :: z1 :: z2 :: z3 :: z4 :: z5 :: z6 :: z7 :: z8 :: z9 :: z10 :: z11 :: r, _ => exact ⟨_, _, _, _, _, _, _, _, _, _, _, _, _, rfl⟩
theorem b16s_nv {zs : List Int} (h : 12 ≤ zs.length) (hz : ∀ z ∈ zs, 0 ≤ z ∧ z ≤ 255) : b16s (nsL (nv zs 0) (nv zs 1) (nv zs 2) (nv zs 3) (nv zs 4) (nv zs 5)) = zs.take 12 := by
  obtain ⟨z0, z1, z2, z3, z4, z5, z6, z7, z8, z9, z10, z11, r, rfl⟩ := twelve h
  have g0 := hz z0 (by simp)
  have g1 := hz z1 (by simp)
  have g2 := hz z2 (by simp)
  have g3 := hz z3 (by simp)
  have g4 := hz z4 (by simp)
  have g5 := hz z5 (by simp)
  have g6 := hz z6 (by simp)
  have g7 := hz z7 (by simp)
  have g8 := hz z8 (by simp)
  have g9 := hz z9 (by simp)
  have g10 := hz z10 (by simp)
  have g11 := hz z11 (by simp)
  clear hz
  simp only [nv, b16s, nsL, b16, val, List.flatMap_cons, List.flatMap_nil, List.cons_append, List.nil_append, List.append_nil, Nat.mul_zero, Nat.mul_one, Nat.reduceMul, List.drop_zero, List.drop_succ_cons, List.take_succ_cons, List.take_zero, List.foldl_cons, List.foldl_nil]
  simp only [List.cons.injEq, and_true]
  refine ⟨?_, ?_, ?_, ?_, ?_, ?_, ?_, ?_, ?_, ?_, ?_, ?_⟩ <;> omega
theorem bit64 {zs : List Int} (h : 12 ≤ zs.length) (hz : ∀ z ∈ zs, 0 ≤ z ∧ z ≤ 255) (hu : unfl (nv zs 1) 64 = true) : (bits .and .u8 (zs.getD 3 0) 64 != 0) = true := by
  obtain ⟨z0, z1, z2, z3, z4, z5, z6, z7, z8, z9, z10, z11, r, rfl⟩ := twelve h
  have g2 := hz z2 (by simp)
  have g3 := hz z3 (by simp)
  clear hz
  simp only [List.getD_cons_succ, List.getD_cons_zero]
  rw [u8_and z3 64 (by omega) (by omega) (by omega) (by omega)]
  have hn := unfl_nat (nv (z0 :: z1 :: z2 :: z3 :: z4 :: z5 :: z6 :: z7 :: z8 :: z9 :: z10 :: z11 :: r) 1) 64
  rw [hu, Bool.toNat_true] at hn
  simp only [nv, val, List.drop_succ_cons, List.drop_zero, List.take_succ_cons, List.take_zero, List.foldl_cons, List.foldl_nil, Nat.mul_one] at hn
  have e : (64 : Int).toNat = 2 ^ 6 := rfl
  rw [e, nat_and_bit, unfl_nat]
  simp only [bne_iff_ne, ne_eq, Nat.reducePow]
  omega
theorem partA0 (a b c d : Int) (w : World) : (part 3 #[.int .i64 a, .int .i64 b, .int .i64 c, .int .i64 d] 0).run Try.prog w = .ok (.int .i64 a) w := by kernel_rfl
theorem partA1 (a b c d : Int) (w : World) : (part 3 #[.int .i64 a, .int .i64 b, .int .i64 c, .int .i64 d] 1).run Try.prog w = .ok (.int .i64 b) w := by kernel_rfl
theorem partA2 (a b c d : Int) (w : World) : (part 3 #[.int .i64 a, .int .i64 b, .int .i64 c, .int .i64 d] 2).run Try.prog w = .ok (.int .i64 c) w := by kernel_rfl
theorem partA3 (a b c d : Int) (w : World) : (part 3 #[.int .i64 a, .int .i64 b, .int .i64 c, .int .i64 d] 3).run Try.prog w = .ok (.int .i64 d) w := by kernel_rfl
theorem info3 : (Try.prog.info? 3).isSome = true := by kernel_rfl
theorem cells3 : Try.prog.cellsOf 3 = 1 := by kernel_rfl
theorem equalA (a b c d : Int) (w : World) : (Op.equalIn 10000 27 (.agg #[.int .i64 a, .int .i64 b, .int .i64 c, .int .i64 d]) (.agg #[.int .i64 a, .int .i64 b, .int .i64 c, .int .i64 d])).run Try.prog w = .ok true w := by
  obtain ⟨i, hi⟩ := Option.isSome_iff_exists.1 info3
  rw [show (10000 : Nat) = 9999 + 1 from rfl, run_equalIn_array w 9999 _ _ Try.underlying27 hi, cells3]
  have r4 : List.range 4 = [0, 1, 2, 3] := rfl
  rw [r4]
  simp only [Op.eqItems, Sem.run_bind, Nat.zero_mul, Nat.one_mul, Nat.mul_one, partA0, partA1, partA2, partA3, Result.andThen_ok, show (9999 : Nat) = 9998 + 1 from rfl, run_equalIn_int _ 9998 3 .i64 .i64 _ _ Try.underlying3, BEq.rfl, Bool.not_true, Bool.false_eq_true, if_false, Sem.run_pure]
theorem neqA (a b c d : Int) (w : World) : (binOp .neq 27 (.agg #[.int .i64 a, .int .i64 b, .int .i64 c, .int .i64 d]) (.agg #[.int .i64 a, .int .i64 b, .int .i64 c, .int .i64 d])).run Try.prog w = .ok (.bool false) w := by
  rw [run_neq_struct, equalA]; rfl
theorem eqlA (a b c d : Int) (w : World) : (binOp .eql 27 (.agg #[.int .i64 a, .int .i64 b, .int .i64 c, .int .i64 d]) (.agg #[.int .i64 a, .int .i64 b, .int .i64 c, .int .i64 d])).run Try.prog w = .ok (.bool true) w := by
  rw [run_eql_struct, equalA]; rfl
end Go.Proofs.Ytmlccnpondemiaa
