/- header.unpack. -/
import Derived.Test.YtmlccnpondemiaaVd
namespace Go.Proofs.Ytmlccnpondemiaa
open Go.ChangeShapes Go.WideShapes Go.ChangeAt Go.RowKit
set_option linter.unusedVariables false
set_option linter.unusedSimpArgs false

theorem nat_and_bit (n k : Nat) : n &&& 2 ^ k = (unfl n (2 ^ k)).toNat * 2 ^ k := by
  have e : unfl n (2 ^ k) = n.testBit k := by
    rw [Nat.testBit_eq_decide_div_mod_eq]; unfold unfl
    rcases Nat.mod_two_eq_zero_or_one (n / 2 ^ k) with h | h <;> simp [h]
  rw [e]
  apply Nat.eq_of_testBit_eq
  intro i
  rw [Nat.testBit_and, Nat.testBit_two_pow]
  by_cases hik : k = i
  · subst hik
    cases h : n.testBit k <;> simp [Nat.testBit_two_pow]
  · cases h : n.testBit k <;> simp [Nat.testBit_two_pow, hik]
theorem and_bit (n k : Nat) (hn : n < 65536) (hk : 2 ^ k < 65536) : bits .and .i64 (n : Int) ((2 ^ k : Nat) : Int) = (((unfl n (2 ^ k)).toNat * 2 ^ k : Nat) : Int) := by
  rw [i64_and_nat _ _ hn hk, nat_and_bit]
theorem and_ne (n k : Nat) (hn : n < 65536) (hk : 2 ^ k < 65536) : (bits .and .i64 (n : Int) ((2 ^ k : Nat) : Int) != 0) = unfl n (2 ^ k) := by
  rw [and_bit n k hn hk]
  have hp : 0 < 2 ^ k := Nat.two_pow_pos k
  cases unfl n (2 ^ k)
  · simp
  · simp only [Bool.toNat_true, Nat.one_mul, bne_iff_ne, ne_eq]
    omega
theorem and_15 (n : Nat) (hn : n < 65536) : bits .and .i64 (n : Int) 15 = ((n % 16 : Nat) : Int) := by
  have := i64_and_nat n 15 hn (by omega)
  rw [show ((15 : Nat) : Int) = 15 from rfl] at this
  rw [this, show 15 = 2 ^ 4 - 1 from rfl, Nat.and_two_pow_sub_one_eq_mod]
/-- The box of the message that is read, the first k flags written. -/
def boxU (n k : Nat) : Array Value := #[.int .u16 0, .bool (decide (0 < k) && unfl n 32768), .int .i64 (unop n : Nat), .bool (decide (1 < k) && unfl n 1024), .bool (decide (2 < k) && unfl n 512), .bool (decide (3 < k) && unfl n 256), .bool (decide (4 < k) && unfl n 128), .bool (decide (5 < k) && unfl n 32), .bool (decide (6 < k) && unfl n 16), .int .i64 (unrc n : Nat), .slice none 0 0, .slice none 0 0, .slice none 0 0, .slice none 0 0]
theorem box_step0 (n : Nat) : (boxU n 0).setIfInBounds 1 (.bool (unfl n 32768)) = boxU n (0 + 1) := by simp [boxU]
theorem box_step1 (n : Nat) : (boxU n 1).setIfInBounds 3 (.bool (unfl n 1024)) = boxU n (1 + 1) := by simp [boxU]
theorem box_step2 (n : Nat) : (boxU n 2).setIfInBounds 4 (.bool (unfl n 512)) = boxU n (2 + 1) := by simp [boxU]
theorem box_step3 (n : Nat) : (boxU n 3).setIfInBounds 5 (.bool (unfl n 256)) = boxU n (3 + 1) := by simp [boxU]
theorem box_step4 (n : Nat) : (boxU n 4).setIfInBounds 6 (.bool (unfl n 128)) = boxU n (4 + 1) := by simp [boxU]
theorem box_step5 (n : Nat) : (boxU n 5).setIfInBounds 7 (.bool (unfl n 32)) = boxU n (5 + 1) := by simp [boxU]
theorem box_step6 (n : Nat) : (boxU n 6).setIfInBounds 8 (.bool (unfl n 16)) = boxU n (6 + 1) := by simp [boxU]
theorem upd_block {W : World} {b i : Nat} {cs : Array Value} {ty : TypeId} (h : W.heap[b]? = some (.cells cs ty)) (v : Value) : (W.setCell ⟨b, i, none⟩ v).heap[b]? = some (.cells (cs.setIfInBounds i v) ty) := by
  simp [World.setCell, Array.getElem?_modify, h]
theorem block_lt {W : World} {b : Nat} {o : Obj} (h : W.heap[b]? = some o) : b < W.heap.size := by
  rcases Nat.lt_or_ge b W.heap.size with h1 | h1
  · exact h1
  · rw [Array.getElem?_eq_none h1] at h; cases h
theorem block_alloc {W : World} {b : Nat} {o : Obj} (h : W.heap[b]? = some o) (x : Obj) : (W.alloc x).heap[b]? = some o := (Below.heap_alloc W x b (block_lt h)).trans h

set_option maxHeartbeats 1000000 in
theorem unpack_no (n : Nat) (w : World) (hn : n < 65536) (h6 : unfl n 64 = true) :
    Calls Try.prog 36 #[.int .i64 (n : Int)] w fun e w' => e = .returned (.tuple #[.agg #[.int .u16 0, .bool false, .int .i64 0, .bool false, .bool false, .bool false, .bool false, .bool false, .bool false, .int .i64 0, .slice none 0 0, .slice none 0 0, .slice none 0 0, .slice none 0 0], .int .i64 8]) ∧ Below w.heap.size w w' := by
  have h := and_ne n 6 hn (by decide)
  rw [show ((2 ^ 6 : Nat) : Int) = 64 from rfl, show 2 ^ 6 = 64 from rfl, h6] at h
  go_enter Try.func36, Try.ntmps36
  go_wp2
  refine bodyPost_ret (v := .tuple #[.agg #[.int .u16 0, .bool false, .int .i64 0, .bool false, .bool false, .bool false, .bool false, .bool false, .bool false, .int .i64 0, .slice none 0 0, .slice none 0 0, .slice none 0 0, .slice none 0 0], .int .i64 8]) ?_ rfl ⟨rfl, ?_⟩
  · simp [results, Try.results36, go_sem]
  · exact (Below.refl _ _).alloc (Nat.le_refl _) _

set_option maxHeartbeats 2000000 in
theorem unpack_ok (n : Nat) (w : World) (hn : n < 65536) (h6 : unfl n 64 = false) :
    Calls Try.prog 36 #[.int .i64 (n : Int)] w fun e w' => e = .returned (.tuple #[.agg (boxU n 7), .int .i64 0]) ∧ Below w.heap.size w w' := by
  have h := and_ne n 6 hn (by decide)
  rw [show ((2 ^ 6 : Nat) : Int) = 64 from rfl, show 2 ^ 6 = 64 from rfl, h6] at h
  have hop : bits .and .i64 ((n : Int) / 2048) 15 = (unop n : Nat) := by
    have := and_15 (n / 2048) (by omega)
    unfold unop
    rw [← this]
    rfl
  have hrc : bits .and .i64 (n : Int) 15 = (unrc n : Nat) := and_15 n hn
  have B0 : Hid ((bits .and .i64 (n : Int) 32768 != 0) = unfl n 32768) := and_ne n 15 hn (by decide)
  have B1 : Hid ((bits .and .i64 (n : Int) 1024 != 0) = unfl n 1024) := and_ne n 10 hn (by decide)
  have B2 : Hid ((bits .and .i64 (n : Int) 512 != 0) = unfl n 512) := and_ne n 9 hn (by decide)
  have B3 : Hid ((bits .and .i64 (n : Int) 256 != 0) = unfl n 256) := and_ne n 8 hn (by decide)
  have B4 : Hid ((bits .and .i64 (n : Int) 128 != 0) = unfl n 128) := and_ne n 7 hn (by decide)
  have B5 : Hid ((bits .and .i64 (n : Int) 32 != 0) = unfl n 32) := and_ne n 5 hn (by decide)
  have B6 : Hid ((bits .and .i64 (n : Int) 16 != 0) = unfl n 16) := and_ne n 4 hn (by decide)
  go_enter Try.func36, Try.ntmps36
  go_wp2_with fail
  refine (flags40 _ _).mono ?_
  rintro e w1 ⟨rfl, hb1⟩
  have HB : Hid (Below w.heap.size w w1) := (((Below.refl _ _).alloc (Nat.le_refl _) _).alloc (by simp) _).trans (hb1.mono (by simp; omega))
  have HX : Hid (w1.heap[w.heap.size + 1]? = some (.cells (boxU n 0) 26)) := by
    refine (hb1.block (w.heap.size + 1) (by simp)).trans ?_
    have := alloc_at (w.alloc (.cells #[.int .u16 0, .bool false, .int .i64 0, .bool false, .bool false, .bool false, .bool false, .bool false, .bool false, .int .i64 0, .slice none 0 0, .slice none 0 0, .slice none 0 0, .slice none 0 0] 26)) (.cells (boxU n 0) 26)
    simp only [World.size_alloc] at this
    exact this
  have HZ : Hid (w1.heap[w.heap.size]? = some (.cells #[.int .u16 0, .bool false, .int .i64 0, .bool false, .bool false, .bool false, .bool false, .bool false, .bool false, .int .i64 0, .slice none 0 0, .slice none 0 0, .slice none 0 0, .slice none 0 0] 26)) := by
    refine (hb1.block w.heap.size (by simp; omega)).trans ?_
    exact block_alloc (alloc_at _ _) _
  clear hb1
  go_wp2_with fail
  go_loopw [18] (fun y wr => ∃ k : Nat, k ≤ 7 ∧ y = .int .i64 (k : Int) ∧ Hid (wr.heap[w.heap.size + 1]? = some (.cells (boxU n k) 26)) ∧ Hid (wr.heap[w.heap.size]? = some (.cells #[.int .u16 0, .bool false, .int .i64 0, .bool false, .bool false, .bool false, .bool false, .bool false, .bool false, .int .i64 0, .slice none 0 0, .slice none 0 0, .slice none 0 0, .slice none 0 0] 26)) ∧ Hid (Below w.heap.size w wr)) (fun y _ => 7 - (intOf y).toNat)
  case atStart => exact ⟨0, by omega, rfl, HX, HZ, HB⟩
  case round =>
    obtain ⟨k, hk, rfl, HX', HZ', HW⟩ := hrel
    have hlt1 : w.heap.size + 1 < wr.heap.size := block_lt HX'.out
    have hlt0 : w.heap.size < wr.heap.size := by omega
    by_cases hlt : k < 7
    · have hlt' : (k : Int) < 7 := by omega
      rcases Nat.lt_or_ge k 1 with hk' | hk'
      · obtain rfl : k = 0 := by omega
        have ix := ix0 (w.heap.size + 1)
        have cc : wr.cell? ⟨w.heap.size + 1, 1, none⟩ = some (.bool false) := cell_of_block HX'.out rfl
        have ff := frozen_of_block (i := 1) HX'.out
        have bb := B0.out
        go_wp2
        go_round
        case rel =>
          refine ⟨0 + 1, by omega, by go_num, ?_, ?_, ?_⟩
          · exact (block_alloc (upd_block HX'.out _) _).trans (by rw [box_step0])
          · exact block_alloc ((Below.heap_setCell wr _ _ _ (by simp)).trans HZ'.out) _
          · exact (HW.out.setCell (p := ⟨_, _, none⟩) (by simp) _).alloc (by simp; omega) _
        case measure => simp [intOf]
      rcases Nat.lt_or_ge k 2 with hk' | hk'
      · obtain rfl : k = 1 := by omega
        have ix := ix1 (w.heap.size + 1)
        have cc : wr.cell? ⟨w.heap.size + 1, 3, none⟩ = some (.bool false) := cell_of_block HX'.out rfl
        have ff := frozen_of_block (i := 3) HX'.out
        have bb := B1.out
        go_wp2
        go_round
        case rel =>
          refine ⟨1 + 1, by omega, by go_num, ?_, ?_, ?_⟩
          · exact (block_alloc (upd_block HX'.out _) _).trans (by rw [box_step1])
          · exact block_alloc ((Below.heap_setCell wr _ _ _ (by simp)).trans HZ'.out) _
          · exact (HW.out.setCell (p := ⟨_, _, none⟩) (by simp) _).alloc (by simp; omega) _
        case measure => simp [intOf]
      rcases Nat.lt_or_ge k 3 with hk' | hk'
      · obtain rfl : k = 2 := by omega
        have ix := ix2 (w.heap.size + 1)
        have cc : wr.cell? ⟨w.heap.size + 1, 4, none⟩ = some (.bool false) := cell_of_block HX'.out rfl
        have ff := frozen_of_block (i := 4) HX'.out
        have bb := B2.out
        go_wp2
        go_round
        case rel =>
          refine ⟨2 + 1, by omega, by go_num, ?_, ?_, ?_⟩
          · exact (block_alloc (upd_block HX'.out _) _).trans (by rw [box_step2])
          · exact block_alloc ((Below.heap_setCell wr _ _ _ (by simp)).trans HZ'.out) _
          · exact (HW.out.setCell (p := ⟨_, _, none⟩) (by simp) _).alloc (by simp; omega) _
        case measure => simp [intOf]
      rcases Nat.lt_or_ge k 4 with hk' | hk'
      · obtain rfl : k = 3 := by omega
        have ix := ix3 (w.heap.size + 1)
        have cc : wr.cell? ⟨w.heap.size + 1, 5, none⟩ = some (.bool false) := cell_of_block HX'.out rfl
        have ff := frozen_of_block (i := 5) HX'.out
        have bb := B3.out
        go_wp2
        go_round
        case rel =>
          refine ⟨3 + 1, by omega, by go_num, ?_, ?_, ?_⟩
          · exact (block_alloc (upd_block HX'.out _) _).trans (by rw [box_step3])
          · exact block_alloc ((Below.heap_setCell wr _ _ _ (by simp)).trans HZ'.out) _
          · exact (HW.out.setCell (p := ⟨_, _, none⟩) (by simp) _).alloc (by simp; omega) _
        case measure => simp [intOf]
      rcases Nat.lt_or_ge k 5 with hk' | hk'
      · obtain rfl : k = 4 := by omega
        have ix := ix4 (w.heap.size + 1)
        have cc : wr.cell? ⟨w.heap.size + 1, 6, none⟩ = some (.bool false) := cell_of_block HX'.out rfl
        have ff := frozen_of_block (i := 6) HX'.out
        have bb := B4.out
        go_wp2
        go_round
        case rel =>
          refine ⟨4 + 1, by omega, by go_num, ?_, ?_, ?_⟩
          · exact (block_alloc (upd_block HX'.out _) _).trans (by rw [box_step4])
          · exact block_alloc ((Below.heap_setCell wr _ _ _ (by simp)).trans HZ'.out) _
          · exact (HW.out.setCell (p := ⟨_, _, none⟩) (by simp) _).alloc (by simp; omega) _
        case measure => simp [intOf]
      rcases Nat.lt_or_ge k 6 with hk' | hk'
      · obtain rfl : k = 5 := by omega
        have ix := ix5 (w.heap.size + 1)
        have cc : wr.cell? ⟨w.heap.size + 1, 7, none⟩ = some (.bool false) := cell_of_block HX'.out rfl
        have ff := frozen_of_block (i := 7) HX'.out
        have bb := B5.out
        go_wp2
        go_round
        case rel =>
          refine ⟨5 + 1, by omega, by go_num, ?_, ?_, ?_⟩
          · exact (block_alloc (upd_block HX'.out _) _).trans (by rw [box_step5])
          · exact block_alloc ((Below.heap_setCell wr _ _ _ (by simp)).trans HZ'.out) _
          · exact (HW.out.setCell (p := ⟨_, _, none⟩) (by simp) _).alloc (by simp; omega) _
        case measure => simp [intOf]
      rcases Nat.lt_or_ge k 7 with hk' | hk'
      · obtain rfl : k = 6 := by omega
        have ix := ix6 (w.heap.size + 1)
        have cc : wr.cell? ⟨w.heap.size + 1, 8, none⟩ = some (.bool false) := cell_of_block HX'.out rfl
        have ff := frozen_of_block (i := 8) HX'.out
        have bb := B6.out
        go_wp2
        go_round
        case rel =>
          refine ⟨6 + 1, by omega, by go_num, ?_, ?_, ?_⟩
          · exact (block_alloc (upd_block HX'.out _) _).trans (by rw [box_step6])
          · exact block_alloc ((Below.heap_setCell wr _ _ _ (by simp)).trans HZ'.out) _
          · exact (HW.out.setCell (p := ⟨_, _, none⟩) (by simp) _).alloc (by simp; omega) _
        case measure => simp [intOf]
      · omega
    · obtain rfl : k = 7 := by omega
      have x0 : wr.cell? ⟨w.heap.size + 1, 0, none⟩ = some (.int .u16 0) := cell_of_block HX'.out rfl
      have x1 : wr.cell? ⟨w.heap.size + 1, 1, none⟩ = some (.bool (unfl n 32768)) := cell_of_block HX'.out rfl
      have x2 : wr.cell? ⟨w.heap.size + 1, 2, none⟩ = some (.int .i64 (unop n : Nat)) := cell_of_block HX'.out rfl
      have x3 : wr.cell? ⟨w.heap.size + 1, 3, none⟩ = some (.bool (unfl n 1024)) := cell_of_block HX'.out rfl
      have x4 : wr.cell? ⟨w.heap.size + 1, 4, none⟩ = some (.bool (unfl n 512)) := cell_of_block HX'.out rfl
      have x5 : wr.cell? ⟨w.heap.size + 1, 5, none⟩ = some (.bool (unfl n 256)) := cell_of_block HX'.out rfl
      have x6 : wr.cell? ⟨w.heap.size + 1, 6, none⟩ = some (.bool (unfl n 128)) := cell_of_block HX'.out rfl
      have x7 : wr.cell? ⟨w.heap.size + 1, 7, none⟩ = some (.bool (unfl n 32)) := cell_of_block HX'.out rfl
      have x8 : wr.cell? ⟨w.heap.size + 1, 8, none⟩ = some (.bool (unfl n 16)) := cell_of_block HX'.out rfl
      have x9 : wr.cell? ⟨w.heap.size + 1, 9, none⟩ = some (.int .i64 (unrc n : Nat)) := cell_of_block HX'.out rfl
      have x10 : wr.cell? ⟨w.heap.size + 1, 10, none⟩ = some (.slice none 0 0) := cell_of_block HX'.out rfl
      have x11 : wr.cell? ⟨w.heap.size + 1, 11, none⟩ = some (.slice none 0 0) := cell_of_block HX'.out rfl
      have x12 : wr.cell? ⟨w.heap.size + 1, 12, none⟩ = some (.slice none 0 0) := cell_of_block HX'.out rfl
      have x13 : wr.cell? ⟨w.heap.size + 1, 13, none⟩ = some (.slice none 0 0) := cell_of_block HX'.out rfl
      have z0 : wr.cell? ⟨w.heap.size, 0, none⟩ = some (.int .u16 0) := cell_of_block HZ'.out rfl
      have f0 := frozen_of_block (i := 0) HZ'.out
      have z1 : wr.cell? ⟨w.heap.size, 1, none⟩ = some (.bool false) := cell_of_block HZ'.out rfl
      have f1 := frozen_of_block (i := 1) HZ'.out
      have z2 : wr.cell? ⟨w.heap.size, 2, none⟩ = some (.int .i64 0) := cell_of_block HZ'.out rfl
      have f2 := frozen_of_block (i := 2) HZ'.out
      have z3 : wr.cell? ⟨w.heap.size, 3, none⟩ = some (.bool false) := cell_of_block HZ'.out rfl
      have f3 := frozen_of_block (i := 3) HZ'.out
      have z4 : wr.cell? ⟨w.heap.size, 4, none⟩ = some (.bool false) := cell_of_block HZ'.out rfl
      have f4 := frozen_of_block (i := 4) HZ'.out
      have z5 : wr.cell? ⟨w.heap.size, 5, none⟩ = some (.bool false) := cell_of_block HZ'.out rfl
      have f5 := frozen_of_block (i := 5) HZ'.out
      have z6 : wr.cell? ⟨w.heap.size, 6, none⟩ = some (.bool false) := cell_of_block HZ'.out rfl
      have f6 := frozen_of_block (i := 6) HZ'.out
      have z7 : wr.cell? ⟨w.heap.size, 7, none⟩ = some (.bool false) := cell_of_block HZ'.out rfl
      have f7 := frozen_of_block (i := 7) HZ'.out
      have z8 : wr.cell? ⟨w.heap.size, 8, none⟩ = some (.bool false) := cell_of_block HZ'.out rfl
      have f8 := frozen_of_block (i := 8) HZ'.out
      have z9 : wr.cell? ⟨w.heap.size, 9, none⟩ = some (.int .i64 0) := cell_of_block HZ'.out rfl
      have f9 := frozen_of_block (i := 9) HZ'.out
      have z10 : wr.cell? ⟨w.heap.size, 10, none⟩ = some (.slice none 0 0) := cell_of_block HZ'.out rfl
      have f10 := frozen_of_block (i := 10) HZ'.out
      have z11 : wr.cell? ⟨w.heap.size, 11, none⟩ = some (.slice none 0 0) := cell_of_block HZ'.out rfl
      have f11 := frozen_of_block (i := 11) HZ'.out
      have z12 : wr.cell? ⟨w.heap.size, 12, none⟩ = some (.slice none 0 0) := cell_of_block HZ'.out rfl
      have f12 := frozen_of_block (i := 12) HZ'.out
      have z13 : wr.cell? ⟨w.heap.size, 13, none⟩ = some (.slice none 0 0) := cell_of_block HZ'.out rfl
      have f13 := frozen_of_block (i := 13) HZ'.out
      go_wp2
      refine bodyPost_ret (v := .tuple #[.agg #[.int .u16 0, .bool (unfl n 32768), .int .i64 (unop n : Nat), .bool (unfl n 1024), .bool (unfl n 512), .bool (unfl n 256), .bool (unfl n 128), .bool (unfl n 32), .bool (unfl n 16), .int .i64 (unrc n : Nat), .slice none 0 0, .slice none 0 0, .slice none 0 0, .slice none 0 0], .int .i64 0]) ?_ rfl ⟨rfl, ?_⟩
      · simp [results, Try.results36, go_sem, hlt0, z0, z1, z2, z3, z4, z5, z6, z7, z8, z9, z10, z11, z12, z13]
      · iterate 14 refine Below.setCell ?_ (by simp) _
        exact HW.out
end Go.Proofs.Ytmlccnpondemiaa
