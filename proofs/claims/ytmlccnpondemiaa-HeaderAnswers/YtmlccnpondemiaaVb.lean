/- header.pack. -/
import Derived.Test.YtmlccnpondemiaaVa
import Derived.Test.YtmlccnpondemiaaVp
namespace Go.Proofs.Ytmlccnpondemiaa
open Go.ChangeShapes Go.WideShapes Go.ChangeAt Go.RowKit
set_option linter.unusedVariables false

set_option maxHeartbeats 1000000 in
theorem pack_no (id : Int) (rs : Bool) (op : Int) (aa tc rd ra ad cd : Bool) (rc : Int) (a1 a2 a3 a4 : Option Addr) (n1 n2 n3 n4 c1 c2 c3 c4 : Nat) (w : World)
    (h : op < 0 ∨ (0 ≤ op ∧ 15 < op) ∨ (0 ≤ op ∧ op ≤ 15 ∧ rc < 0) ∨ (0 ≤ op ∧ op ≤ 15 ∧ 0 ≤ rc ∧ 15 < rc)) :
    Calls Try.prog 24 #[.agg #[.int .u16 id, .bool rs, .int .i64 op, .bool aa, .bool tc, .bool rd, .bool ra, .bool ad, .bool cd, .int .i64 rc, .slice a1 n1 c1, .slice a2 n2 c2, .slice a3 n3 c3, .slice a4 n4 c4]] w fun e w' => e = .returned (.tuple #[.int .i64 0, .int .i64 2]) ∧ Below w.heap.size w w' := by
  rcases h with h | ⟨h0, h⟩ | ⟨h0, h1, h⟩ | ⟨h0, h1, h2, h⟩
  all_goals
    go_enter Try.func24, Try.ntmps24
    go_wp2
    go_ret2
    exact ⟨rfl, (Below.refl _ _).alloc (Nat.le_refl _) _⟩

theorem ix0 (b : Nat) (w : World) : (Instr.index 85 (.agg #[.int .i64 32768, .pointer (some ⟨b, 1, none⟩), .int .i64 1024, .pointer (some ⟨b, 3, none⟩), .int .i64 512, .pointer (some ⟨b, 4, none⟩), .int .i64 256, .pointer (some ⟨b, 5, none⟩), .int .i64 128, .pointer (some ⟨b, 6, none⟩), .int .i64 32, .pointer (some ⟨b, 7, none⟩), .int .i64 16, .pointer (some ⟨b, 8, none⟩)]) (.int .i64 0)).run Try.prog w = .ok (.agg #[.int .i64 32768, .pointer (some ⟨b, 1, none⟩)]) w := by kernel_rfl
theorem ix1 (b : Nat) (w : World) : (Instr.index 85 (.agg #[.int .i64 32768, .pointer (some ⟨b, 1, none⟩), .int .i64 1024, .pointer (some ⟨b, 3, none⟩), .int .i64 512, .pointer (some ⟨b, 4, none⟩), .int .i64 256, .pointer (some ⟨b, 5, none⟩), .int .i64 128, .pointer (some ⟨b, 6, none⟩), .int .i64 32, .pointer (some ⟨b, 7, none⟩), .int .i64 16, .pointer (some ⟨b, 8, none⟩)]) (.int .i64 1)).run Try.prog w = .ok (.agg #[.int .i64 1024, .pointer (some ⟨b, 3, none⟩)]) w := by kernel_rfl
theorem ix2 (b : Nat) (w : World) : (Instr.index 85 (.agg #[.int .i64 32768, .pointer (some ⟨b, 1, none⟩), .int .i64 1024, .pointer (some ⟨b, 3, none⟩), .int .i64 512, .pointer (some ⟨b, 4, none⟩), .int .i64 256, .pointer (some ⟨b, 5, none⟩), .int .i64 128, .pointer (some ⟨b, 6, none⟩), .int .i64 32, .pointer (some ⟨b, 7, none⟩), .int .i64 16, .pointer (some ⟨b, 8, none⟩)]) (.int .i64 2)).run Try.prog w = .ok (.agg #[.int .i64 512, .pointer (some ⟨b, 4, none⟩)]) w := by kernel_rfl
theorem ix3 (b : Nat) (w : World) : (Instr.index 85 (.agg #[.int .i64 32768, .pointer (some ⟨b, 1, none⟩), .int .i64 1024, .pointer (some ⟨b, 3, none⟩), .int .i64 512, .pointer (some ⟨b, 4, none⟩), .int .i64 256, .pointer (some ⟨b, 5, none⟩), .int .i64 128, .pointer (some ⟨b, 6, none⟩), .int .i64 32, .pointer (some ⟨b, 7, none⟩), .int .i64 16, .pointer (some ⟨b, 8, none⟩)]) (.int .i64 3)).run Try.prog w = .ok (.agg #[.int .i64 256, .pointer (some ⟨b, 5, none⟩)]) w := by kernel_rfl
theorem ix4 (b : Nat) (w : World) : (Instr.index 85 (.agg #[.int .i64 32768, .pointer (some ⟨b, 1, none⟩), .int .i64 1024, .pointer (some ⟨b, 3, none⟩), .int .i64 512, .pointer (some ⟨b, 4, none⟩), .int .i64 256, .pointer (some ⟨b, 5, none⟩), .int .i64 128, .pointer (some ⟨b, 6, none⟩), .int .i64 32, .pointer (some ⟨b, 7, none⟩), .int .i64 16, .pointer (some ⟨b, 8, none⟩)]) (.int .i64 4)).run Try.prog w = .ok (.agg #[.int .i64 128, .pointer (some ⟨b, 6, none⟩)]) w := by kernel_rfl
theorem ix5 (b : Nat) (w : World) : (Instr.index 85 (.agg #[.int .i64 32768, .pointer (some ⟨b, 1, none⟩), .int .i64 1024, .pointer (some ⟨b, 3, none⟩), .int .i64 512, .pointer (some ⟨b, 4, none⟩), .int .i64 256, .pointer (some ⟨b, 5, none⟩), .int .i64 128, .pointer (some ⟨b, 6, none⟩), .int .i64 32, .pointer (some ⟨b, 7, none⟩), .int .i64 16, .pointer (some ⟨b, 8, none⟩)]) (.int .i64 5)).run Try.prog w = .ok (.agg #[.int .i64 32, .pointer (some ⟨b, 7, none⟩)]) w := by kernel_rfl
theorem ix6 (b : Nat) (w : World) : (Instr.index 85 (.agg #[.int .i64 32768, .pointer (some ⟨b, 1, none⟩), .int .i64 1024, .pointer (some ⟨b, 3, none⟩), .int .i64 512, .pointer (some ⟨b, 4, none⟩), .int .i64 256, .pointer (some ⟨b, 5, none⟩), .int .i64 128, .pointer (some ⟨b, 6, none⟩), .int .i64 32, .pointer (some ⟨b, 7, none⟩), .int .i64 16, .pointer (some ⟨b, 8, none⟩)]) (.int .i64 6)).run Try.prog w = .ok (.agg #[.int .i64 16, .pointer (some ⟨b, 8, none⟩)]) w := by kernel_rfl

/-- A message's box. -/
def MBox (w : World) (b : Nat) (id : Value) (rs : Bool) (op : Value) (aa tc rd ra ad cd : Bool) : Prop :=
  b < w.heap.size ∧ w.cell? ⟨b, 1, none⟩ = some (.bool rs) ∧ w.cell? ⟨b, 3, none⟩ = some (.bool aa) ∧ w.cell? ⟨b, 4, none⟩ = some (.bool tc) ∧ w.cell? ⟨b, 5, none⟩ = some (.bool rd) ∧ w.cell? ⟨b, 6, none⟩ = some (.bool ra) ∧ w.cell? ⟨b, 7, none⟩ = some (.bool ad) ∧ w.cell? ⟨b, 8, none⟩ = some (.bool cd)
theorem MBox.below {w w' : World} {b : Nat} {id : Value} {rs : Bool} {op : Value} {aa tc rd ra ad cd : Bool} (h : MBox w b id rs op aa tc rd ra ad cd) (hb : Below w.heap.size w w') : MBox w' b id rs op aa tc rd ra ad cd := by
  obtain ⟨h0, h1, h2, h3, h4, h5, h6, h7⟩ := h
  exact ⟨Nat.lt_of_lt_of_le h0 hb.size, (hb.cell (p := ⟨b, 1, none⟩) h0).trans h1, (hb.cell (p := ⟨b, 3, none⟩) h0).trans h2, (hb.cell (p := ⟨b, 4, none⟩) h0).trans h3, (hb.cell (p := ⟨b, 5, none⟩) h0).trans h4, (hb.cell (p := ⟨b, 6, none⟩) h0).trans h5, (hb.cell (p := ⟨b, 7, none⟩) h0).trans h6, (hb.cell (p := ⟨b, 8, none⟩) h0).trans h7⟩

set_option maxHeartbeats 1000000 in
theorem pack_ok (id : Int) (rs : Bool) (op : Nat) (aa tc rd ra ad cd : Bool) (rc : Nat) (a1 a2 a3 a4 : Option Addr) (n1 n2 n3 n4 c1 c2 c3 c4 : Nat) (w : World)
    (ho : op < 16) (hr : rc < 16) :
    Calls Try.prog 24 #[.agg #[.int .u16 id, .bool rs, .int .i64 (op : Int), .bool aa, .bool tc, .bool rd, .bool ra, .bool ad, .bool cd, .int .i64 (rc : Int), .slice a1 n1 c1, .slice a2 n2 c2, .slice a3 n3 c3, .slice a4 n4 c4]] w fun e w' => e = .returned (.tuple #[.int .i64 (packN op rc rs aa tc rd ra ad cd : Nat), .int .i64 0]) ∧ Below w.heap.size w w' := by
  have h1 : ¬ (op : Int) < 0 := by omega
  have h2 : (op : Int) ≤ 15 := by omega
  have h3 : ¬ (rc : Int) < 0 := by omega
  have h4 : (rc : Int) ≤ 15 := by omega
  have HT : ∀ k, Hid (accN (op * 2048 ||| rc) ((fls rs aa tc rd ra ad cd).take k) < 65536) := fun k => acc_take_lt ho hr rs aa tc rd ra ad cd k
  have HP : Hid (packN op rc rs aa tc rd ra ad cd = accN (op * 2048 ||| rc) (fls rs aa tc rd ra ad cd)) := rfl
  obtain ⟨N0, hN0⟩ : ∃ N0, N0 = op * 2048 ||| rc := ⟨_, rfl⟩
  have h5 : bits .or .i64 ((op : Int) * 2048) (rc : Int) = (N0 : Int) := by
    have := i64_or_nat (op * 2048) rc (by omega) (by omega)
    rw [hN0]; simpa using this
  have HT' : ∀ k, Hid (accN N0 ((fls rs aa tc rd ra ad cd).take k) < 65536) := by rw [hN0]; exact HT
  have HP' : Hid (packN op rc rs aa tc rd ra ad cd = accN N0 (fls rs aa tc rd ra ad cd)) := by rw [hN0]; exact HP
  clear HT HP hN0
  generalize packN op rc rs aa tc rd ra ad cd = P at *
  go_enter Try.func24, Try.ntmps24
  go_wp2_with fail
  refine (flags40 _ _).mono ?_
  rintro e w1 ⟨rfl, hb1⟩
  have HM : Hid (MBox w1 w.heap.size (.int .u16 id) rs (.int .i64 op) aa tc rd ra ad cd) := by
    refine MBox.below ?_ hb1
    simp [MBox]
  have HB : Hid (Below w.heap.size w w1) := (((Below.refl _ _).alloc (Nat.le_refl _) _).trans (hb1.mono (by simp)))
  clear hb1
  go_wp2_with fail
  go_loopw [4, 32] (fun y x wr => ∃ k : Nat, k ≤ 7 ∧ x = .int .i64 (k : Int) ∧ y = .int .i64 (accN N0 ((fls rs aa tc rd ra ad cd).take k) : Nat) ∧ Hid (Below w1.heap.size w1 wr)) (fun _ x _ => 7 - (intOf x).toNat)
  case atStart => exact ⟨0, by omega, rfl, rfl, Below.refl _ _⟩
  case round =>
    obtain ⟨k, hk, rfl, rfl, HW⟩ := hrel
    have HM' := HM.out.below HW.out
    obtain ⟨m0, m1, m2, m3, m4, m5, m6, m7⟩ := HM'
    by_cases hlt : k < 7
    · have hlt' : (k : Int) < 7 := by omega
      have hstep : ∀ (x : Bool) (v : Nat), (fls rs aa tc rd ra ad cd)[k]? = some (x, v) → Hid (v < 65536 → (x = true → bits .or .i64 (accN N0 ((fls rs aa tc rd ra ad cd).take k) : Nat) (v : Int) = (accN N0 ((fls rs aa tc rd ra ad cd).take (k + 1)) : Nat)) ∧ (x = false → accN N0 ((fls rs aa tc rd ra ad cd).take (k + 1)) = accN N0 ((fls rs aa tc rd ra ad cd).take k))) := by
        intro x v e hv
        have e2 : (fls rs aa tc rd ra ad cd).take (k + 1) = (fls rs aa tc rd ra ad cd).take k ++ [(x, v)] := by rw [List.take_add_one, e]; rfl
        constructor
        · intro ex
          rw [i64_or_nat _ _ (HT' k).out hv, e2]
          simp [accN, ex]
        · intro ex
          rw [e2]
          simp [accN, ex]
      rcases Nat.lt_or_ge k 1 with hk' | hk'
      · obtain rfl : k = 0 := by omega
        have HS := hstep rs 32768 rfl
        have ix := ix0 w.heap.size
        clear hstep
        generalize accN N0 ((fls rs aa tc rd ra ad cd).take 0) = A at *
        obtain ⟨A', hA'⟩ : ∃ A', A' = accN N0 ((fls rs aa tc rd ra ad cd).take (0 + 1)) := ⟨_, rfl⟩
        rw [← hA'] at HS
        have HA' : Hid (A' = accN N0 ((fls rs aa tc rd ra ad cd).take (0 + 1))) := hA'
        clear hA'
        obtain ⟨xx, hxx⟩ : ∃ xx, xx = rs := ⟨_, rfl⟩
        rw [← hxx] at m1 HS
        have HX : Hid (xx = rs) := hxx
        clear hxx
        cases xx
        · have hA : Hid (A' = A) := (HS.out (by omega)).2 rfl
          go_wp2
          go_round
          case rel => exact ⟨0 + 1, by omega, by go_num, by rw [← HA'.out, hA.out], (HW.out.alloc HW.out.size _)⟩
          case measure => simp [intOf]
        · have hA : bits .or .i64 (A : Int) 32768 = (A' : Int) := (HS.out (by omega)).1 rfl
          go_wp2
          go_round
          case rel => exact ⟨0 + 1, by omega, by go_num, by rw [← HA'.out], (HW.out.alloc HW.out.size _)⟩
          case measure => simp [intOf]
      rcases Nat.lt_or_ge k 2 with hk' | hk'
      · obtain rfl : k = 1 := by omega
        have HS := hstep aa 1024 rfl
        have ix := ix1 w.heap.size
        clear hstep
        generalize accN N0 ((fls rs aa tc rd ra ad cd).take 1) = A at *
        obtain ⟨A', hA'⟩ : ∃ A', A' = accN N0 ((fls rs aa tc rd ra ad cd).take (1 + 1)) := ⟨_, rfl⟩
        rw [← hA'] at HS
        have HA' : Hid (A' = accN N0 ((fls rs aa tc rd ra ad cd).take (1 + 1))) := hA'
        clear hA'
        obtain ⟨xx, hxx⟩ : ∃ xx, xx = aa := ⟨_, rfl⟩
        rw [← hxx] at m2 HS
        have HX : Hid (xx = aa) := hxx
        clear hxx
        cases xx
        · have hA : Hid (A' = A) := (HS.out (by omega)).2 rfl
          go_wp2
          go_round
          case rel => exact ⟨1 + 1, by omega, by go_num, by rw [← HA'.out, hA.out], (HW.out.alloc HW.out.size _)⟩
          case measure => simp [intOf]
        · have hA : bits .or .i64 (A : Int) 1024 = (A' : Int) := (HS.out (by omega)).1 rfl
          go_wp2
          go_round
          case rel => exact ⟨1 + 1, by omega, by go_num, by rw [← HA'.out], (HW.out.alloc HW.out.size _)⟩
          case measure => simp [intOf]
      rcases Nat.lt_or_ge k 3 with hk' | hk'
      · obtain rfl : k = 2 := by omega
        have HS := hstep tc 512 rfl
        have ix := ix2 w.heap.size
        clear hstep
        generalize accN N0 ((fls rs aa tc rd ra ad cd).take 2) = A at *
        obtain ⟨A', hA'⟩ : ∃ A', A' = accN N0 ((fls rs aa tc rd ra ad cd).take (2 + 1)) := ⟨_, rfl⟩
        rw [← hA'] at HS
        have HA' : Hid (A' = accN N0 ((fls rs aa tc rd ra ad cd).take (2 + 1))) := hA'
        clear hA'
        obtain ⟨xx, hxx⟩ : ∃ xx, xx = tc := ⟨_, rfl⟩
        rw [← hxx] at m3 HS
        have HX : Hid (xx = tc) := hxx
        clear hxx
        cases xx
        · have hA : Hid (A' = A) := (HS.out (by omega)).2 rfl
          go_wp2
          go_round
          case rel => exact ⟨2 + 1, by omega, by go_num, by rw [← HA'.out, hA.out], (HW.out.alloc HW.out.size _)⟩
          case measure => simp [intOf]
        · have hA : bits .or .i64 (A : Int) 512 = (A' : Int) := (HS.out (by omega)).1 rfl
          go_wp2
          go_round
          case rel => exact ⟨2 + 1, by omega, by go_num, by rw [← HA'.out], (HW.out.alloc HW.out.size _)⟩
          case measure => simp [intOf]
      rcases Nat.lt_or_ge k 4 with hk' | hk'
      · obtain rfl : k = 3 := by omega
        have HS := hstep rd 256 rfl
        have ix := ix3 w.heap.size
        clear hstep
        generalize accN N0 ((fls rs aa tc rd ra ad cd).take 3) = A at *
        obtain ⟨A', hA'⟩ : ∃ A', A' = accN N0 ((fls rs aa tc rd ra ad cd).take (3 + 1)) := ⟨_, rfl⟩
        rw [← hA'] at HS
        have HA' : Hid (A' = accN N0 ((fls rs aa tc rd ra ad cd).take (3 + 1))) := hA'
        clear hA'
        obtain ⟨xx, hxx⟩ : ∃ xx, xx = rd := ⟨_, rfl⟩
        rw [← hxx] at m4 HS
        have HX : Hid (xx = rd) := hxx
        clear hxx
        cases xx
        · have hA : Hid (A' = A) := (HS.out (by omega)).2 rfl
          go_wp2
          go_round
          case rel => exact ⟨3 + 1, by omega, by go_num, by rw [← HA'.out, hA.out], (HW.out.alloc HW.out.size _)⟩
          case measure => simp [intOf]
        · have hA : bits .or .i64 (A : Int) 256 = (A' : Int) := (HS.out (by omega)).1 rfl
          go_wp2
          go_round
          case rel => exact ⟨3 + 1, by omega, by go_num, by rw [← HA'.out], (HW.out.alloc HW.out.size _)⟩
          case measure => simp [intOf]
      rcases Nat.lt_or_ge k 5 with hk' | hk'
      · obtain rfl : k = 4 := by omega
        have HS := hstep ra 128 rfl
        have ix := ix4 w.heap.size
        clear hstep
        generalize accN N0 ((fls rs aa tc rd ra ad cd).take 4) = A at *
        obtain ⟨A', hA'⟩ : ∃ A', A' = accN N0 ((fls rs aa tc rd ra ad cd).take (4 + 1)) := ⟨_, rfl⟩
        rw [← hA'] at HS
        have HA' : Hid (A' = accN N0 ((fls rs aa tc rd ra ad cd).take (4 + 1))) := hA'
        clear hA'
        obtain ⟨xx, hxx⟩ : ∃ xx, xx = ra := ⟨_, rfl⟩
        rw [← hxx] at m5 HS
        have HX : Hid (xx = ra) := hxx
        clear hxx
        cases xx
        · have hA : Hid (A' = A) := (HS.out (by omega)).2 rfl
          go_wp2
          go_round
          case rel => exact ⟨4 + 1, by omega, by go_num, by rw [← HA'.out, hA.out], (HW.out.alloc HW.out.size _)⟩
          case measure => simp [intOf]
        · have hA : bits .or .i64 (A : Int) 128 = (A' : Int) := (HS.out (by omega)).1 rfl
          go_wp2
          go_round
          case rel => exact ⟨4 + 1, by omega, by go_num, by rw [← HA'.out], (HW.out.alloc HW.out.size _)⟩
          case measure => simp [intOf]
      rcases Nat.lt_or_ge k 6 with hk' | hk'
      · obtain rfl : k = 5 := by omega
        have HS := hstep ad 32 rfl
        have ix := ix5 w.heap.size
        clear hstep
        generalize accN N0 ((fls rs aa tc rd ra ad cd).take 5) = A at *
        obtain ⟨A', hA'⟩ : ∃ A', A' = accN N0 ((fls rs aa tc rd ra ad cd).take (5 + 1)) := ⟨_, rfl⟩
        rw [← hA'] at HS
        have HA' : Hid (A' = accN N0 ((fls rs aa tc rd ra ad cd).take (5 + 1))) := hA'
        clear hA'
        obtain ⟨xx, hxx⟩ : ∃ xx, xx = ad := ⟨_, rfl⟩
        rw [← hxx] at m6 HS
        have HX : Hid (xx = ad) := hxx
        clear hxx
        cases xx
        · have hA : Hid (A' = A) := (HS.out (by omega)).2 rfl
          go_wp2
          go_round
          case rel => exact ⟨5 + 1, by omega, by go_num, by rw [← HA'.out, hA.out], (HW.out.alloc HW.out.size _)⟩
          case measure => simp [intOf]
        · have hA : bits .or .i64 (A : Int) 32 = (A' : Int) := (HS.out (by omega)).1 rfl
          go_wp2
          go_round
          case rel => exact ⟨5 + 1, by omega, by go_num, by rw [← HA'.out], (HW.out.alloc HW.out.size _)⟩
          case measure => simp [intOf]
      rcases Nat.lt_or_ge k 7 with hk' | hk'
      · obtain rfl : k = 6 := by omega
        have HS := hstep cd 16 rfl
        have ix := ix6 w.heap.size
        clear hstep
        generalize accN N0 ((fls rs aa tc rd ra ad cd).take 6) = A at *
        obtain ⟨A', hA'⟩ : ∃ A', A' = accN N0 ((fls rs aa tc rd ra ad cd).take (6 + 1)) := ⟨_, rfl⟩
        rw [← hA'] at HS
        have HA' : Hid (A' = accN N0 ((fls rs aa tc rd ra ad cd).take (6 + 1))) := hA'
        clear hA'
        obtain ⟨xx, hxx⟩ : ∃ xx, xx = cd := ⟨_, rfl⟩
        rw [← hxx] at m7 HS
        have HX : Hid (xx = cd) := hxx
        clear hxx
        cases xx
        · have hA : Hid (A' = A) := (HS.out (by omega)).2 rfl
          go_wp2
          go_round
          case rel => exact ⟨6 + 1, by omega, by go_num, by rw [← HA'.out, hA.out], (HW.out.alloc HW.out.size _)⟩
          case measure => simp [intOf]
        · have hA : bits .or .i64 (A : Int) 16 = (A' : Int) := (HS.out (by omega)).1 rfl
          go_wp2
          go_round
          case rel => exact ⟨6 + 1, by omega, by go_num, by rw [← HA'.out], (HW.out.alloc HW.out.size _)⟩
          case measure => simp [intOf]
      · omega
    · obtain rfl : k = 7 := by omega
      go_wp2
      go_ret2
      refine ⟨?_, HB.out.trans (HW.out.mono HB.out.size)⟩
      rw [HP'.out]
      rfl
end Go.Proofs.Ytmlccnpondemiaa
