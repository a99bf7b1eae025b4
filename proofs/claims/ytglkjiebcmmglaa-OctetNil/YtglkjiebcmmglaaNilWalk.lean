/- The statement's function on readers that are none returns true and leaves what was there. -/
import Derived.Test.YtglkjiebcmmglaaMove
namespace Go.Proofs.Ytglkjiebcmmglaa
open Go.ChangeShapes Go.WideShapes Go.ChangeAt Go.RowKit
set_option linter.unusedVariables false

set_option maxHeartbeats 1000000 in
theorem nil_walk (n : Int) (w : World) :
    Calls Try.prog 6 #[.int .i64 n] w fun e w' => e = .returned (.bool true) ∧ Below w.heap.size w w' := by
  go_enter Try.func6, Try.ntmps6
  go_wp2_with fail
  go_loopw [4] (fun i w' => ∃ k : Nat, k ≤ 2 ∧ i = .int .i64 k ∧ Below w.heap.size w w' ∧ w.heap.size + 2 ≤ w'.heap.size ∧ w'.cell? ⟨w.heap.size + 1, 0, none⟩ = some (.pointer none) ∧ w'.cell? ⟨w.heap.size + 1, 1, none⟩ = some (.pointer (some ⟨w.heap.size, 0, none⟩)) ∧ w'.cell? ⟨w.heap.size, 0, none⟩ = some (.pointer none)) (fun i _ => 2 - (intOf i).toNat)
  case atStart => 
    refine ⟨0, by omega, rfl, ?_, ?_, ?_, ?_, ?_⟩
    · exact ((Below.refl _ _).alloc (Nat.le_refl _) _).alloc (by simp) _
    · simp
    · simp [go_sem]
    · simp [go_sem]
    · simp [go_sem]
  case round =>
    obtain ⟨k, hk, rfl, hb, hz, c0, c1, c2⟩ := hrel
    have hc : k = 0 ∨ k = 1 ∨ k = 2 := by omega
    clear hk
    rcases hc with rfl | rfl | rfl
    · have HN : Hid (NoReader wr none) := .inl rfl
      go_wp2_with fail
      refine (jump_none _ _ _ HN.out).mono ?_
      rintro e w1 ⟨rfl, b1⟩
      have HN1 : Hid (NoReader w1 none) := HN.out.below b1
      go_wp2_with fail
      refine (byte_none _ _ HN1.out).mono ?_
      rintro e w2 ⟨rfl, b2⟩
      have HN2 : Hid (NoReader w2 none) := HN1.out.below b2
      go_wp2_with fail
      refine (u16_none _ _ HN2.out).mono ?_
      rintro e w3 ⟨rfl, b3⟩
      have HN3 : Hid (NoReader w3 none) := HN2.out.below b3
      go_wp2_with fail
      refine (u32_none _ _ HN3.out).mono ?_
      rintro e w4 ⟨rfl, b4⟩
      have HN4 : Hid (NoReader w4 none) := HN3.out.below b4
      go_wp2_with fail
      refine (take_none _ _ _ HN4.out).mono ?_
      rintro e w5 ⟨rfl, b5⟩
      have HN5 : Hid (NoReader w5 none) := HN4.out.below b5
      go_wp2_with fail
      refine (at_none _ _ HN5.out).mono ?_
      rintro e w6 ⟨rfl, b6⟩
      have HN6 : Hid (NoReader w6 none) := HN5.out.below b6
      go_wp2_with fail
      refine (left_none _ _ HN6.out).mono ?_
      rintro e w7 ⟨rfl, b7⟩
      have HN7 : Hid (NoReader w7 none) := HN6.out.below b7
      go_wp2_with fail
      refine (bad_none _ _ HN7.out).mono ?_
      rintro e w8 ⟨rfl, b8⟩
      go_wp2_with fail
      have hB : Below wr.heap.size wr w8 := b1.trans ((b2.mono b1.size).trans ((b3.mono (Nat.le_trans b1.size b2.size)).trans (
        (b4.mono (Nat.le_trans b1.size (Nat.le_trans b2.size b3.size))).trans ((b5.mono (Nat.le_trans b1.size (Nat.le_trans b2.size (Nat.le_trans b3.size b4.size)))).trans (
        (b6.mono (Nat.le_trans b1.size (Nat.le_trans b2.size (Nat.le_trans b3.size (Nat.le_trans b4.size b5.size))))).trans (
        (b7.mono (Nat.le_trans b1.size (Nat.le_trans b2.size (Nat.le_trans b3.size (Nat.le_trans b4.size (Nat.le_trans b5.size b6.size)))))).trans
        (b8.mono (Nat.le_trans b1.size (Nat.le_trans b2.size (Nat.le_trans b3.size (Nat.le_trans b4.size (Nat.le_trans b5.size (Nat.le_trans b6.size b7.size)))))))))))))
      go_roundw
      case rel => exact ⟨1, by omega, rfl, hb.trans (hB.mono (by omega)), by have := hB.size; omega, (hB.cell (p := ⟨w.heap.size + 1, 0, none⟩) (by show w.heap.size + 1 < _; omega)).trans c0, (hB.cell (p := ⟨w.heap.size + 1, 1, none⟩) (by show w.heap.size + 1 < _; omega)).trans c1, (hB.cell (p := ⟨w.heap.size, 0, none⟩) (by show w.heap.size < _; omega)).trans c2⟩
      case measure => simp [intOf]
    · have HN : Hid (NoReader wr (some ⟨w.heap.size, 0, none⟩)) := .inr ⟨_, _, rfl, by omega, c2⟩
      go_wp2_with fail
      refine (jump_none _ _ _ HN.out).mono ?_
      rintro e w1 ⟨rfl, b1⟩
      have HN1 : Hid (NoReader w1 (some ⟨w.heap.size, 0, none⟩)) := HN.out.below b1
      go_wp2_with fail
      refine (byte_none _ _ HN1.out).mono ?_
      rintro e w2 ⟨rfl, b2⟩
      have HN2 : Hid (NoReader w2 (some ⟨w.heap.size, 0, none⟩)) := HN1.out.below b2
      go_wp2_with fail
      refine (u16_none _ _ HN2.out).mono ?_
      rintro e w3 ⟨rfl, b3⟩
      have HN3 : Hid (NoReader w3 (some ⟨w.heap.size, 0, none⟩)) := HN2.out.below b3
      go_wp2_with fail
      refine (u32_none _ _ HN3.out).mono ?_
      rintro e w4 ⟨rfl, b4⟩
      have HN4 : Hid (NoReader w4 (some ⟨w.heap.size, 0, none⟩)) := HN3.out.below b4
      go_wp2_with fail
      refine (take_none _ _ _ HN4.out).mono ?_
      rintro e w5 ⟨rfl, b5⟩
      have HN5 : Hid (NoReader w5 (some ⟨w.heap.size, 0, none⟩)) := HN4.out.below b5
      go_wp2_with fail
      refine (at_none _ _ HN5.out).mono ?_
      rintro e w6 ⟨rfl, b6⟩
      have HN6 : Hid (NoReader w6 (some ⟨w.heap.size, 0, none⟩)) := HN5.out.below b6
      go_wp2_with fail
      refine (left_none _ _ HN6.out).mono ?_
      rintro e w7 ⟨rfl, b7⟩
      have HN7 : Hid (NoReader w7 (some ⟨w.heap.size, 0, none⟩)) := HN6.out.below b7
      go_wp2_with fail
      refine (bad_none _ _ HN7.out).mono ?_
      rintro e w8 ⟨rfl, b8⟩
      go_wp2_with fail
      have hB : Below wr.heap.size wr w8 := b1.trans ((b2.mono b1.size).trans ((b3.mono (Nat.le_trans b1.size b2.size)).trans (
        (b4.mono (Nat.le_trans b1.size (Nat.le_trans b2.size b3.size))).trans ((b5.mono (Nat.le_trans b1.size (Nat.le_trans b2.size (Nat.le_trans b3.size b4.size)))).trans (
        (b6.mono (Nat.le_trans b1.size (Nat.le_trans b2.size (Nat.le_trans b3.size (Nat.le_trans b4.size b5.size))))).trans (
        (b7.mono (Nat.le_trans b1.size (Nat.le_trans b2.size (Nat.le_trans b3.size (Nat.le_trans b4.size (Nat.le_trans b5.size b6.size)))))).trans
        (b8.mono (Nat.le_trans b1.size (Nat.le_trans b2.size (Nat.le_trans b3.size (Nat.le_trans b4.size (Nat.le_trans b5.size (Nat.le_trans b6.size b7.size)))))))))))))
      go_roundw
      case rel => exact ⟨2, by omega, rfl, hb.trans (hB.mono (by omega)), by have := hB.size; omega, (hB.cell (p := ⟨w.heap.size + 1, 0, none⟩) (by show w.heap.size + 1 < _; omega)).trans c0, (hB.cell (p := ⟨w.heap.size + 1, 1, none⟩) (by show w.heap.size + 1 < _; omega)).trans c1, (hB.cell (p := ⟨w.heap.size, 0, none⟩) (by show w.heap.size < _; omega)).trans c2⟩
      case measure => simp [intOf]
    · go_wp2_with fail
      refine (put16_neg _).mono ?_
      rintro e w1 ⟨rfl, rfl⟩
      go_wp2
      go_ret
      exact ⟨rfl, hb⟩
end Go.Proofs.Ytglkjiebcmmglaa
