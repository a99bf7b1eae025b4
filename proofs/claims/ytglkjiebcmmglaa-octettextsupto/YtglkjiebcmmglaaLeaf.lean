/- What piece and number answer. -/
import Derived.Test.YtglkjiebcmmglaaBase
import Derived.Test.YtglkjiebcmmglaaRows
import Derived.WalkSpells
namespace Go.Proofs.Ytglkjiebcmmglaa
open Go.ChangeShapes Go.WideShapes Go.ChangeAt Go.RowKit
set_option linter.unusedVariables false

set_option maxHeartbeats 400000 in
theorem number_any (a : Option Addr) (len cap : Nat) (zs : List Int) (w : World) (hr : Rd w a zs) (hl : zs.length = len) (hm : len ≤ 4) :
    Calls Try.prog 40 #[.slice a len cap] w fun e w' => e = .returned (.int .u32 (val zs)) ∧ w' = w := by
  have HL : Hid (zs.length = len) := hl
  have HR : Hid (Rd w a zs) := hr
  clear hl hr
  go_enter Try.func40, Try.ntmps40
  go_wp2
  go_loop [3, 8] (fun n i => ∃ k : Nat, k ≤ len ∧ i = .int .i64 k ∧ n = .int .u32 (val (zs.take k))) (fun _ i => len - (intOf i).toNat)
  case atStart => exact ⟨0, Nat.zero_le _, rfl, rfl⟩
  case round =>
    obtain ⟨k, hk, rfl, rfl⟩ := hrel
    by_cases hlt : k < len
    · rcases HR.out.1 with h1 | ⟨b, o, rfl, h1, h2⟩
      · have := HL.out; subst h1; simp at this; omega
      · have hc := h2 k (by rw [HL.out]; exact hlt)
        have hb := HR.out.bd k
        have hv := val_small zs HR.out.2 k (by omega)
        clear h2
        have hlt' : (k : Int) < (len : Int) := by omega
        go_wp2
        go_round
        case rel =>
          refine ⟨k + 1, by omega, by go_num, ?_⟩
          rw [take_snoc zs k (by rw [HL.out]; exact hlt), val_snoc, ← List.getD_eq_getElem?_getD, u32_join _ _ hv.1 hv.2 hb.1 hb.2]
        case measure => simp [intOf]; omega
    · obtain rfl : k = len := by omega
      go_wp2
      go_ret
      have : zs.take k = zs := List.take_of_length_le (by rw [HL.out]; exact Nat.le_refl _)
      rw [this]
      exact ⟨rfl, rfl⟩

set_option maxHeartbeats 400000 in
theorem piece_ok (a : Option Addr) (len cap at_ n : Nat) (zs : List Int) (w : World) (hr : Rd w a zs) (hl : zs.length = len) (hc : len ≤ cap) (hm : cap ≤ 140737488355328) (hn : at_ + n ≤ len) :
    Calls Try.prog 39 #[.slice a len cap, .int .i64 at_, .int .i64 n] w fun e w' => (∃ a', e = .returned (.tuple #[.slice a' n (cap - at_), .bool true]) ∧ Rd w a' ((zs.drop at_).take n)) ∧ w' = w := by
  have HL : Hid (zs.length = len) := hl
  have HR : Hid (Rd w a zs) := hr
  clear hl hr
  have h1 : ¬ (at_ : Int) < 0 := by omega
  have h2 : (at_ : Int) ≤ (len : Int) := by omega
  have h3 : ¬ (n : Int) < 0 := by omega
  have h4 : (n : Int) ≤ (len : Int) - (at_ : Int) := by omega
  go_enter Try.func39, Try.ntmps39
  go_wp2
  · go_ret2
    exact ⟨⟨_, rfl, HR.out.cut at_ n (by rw [HL.out]; exact hn) (fun h b o e => absurd h (by omega))⟩, rfl⟩
  · go_ret2
    exact ⟨⟨_, rfl, HR.out.cut at_ n (by rw [HL.out]; exact hn) (fun h b o e => by subst e; simp [Addr.add])⟩, rfl⟩

set_option maxHeartbeats 400000 in
theorem piece_no (a : Option Addr) (len cap : Nat) (at_ n : Int) (w : World) (hm : cap ≤ 140737488355328) (hc : len ≤ cap)
    (h : at_ < 0 ∨ (0 ≤ at_ ∧ (len : Int) < at_) ∨ (0 ≤ at_ ∧ at_ ≤ (len : Int) ∧ n < 0) ∨ (0 ≤ at_ ∧ at_ ≤ (len : Int) ∧ 0 ≤ n ∧ (len : Int) - at_ < n)) :
    Calls Try.prog 39 #[.slice a len cap, .int .i64 at_, .int .i64 n] w fun e w' => e = .returned (.tuple #[.slice none 0 0, .bool false]) ∧ w' = w := by
  rcases h with h | ⟨h0, h⟩ | ⟨h0, h1, h⟩ | ⟨h0, h1, h2, h⟩
  · go_enter Try.func39, Try.ntmps39
    go_wp2
    go_ret2
    exact ⟨rfl, rfl⟩
  · go_enter Try.func39, Try.ntmps39
    go_wp2
    go_ret2
    exact ⟨rfl, rfl⟩
  · go_enter Try.func39, Try.ntmps39
    go_wp2
    go_ret2
    exact ⟨rfl, rfl⟩
  · go_enter Try.func39, Try.ntmps39
    go_wp2
    go_ret2
    exact ⟨rfl, rfl⟩

set_option maxHeartbeats 400000 in
theorem refnumber_ok (a : Option Addr) (len cap at_ n : Nat) (zs : List Int) (w : World) (hr : Rd w a zs) (hl : zs.length = len) (hc : len ≤ cap) (hm : cap ≤ 140737488355328) (hn : at_ + n ≤ len) (h4 : n ≤ 4) :
    Calls Try.prog 41 #[.slice a len cap, .int .i64 at_, .int .i64 n] w fun e w' => e = .returned (.tuple #[.int .u64 (val ((zs.drop at_).take n)), .bool true]) ∧ w' = w := by
  have HL : Hid (zs.length = len) := hl
  have HR : Hid (Rd w a zs) := hr
  clear hl hr
  have h1 : ¬ (at_ : Int) < 0 := by omega
  have h2 : (at_ : Int) ≤ (len : Int) := by omega
  have h3 : (n : Int) ≤ (len : Int) - (at_ : Int) := by omega
  have h3' : decide ((len : Int) - (at_ : Int) < (n : Int)) = false := by simp; omega
  go_enter Try.func41, Try.ntmps41
  go_wp2
  go_loop [8, 9] (fun v i => ∃ k : Nat, k ≤ n ∧ i = .int .i64 k ∧ v = .int .u64 (val ((zs.drop at_).take k))) (fun _ i => n - (intOf i).toNat)
  case atStart => exact ⟨0, Nat.zero_le _, rfl, rfl⟩
  case round =>
    obtain ⟨k, hk, rfl, rfl⟩ := hrel
    by_cases hlt : k < n
    · rcases HR.out.1 with e1 | ⟨b, o, rfl, e1, e2⟩
      · have := HL.out; subst e1; simp at this; omega
      · have hcc := e2 (at_ + k) (by rw [HL.out]; omega)
        have hb := HR.out.bd (at_ + k)
        have hv := val_small (zs.drop at_) (fun z hz => HR.out.2 z (List.mem_of_mem_drop hz)) k (by omega)
        clear e2
        have hlt' : (k : Int) < (n : Int) := by omega
        have hlt2 : (at_ : Int) + (k : Int) < (len : Int) := by omega
        go_wp2
        go_round
        case rel =>
          refine ⟨k + 1, by omega, by go_num, ?_⟩
          rw [take_snoc (zs.drop at_) k (by rw [List.length_drop, HL.out]; omega), val_snoc]
          have e : (zs.drop at_).getD k 0 = zs.getD (at_ + k) 0 := by simp [List.getD_eq_getElem?_getD, List.getElem?_drop]
          rw [e, ← List.getD_eq_getElem?_getD, u64_step _ _ hv.1 hv.2 hb.1 hb.2]
        case measure => simp [intOf]; omega
    · obtain rfl : k = n := by omega
      go_wp2
      go_ret2
      exact ⟨rfl, rfl⟩

set_option maxHeartbeats 400000 in
theorem refnumber_no (a : Option Addr) (len cap : Nat) (at_ n : Int) (w : World) (hm : cap ≤ 140737488355328) (hc : len ≤ cap)
    (h : at_ < 0 ∨ (0 ≤ at_ ∧ (len : Int) < at_) ∨ (0 ≤ at_ ∧ at_ ≤ (len : Int) ∧ (len : Int) - at_ < n)) :
    Calls Try.prog 41 #[.slice a len cap, .int .i64 at_, .int .i64 n] w fun e w' => e = .returned (.tuple #[.int .u64 0, .bool false]) ∧ w' = w := by
  rcases h with h | ⟨h0, h⟩ | ⟨h0, h1, h⟩
  · go_enter Try.func41, Try.ntmps41
    go_wp2
    go_ret2
    exact ⟨rfl, rfl⟩
  · go_enter Try.func41, Try.ntmps41
    go_wp2
    go_ret2
    exact ⟨rfl, rfl⟩
  · go_enter Try.func41, Try.ntmps41
    go_wp2
    go_ret2
    exact ⟨rfl, rfl⟩

end Go.Proofs.Ytglkjiebcmmglaa
