/- Picked out of earlier texts. -/
import Derived.Test.YtfnpiknobmecbaaStr
import Derived.WalkSpells
namespace Go.Proofs.Ytfnpiknobmecbaa
open Go.ChangeShapes Go.WideShapes Go.ChangeAt Go.RowKit
set_option linter.unusedVariables false
set_option linter.unusedSimpArgs false




set_option maxRecDepth 100000 in
set_option maxHeartbeats 400000 in
theorem number_any (a : Option Addr) (len cap : Nat) (zs : List Int) (w : World) (hr : Rd w a zs) (hl : zs.length = len) (hm : len ≤ 4) :
    Calls Try.prog 58 #[.slice a len cap] w fun e w' => e = .returned (.int .u32 (val zs)) ∧ w' = w := by
  have HL : Hid (zs.length = len) := hl
  have HR : Hid (Rd w a zs) := hr
  clear hl hr
  go_enter Try.func58, Try.ntmps58
  go_wp2
  go_loop [3, 8] (fun n i => ∃ k : Nat, k ≤ len ∧ i = .int .i64 k ∧ n = .int .u32 (val (zs.take k))) (fun _ i => len - (intOf i).toNat)
  case atStart => exact ⟨0, Nat.zero_le _, rfl, rfl⟩
  case round =>
    obtain ⟨k, hk, rfl, rfl⟩ := hrel
    by_cases hlt : k < len
    · rcases HR.out.1 with h1 | ⟨b, o, rfl, h1, h2⟩
      · have := HL.out; subst h1; simp at this; omega
      · have hc := h2 k (by rw [HL.out]; exact hlt)
        have hb := HR.out.bd k
        have hv := val_small zs HR.out.2 k (by omega)
        clear h2
        have hlt' : (k : Int) < (len : Int) := by omega
        go_wp2
        go_round
        case rel =>
          refine ⟨k + 1, by omega, by go_num, ?_⟩
          rw [take_snoc zs k (by rw [HL.out]; exact hlt), val_snoc, ← List.getD_eq_getElem?_getD, u32_join _ _ hv.1 hv.2 hb.1 hb.2]
        case measure => simp [intOf]; omega
    · obtain rfl : k = len := by omega
      go_wp2
      go_ret
      have : zs.take k = zs := List.take_of_length_le (by rw [HL.out]; exact Nat.le_refl _)
      rw [this]
      exact ⟨rfl, rfl⟩
set_option maxRecDepth 100000 in
set_option maxHeartbeats 400000 in
theorem piece_ok (a : Option Addr) (len cap at_ n : Nat) (zs : List Int) (w : World) (hr : Rd w a zs) (hl : zs.length = len) (hc : len ≤ cap) (hm : cap ≤ 9223372036854775807) (hn : at_ + n ≤ len) :
    Calls Try.prog 57 #[.slice a len cap, .int .i64 at_, .int .i64 n] w fun e w' => (∃ a', e = .returned (.tuple #[.slice a' n (cap - at_), .bool true]) ∧ Rd w a' ((zs.drop at_).take n)) ∧ w' = w := by
  have HL : Hid (zs.length = len) := hl
  have HR : Hid (Rd w a zs) := hr
  clear hl hr
  have h1 : ¬ (at_ : Int) < 0 := by omega
  have h2 : (at_ : Int) ≤ (len : Int) := by omega
  have h3 : ¬ (n : Int) < 0 := by omega
  have h4 : (n : Int) ≤ (len : Int) - (at_ : Int) := by omega
  go_enter Try.func57, Try.ntmps57
  go_wp2
  · go_ret2
    exact ⟨⟨_, rfl, HR.out.cut at_ n (by rw [HL.out]; exact hn) (fun h b o e => absurd h (by omega))⟩, rfl⟩
  · go_ret2
    exact ⟨⟨_, rfl, HR.out.cut at_ n (by rw [HL.out]; exact hn) (fun h b o e => by subst e; simp [Addr.add])⟩, rfl⟩
set_option maxRecDepth 100000 in
set_option maxHeartbeats 400000 in
theorem piece_no (a : Option Addr) (len cap : Nat) (at_ n : Int) (w : World) (hm : cap ≤ 9223372036854775807) (hc : len ≤ cap)
    (h : at_ < 0 ∨ (0 ≤ at_ ∧ (len : Int) < at_) ∨ (0 ≤ at_ ∧ at_ ≤ (len : Int) ∧ n < 0) ∨ (0 ≤ at_ ∧ at_ ≤ (len : Int) ∧ 0 ≤ n ∧ (len : Int) - at_ < n)) :
    Calls Try.prog 57 #[.slice a len cap, .int .i64 at_, .int .i64 n] w fun e w' => e = .returned (.tuple #[.slice none 0 0, .bool false]) ∧ w' = w := by
  rcases h with h | ⟨h0, h⟩ | ⟨h0, h1, h⟩ | ⟨h0, h1, h2, h⟩
  · go_enter Try.func57, Try.ntmps57
    go_wp2
    go_ret2
    exact ⟨rfl, rfl⟩
  · go_enter Try.func57, Try.ntmps57
    go_wp2
    go_ret2
    exact ⟨rfl, rfl⟩
  · go_enter Try.func57, Try.ntmps57
    go_wp2
    go_ret2
    exact ⟨rfl, rfl⟩
  · go_enter Try.func57, Try.ntmps57
    go_wp2
    go_ret2
    exact ⟨rfl, rfl⟩
theorem number_none (w : World) : Calls Try.prog 58 #[.slice none 0 0] w fun e w' => e = .returned (.int .u32 0) ∧ w' = w :=
  number_any none 0 0 [] w ⟨.inl rfl, by simp⟩ rfl (by omega)
theorem u16_yes (a : Option Addr) (len cap at_ : Nat) (zs : List Int) (w : World) (hr : Rd w a zs) (hl : zs.length = len) (hc : len ≤ cap) (hm : cap ≤ 9223372036854775807) (hn : at_ + 2 ≤ len) :
    Calls Try.prog 53 #[.slice a len cap, .int .i64 at_] w fun e w' => e = .returned (.tuple #[.int .i64 (val ((zs.drop at_).take 2)), .bool true]) ∧ w' = w := by
  have HL : Hid (zs.length = len) := hl
  have HR : Hid (Rd w a zs) := hr
  clear hl hr
  go_enter Try.func53, Try.ntmps53
  go_wp2_with fail
  refine (piece_ok a len cap at_ 2 zs _ HR.out HL.out hc hm hn).mono ?_
  rintro e w' ⟨⟨a', rfl, hr'⟩, rfl⟩
  have HR' : Hid (Rd w' a' ((zs.drop at_).take 2)) := hr'
  clear hr'
  go_wp2_with fail
  refine (number_any a' 2 (cap - at_) ((zs.drop at_).take 2) _ HR'.out (by simp; have := HL.out; omega) (by omega)).mono ?_
  rintro e w'' ⟨rfl, rfl⟩
  have hv := val_small4 ((zs.drop at_).take 2) HR'.out.2 (by simp; omega)
  go_wp2
  go_ret2
  exact ⟨by simp, rfl⟩
theorem u16_no (a : Option Addr) (len cap : Nat) (at_ : Int) (w : World) (hc : len ≤ cap) (hm : cap ≤ 9223372036854775807) (hn : at_ < 0 ∨ (len : Int) < at_ + 2) :
    Calls Try.prog 53 #[.slice a len cap, .int .i64 at_] w fun e w' => e = .returned (.tuple #[.int .i64 0, .bool false]) ∧ w' = w := by
  have HN : Hid (at_ < 0 ∨ (len : Int) < at_ + 2) := hn
  clear hn
  go_enter Try.func53, Try.ntmps53
  go_wp2_with fail
  refine (piece_no a len cap at_ 2 _ hm hc (by have := HN.out; omega)).mono ?_
  rintro e w' ⟨rfl, rfl⟩
  go_wp2_with fail
  refine (number_none _).mono ?_
  rintro e w'' ⟨rfl, rfl⟩
  go_wp2
  go_ret2
  exact ⟨rfl, rfl⟩
theorem put16_no (n : Int) (w : World) (h : n < 0 ∨ (0 ≤ n ∧ 65535 < n)) :
    Calls Try.prog 45 #[.int .i64 n] w fun e w' => e = .returned (.tuple #[.slice none 0 0, .int .i64 2]) ∧ w' = w := by
  rcases h with h | ⟨h0, h⟩
  · go_enter Try.func45, Try.ntmps45
    go_wp2
    go_ret2
    exact ⟨rfl, rfl⟩
  · go_enter Try.func45, Try.ntmps45
    go_wp2
    go_ret2
    exact ⟨rfl, rfl⟩
theorem put16_yes (n : Int) (w : World) (h0 : 0 ≤ n) (h1 : n ≤ 65535) :
    Calls Try.prog 45 #[.int .i64 n] w fun e w' => e = .returned (.tuple #[.slice (some ⟨w.heap.size, 0, none⟩) 2 2, .int .i64 0]) ∧ w' = w.alloc (.cells #[.int .u8 (n / 256), .int .u8 (n % 256)] 5) := by
  go_enter Try.func45, Try.ntmps45
  go_wp2
  go_ret2
  exact ⟨rfl, rfl⟩
end Go.Proofs.Ytfnpiknobmecbaa
