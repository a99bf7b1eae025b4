/- What the calls that write and read numbers answer, and the document's. -/
import Derived.Test.YtglkjiebcmmglaaLeaf
namespace Go.Proofs.Ytglkjiebcmmglaa
open Go.ChangeShapes Go.WideShapes Go.ChangeAt Go.RowKit
set_option linter.unusedVariables false

theorem number_none (w : World) : Calls Try.prog 40 #[.slice none 0 0] w fun e w' => e = .returned (.int .u32 0) ∧ w' = w :=
  number_any none 0 0 [] w ⟨.inl rfl, by simp⟩ rfl (by omega)
theorem u16_yes (a : Option Addr) (len cap at_ : Nat) (zs : List Int) (w : World) (hr : Rd w a zs) (hl : zs.length = len) (hc : len ≤ cap) (hm : cap ≤ 140737488355328) (hn : at_ + 2 ≤ len) :
    Calls Try.prog 12 #[.slice a len cap, .int .i64 at_] w fun e w' => e = .returned (.tuple #[.int .i64 (val ((zs.drop at_).take 2)), .bool true]) ∧ w' = w := by
  have HL : Hid (zs.length = len) := hl
  have HR : Hid (Rd w a zs) := hr
  clear hl hr
  go_enter Try.func12, Try.ntmps12
  go_wp2_with fail
  refine (piece_ok a len cap at_ 2 zs _ HR.out HL.out hc hm hn).mono ?_
  rintro e w' ⟨⟨a', rfl, hr'⟩, rfl⟩
  have HR' : Hid (Rd w' a' ((zs.drop at_).take 2)) := hr'
  clear hr'
  go_wp2_with fail
  refine (number_any a' 2 (cap - at_) ((zs.drop at_).take 2) _ HR'.out (by simp; have := HL.out; omega) (by omega)).mono ?_
  rintro e w'' ⟨rfl, rfl⟩
  have hv := val_small4 ((zs.drop at_).take 2) HR'.out.2 (by simp; omega)
  go_wp2
  go_ret2
  exact ⟨by simp, rfl⟩
theorem u16_no (a : Option Addr) (len cap : Nat) (at_ : Int) (w : World) (hc : len ≤ cap) (hm : cap ≤ 140737488355328) (hn : at_ < 0 ∨ (len : Int) < at_ + 2) :
    Calls Try.prog 12 #[.slice a len cap, .int .i64 at_] w fun e w' => e = .returned (.tuple #[.int .i64 0, .bool false]) ∧ w' = w := by
  have HN : Hid (at_ < 0 ∨ (len : Int) < at_ + 2) := hn
  clear hn
  go_enter Try.func12, Try.ntmps12
  go_wp2_with fail
  refine (piece_no a len cap at_ 2 _ hm hc (by have := HN.out; omega)).mono ?_
  rintro e w' ⟨rfl, rfl⟩
  go_wp2_with fail
  refine (number_none _).mono ?_
  rintro e w'' ⟨rfl, rfl⟩
  go_wp2
  go_ret2
  exact ⟨rfl, rfl⟩
theorem u32_yes (a : Option Addr) (len cap at_ : Nat) (zs : List Int) (w : World) (hr : Rd w a zs) (hl : zs.length = len) (hc : len ≤ cap) (hm : cap ≤ 140737488355328) (hn : at_ + 4 ≤ len) :
    Calls Try.prog 14 #[.slice a len cap, .int .i64 at_] w fun e w' => e = .returned (.tuple #[.int .u32 (val ((zs.drop at_).take 4)), .bool true]) ∧ w' = w := by
  have HL : Hid (zs.length = len) := hl
  have HR : Hid (Rd w a zs) := hr
  clear hl hr
  go_enter Try.func14, Try.ntmps14
  go_wp2_with fail
  refine (piece_ok a len cap at_ 4 zs _ HR.out HL.out hc hm hn).mono ?_
  rintro e w' ⟨⟨a', rfl, hr'⟩, rfl⟩
  have HR' : Hid (Rd w' a' ((zs.drop at_).take 4)) := hr'
  clear hr'
  go_wp2_with fail
  refine (number_any a' 4 (cap - at_) ((zs.drop at_).take 4) _ HR'.out (by simp; have := HL.out; omega) (by omega)).mono ?_
  rintro e w'' ⟨rfl, rfl⟩
  have hv := val_small4 ((zs.drop at_).take 4) HR'.out.2 (by simp; omega)
  go_wp2
  go_ret2
  exact ⟨by simp, rfl⟩
theorem u32_no (a : Option Addr) (len cap : Nat) (at_ : Int) (w : World) (hc : len ≤ cap) (hm : cap ≤ 140737488355328) (hn : at_ < 0 ∨ (len : Int) < at_ + 4) :
    Calls Try.prog 14 #[.slice a len cap, .int .i64 at_] w fun e w' => e = .returned (.tuple #[.int .u32 0, .bool false]) ∧ w' = w := by
  have HN : Hid (at_ < 0 ∨ (len : Int) < at_ + 4) := hn
  clear hn
  go_enter Try.func14, Try.ntmps14
  go_wp2_with fail
  refine (piece_no a len cap at_ 4 _ hm hc (by have := HN.out; omega)).mono ?_
  rintro e w' ⟨rfl, rfl⟩
  go_wp2_with fail
  refine (number_none _).mono ?_
  rintro e w'' ⟨rfl, rfl⟩
  go_wp2
  go_ret2
  exact ⟨rfl, rfl⟩
theorem refu16_yes (a : Option Addr) (len cap at_ : Nat) (zs : List Int) (w : World) (hr : Rd w a zs) (hl : zs.length = len) (hc : len ≤ cap) (hm : cap ≤ 140737488355328) (hn : at_ + 2 ≤ len) :
    Calls Try.prog 13 #[.slice a len cap, .int .i64 at_] w fun e w' => e = .returned (.tuple #[.int .i64 (val ((zs.drop at_).take 2)), .bool true]) ∧ w' = w := by
  have HL : Hid (zs.length = len) := hl
  have HR : Hid (Rd w a zs) := hr
  clear hl hr
  have hv := val_small4 ((zs.drop at_).take 2) (fun z hz => HR.out.2 z (List.mem_of_mem_drop (List.mem_of_mem_take hz))) (by simp; omega)
  go_enter Try.func13, Try.ntmps13
  go_wp2_with fail
  refine (refnumber_ok a len cap at_ 2 zs _ HR.out HL.out hc hm hn (by omega)).mono ?_
  rintro e w' ⟨rfl, rfl⟩
  go_wp2
  go_ret2
  exact ⟨by simp, rfl⟩
theorem refu16_no (a : Option Addr) (len cap : Nat) (at_ : Int) (w : World) (hc : len ≤ cap) (hm : cap ≤ 140737488355328) (hn : at_ < 0 ∨ (len : Int) < at_ + 2) :
    Calls Try.prog 13 #[.slice a len cap, .int .i64 at_] w fun e w' => e = .returned (.tuple #[.int .i64 0, .bool false]) ∧ w' = w := by
  have HN : Hid (at_ < 0 ∨ (len : Int) < at_ + 2) := hn
  clear hn
  go_enter Try.func13, Try.ntmps13
  go_wp2_with fail
  refine (refnumber_no a len cap at_ 2 _ hm hc (by have := HN.out; omega)).mono ?_
  rintro e w' ⟨rfl, rfl⟩
  go_wp2
  go_ret2
  exact ⟨rfl, rfl⟩
theorem refu32_yes (a : Option Addr) (len cap at_ : Nat) (zs : List Int) (w : World) (hr : Rd w a zs) (hl : zs.length = len) (hc : len ≤ cap) (hm : cap ≤ 140737488355328) (hn : at_ + 4 ≤ len) :
    Calls Try.prog 15 #[.slice a len cap, .int .i64 at_] w fun e w' => e = .returned (.tuple #[.int .u32 (val ((zs.drop at_).take 4)), .bool true]) ∧ w' = w := by
  have HL : Hid (zs.length = len) := hl
  have HR : Hid (Rd w a zs) := hr
  clear hl hr
  have hv := val_small4 ((zs.drop at_).take 4) (fun z hz => HR.out.2 z (List.mem_of_mem_drop (List.mem_of_mem_take hz))) (by simp; omega)
  go_enter Try.func15, Try.ntmps15
  go_wp2_with fail
  refine (refnumber_ok a len cap at_ 4 zs _ HR.out HL.out hc hm hn (by omega)).mono ?_
  rintro e w' ⟨rfl, rfl⟩
  go_wp2
  go_ret2
  exact ⟨by simp, rfl⟩
theorem refu32_no (a : Option Addr) (len cap : Nat) (at_ : Int) (w : World) (hc : len ≤ cap) (hm : cap ≤ 140737488355328) (hn : at_ < 0 ∨ (len : Int) < at_ + 4) :
    Calls Try.prog 15 #[.slice a len cap, .int .i64 at_] w fun e w' => e = .returned (.tuple #[.int .u32 0, .bool false]) ∧ w' = w := by
  have HN : Hid (at_ < 0 ∨ (len : Int) < at_ + 4) := hn
  clear hn
  go_enter Try.func15, Try.ntmps15
  go_wp2_with fail
  refine (refnumber_no a len cap at_ 4 _ hm hc (by have := HN.out; omega)).mono ?_
  rintro e w' ⟨rfl, rfl⟩
  go_wp2
  go_ret2
  exact ⟨rfl, rfl⟩
theorem put16_no (n : Int) (w : World) (h : n < 0 ∨ (0 ≤ n ∧ 65535 < n)) :
    Calls Try.prog 9 #[.int .i64 n] w fun e w' => e = .returned (.tuple #[.slice none 0 0, .int .i64 2]) ∧ w' = w := by
  rcases h with h | ⟨h0, h⟩
  · go_enter Try.func9, Try.ntmps9
    go_wp2
    go_ret2
    exact ⟨rfl, rfl⟩
  · go_enter Try.func9, Try.ntmps9
    go_wp2
    go_ret2
    exact ⟨rfl, rfl⟩
theorem put16_yes (n : Int) (w : World) (h0 : 0 ≤ n) (h1 : n ≤ 65535) :
    Calls Try.prog 9 #[.int .i64 n] w fun e w' => e = .returned (.tuple #[.slice (some ⟨w.heap.size, 0, none⟩) 2 2, .int .i64 0]) ∧ w' = w.alloc (.cells #[.int .u8 (n / 256), .int .u8 (n % 256)] 5) := by
  go_enter Try.func9, Try.ntmps9
  go_wp2
  go_ret2
  exact ⟨rfl, rfl⟩
theorem refput16_no (n : Int) (w : World) (h : n < 0 ∨ (0 ≤ n ∧ 65535 < n)) :
    Calls Try.prog 10 #[.int .i64 n] w fun e w' => e = .returned (.tuple #[.slice none 0 0, .int .i64 2]) ∧ w' = w := by
  rcases h with h | ⟨h0, h⟩
  · go_enter Try.func10, Try.ntmps10
    go_wp2
    go_ret2
    exact ⟨rfl, rfl⟩
  · go_enter Try.func10, Try.ntmps10
    go_wp2
    go_ret2
    exact ⟨rfl, rfl⟩
theorem refput16_yes (n : Int) (w : World) (h0 : 0 ≤ n) (h1 : n ≤ 65535) :
    Calls Try.prog 10 #[.int .i64 n] w fun e w' => e = .returned (.tuple #[.slice (some ⟨w.heap.size, 0, none⟩) 2 2, .int .i64 0]) ∧ w' = w.alloc (.cells #[.int .u8 (n / 256), .int .u8 (n % 256)] 5) := by
  go_enter Try.func10, Try.ntmps10
  go_wp2
  go_ret2
  exact ⟨rfl, rfl⟩
theorem put32_yes (n : Int) (w : World) (h0 : 0 ≤ n) (h1 : n < 4294967296) :
    Calls Try.prog 11 #[.int .u32 n] w fun e w' => e = .returned (.slice (some ⟨w.heap.size, 0, none⟩) 4 4) ∧ w' = w.alloc (.cells #[.int .u8 (n / 16777216), .int .u8 (n / 65536 % 256), .int .u8 (n / 256 % 256), .int .u8 (n % 256)] 5) := by
  go_enter Try.func11, Try.ntmps11
  go_wp2
  go_ret
  exact ⟨rfl, rfl⟩
theorem refput32_yes (n : Int) (w : World) (h0 : 0 ≤ n) (h1 : n < 4294967296) :
    Calls Try.prog 17 #[.int .u32 n] w fun e w' => e = .returned (.slice (some ⟨w.heap.size, 0, none⟩) 4 4) ∧ w' = w.alloc (.cells #[.int .u8 (n / 16777216), .int .u8 (n / 65536 % 256), .int .u8 (n / 256 % 256), .int .u8 (n % 256)] 5) := by
  go_enter Try.func17, Try.ntmps17
  go_wp2
  go_ret
  exact ⟨rfl, rfl⟩
end Go.Proofs.Ytglkjiebcmmglaa
