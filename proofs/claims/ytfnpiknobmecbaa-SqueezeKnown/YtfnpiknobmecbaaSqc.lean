/- The program's Read: a name at a place. -/
import Derived.Test.YtfnpiknobmecbaaSqa
import Derived.Test.YtfnpiknobmecbaaNum
import Derived.Test.YtfnpiknobmecbaaNxa
import Derived.Lib.Hide
namespace Go.Proofs.Ytfnpiknobmecbaa
open Go.ChangeShapes Go.WideShapes Go.ChangeAt Go.RowKit
set_option linter.unusedVariables false
set_option linter.unusedSimpArgs false

theorem val_two (zs : List Int) (p : Nat) (h : p + 2 ≤ zs.length) : val ((zs.drop p).take 2) = 256 * zs.getD p 0 + zs.getD (p + 1) 0 := by
  have e : (zs.drop p).take 2 = [zs.getD p 0, zs.getD (p + 1) 0] := by
    apply List.ext_getElem
    · simp; omega
    · intro i h1 h2
      have : i = 0 ∨ i = 1 := by simp at h2; omega
      rcases this with rfl | rfl
      · simp [List.getD_eq_getElem?_getD, List.getElem?_eq_getElem (show p < zs.length by omega)]
      · simp [List.getD_eq_getElem?_getD, List.getElem?_eq_getElem (show p + 1 < zs.length by omega)]
  rw [e]
  simp [val]
  try omega
set_option maxRecDepth 100000 in
set_option maxHeartbeats 400000 in
theorem pointed_no (a : Option Addr) (len cap p : Nat) (w : World) (hc : len ≤ cap) (hm : cap ≤ 9223372036854775807) (hn : len < p + 2) :
    Calls Try.prog 39 #[.slice a len cap, .int .i64 p] w fun e w' => e = .returned (.tuple #[.int .i64 0, .bool false]) ∧ w' = w := by
  have K := Lib.hid (u16_no a len cap p w hc hm (.inr (by omega)))
  go_enter Try.func39, Try.ntmps39
  go_wp2_with fail
  refine K.out.mono ?_
  rintro e w1 ⟨rfl, rfl⟩
  go_wp2
  go_ret2
  exact ⟨rfl, rfl⟩
set_option maxRecDepth 100000 in
set_option maxHeartbeats 400000 in
theorem pointed_low (a : Option Addr) (len cap p : Nat) (zs : List Int) (w : World) (hr : Rd w a zs) (hl : zs.length = len) (hc : len ≤ cap) (hm : cap ≤ 9223372036854775807) (hn : p + 2 ≤ len) (h1 : zs.getD p 0 < 192) :
    Calls Try.prog 39 #[.slice a len cap, .int .i64 p] w fun e w' => e = .returned (.tuple #[.int .i64 0, .bool false]) ∧ w' = w := by
  have K := Lib.hid (u16_yes a len cap p zs w hr hl hc hm hn)
  have hb := hr.bd p
  have hb1 := hr.bd (p + 1)
  rw [val_two zs p (by omega)] at K
  generalize zs.getD p 0 = x at *
  generalize zs.getD (p + 1) 0 = y at *
  obtain ⟨z, hz⟩ : ∃ z, 256 * x + y = z := ⟨_, rfl⟩
  rw [hz] at K
  have hz1 : z < 49152 := by omega
  clear hz
  go_enter Try.func39, Try.ntmps39
  go_wp2_with fail
  refine K.out.mono ?_
  rintro e w1 ⟨rfl, rfl⟩
  go_wp2
  go_ret2
  exact ⟨rfl, rfl⟩
set_option maxRecDepth 100000 in
set_option maxHeartbeats 400000 in
theorem pointed_yes (a : Option Addr) (len cap p : Nat) (zs : List Int) (w : World) (hr : Rd w a zs) (hl : zs.length = len) (hc : len ≤ cap) (hm : cap ≤ 9223372036854775807) (hn : p + 2 ≤ len) (h1 : 192 ≤ zs.getD p 0) :
    Calls Try.prog 39 #[.slice a len cap, .int .i64 p] w fun e w' => e = .returned (.tuple #[.int .i64 (qto zs p : Nat), .bool true]) ∧ w' = w := by
  have K := Lib.hid (u16_yes a len cap p zs w hr hl hc hm hn)
  have hb := hr.bd p
  have hb1 := hr.bd (p + 1)
  rw [val_two zs p (by omega)] at K
  have hq : (qto zs p : Int) = 256 * zs.getD p 0 + zs.getD (p + 1) 0 - 49152 := by unfold qto; omega
  generalize zs.getD p 0 = x at *
  generalize zs.getD (p + 1) 0 = y at *
  generalize qto zs p = q at *
  obtain ⟨z, hz⟩ : ∃ z, 256 * x + y = z := ⟨_, rfl⟩
  have HQ : Hid ((q : Int) = z - 49152) := (show _ = _ by rw [hq, hz])
  rw [hz] at K
  have hz1 : ¬ z < 49152 := by omega
  have hz2 : z ≤ 65535 := by omega
  clear hz hq
  go_enter Try.func39, Try.ntmps39
  go_wp2_with fail
  refine K.out.mono ?_
  rintro e w1 ⟨rfl, rfl⟩
  go_wp2
  go_ret2
  exact ⟨by rw [HQ.out]; rfl, rfl⟩
end Go.Proofs.Ytfnpiknobmecbaa
