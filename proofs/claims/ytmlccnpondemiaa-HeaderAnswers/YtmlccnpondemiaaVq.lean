/- header.fold, header.sameLabel. -/
import Derived.Test.YtmlccnpondemiaaFld
import Derived.Deep.QuietTactic
import Derived.BigQuiet
import Derived.WalkSpells
import Derived.Lib.Hide
import Derived.WalkSmall
namespace Go.Proofs.Ytmlccnpondemiaa
open Go.ChangeShapes Go.WideShapes Go.ChangeAt Go.RowKit
set_option linter.unusedVariables false
set_option linter.unusedSimpArgs false

theorem fold50 (z : Int) (h0 : 0 ≤ z) (h1 : z ≤ 255) (w : World) : Calls Try.prog 50 #[.int .u8 z] w fun e w' => e = .returned (.int .u8 (fz z)) ∧ w' = w := by
  by_cases hu : 65 ≤ z ∧ z ≤ 90
  · have hz : Hid (fz z = z + 32) := by show _ = _; unfold fz; rw [if_pos hu]
    go_enter Try.func50, Try.ntmps50
    go_wp2
    go_ret
    refine ⟨?_, rfl⟩
    show Ending.returned (.int .u8 (z - 65 + 97)) = _
    rw [hz.out]; congr 2; omega
  · have hz : Hid (fz z = z) := by show _ = _; unfold fz; rw [if_neg hu]
    have hor : z < 65 ∨ (65 ≤ z ∧ 90 < z) := by omega
    rcases hor with ho | ⟨ho, ho'⟩
    · go_enter Try.func50, Try.ntmps50
      go_wp2
      go_ret
      exact ⟨by rw [hz.out]; rfl, rfl⟩
    · go_enter Try.func50, Try.ntmps50
      go_wp2
      go_ret
      exact ⟨by rw [hz.out]; rfl, rfl⟩
/-- Two labels are the same, whichever letters are great. -/
def slb (s t : ByteArray) : Bool := decide ((nums s).map fz = (nums t).map fz)
set_option maxHeartbeats 1000000 in
theorem slabel42 (s t : ByteArray) (hs : s.size ≤ 9223372036854775807) (ht : t.size ≤ 9223372036854775807) (w : World) : Calls Try.prog 42 #[.string s, .string t] w fun e w' => e = .returned (.bool (slb s t)) ∧ Below w.heap.size w w' := by
  by_cases hl : s.size = t.size
  · have HL : Hid (s.size = t.size) := hl
    obtain ⟨n, hn⟩ : ∃ n, n = s.size := ⟨_, rfl⟩
    have hnt : t.size = n := by omega
    have hns : s.size = n := hn.symm
    clear hn hl
    go_enter Try.func42, Try.ntmps42
    go_wp2_with fail
    go_loopw [13] (fun y wr => ∃ k : Nat, k ≤ n ∧ y = .int .i64 (k : Int) ∧ Hid (∀ j, j < k → fz ((nums s).getD j 0) = fz ((nums t).getD j 0)) ∧ Hid (Below w.heap.size w wr)) (fun y _ => n - (intOf y).toNat)
    case atStart => exact ⟨0, by omega, rfl, fun j hj => absurd hj (by omega), Below.refl _ _⟩
    case round =>
      obtain ⟨k, hk, rfl, HK, HB⟩ := hrel
      by_cases hlt : k < n
      · have hlt' : (k : Int) < (n : Int) := by omega
        have hks : k < s.size := by omega
        have hkt : k < t.size := by omega
        have es := nums_at s k hks
        have et := nums_at t k hkt
        have hbs := nums_bd s k
        have hbt := nums_bd t k
        rw [es] at hbs
        rw [et] at hbt
        have ES : Hid ((nums s).getD k 0 = (s[k].toNat : Int)) := es
        have ET : Hid ((nums t).getD k 0 = (t[k].toNat : Int)) := et
        clear es et
        by_cases hq : fz (s[k].toNat : Int) = fz (t[k].toNat : Int)
        · have hq1 : (fz (s[k].toNat : Int) == fz (t[k].toNat : Int)) = true := beq_iff_eq.2 hq
          have hq2 : (fz (s[k].toNat : Int) != fz (t[k].toNat : Int)) = false := by simp [bne, hq1]
          have HQ : Hid (fz (s[k].toNat : Int) = fz (t[k].toNat : Int)) := hq
          clear hq
          go_wp2_with fail
          go_quiet (first | (go_at_call 50; refine Calls.quiet_of_same (fold50 _ (by omega) (by omega) _)) | fail)
          go_wp2
          refine ⟨⟨k + 1, by omega, by go_num, ?_, below_drewN HB.out _⟩, by simp [intOf]; omega⟩
          intro j hj
          rcases Nat.lt_or_ge j k with h | h
          · exact HK.out j h
          · obtain rfl : j = k := by omega
            rw [ES.out, ET.out]; exact HQ.out
        · have hq1 : (fz (s[k].toNat : Int) == fz (t[k].toNat : Int)) = false := by simpa using hq
          have hq2 : (fz (s[k].toNat : Int) != fz (t[k].toNat : Int)) = true := by simp [bne, hq1]
          have HQ : Hid (fz (s[k].toNat : Int) ≠ fz (t[k].toNat : Int)) := hq
          clear hq
          go_wp2_with fail
          go_quiet (first | (go_at_call 50; refine Calls.quiet_of_same (fold50 _ (by omega) (by omega) _)) | fail)
          go_wp2
          go_ret
          refine ⟨?_, below_drewN HB.out _⟩
          have : slb s t = false := by
            unfold slb
            rw [decide_eq_false_iff_not]
            intro h
            apply HQ.out
            have := congrArg (fun l => l[k]?) h
            simp only [List.getElem?_map] at this
            rw [← ES.out, ← ET.out]
            rw [List.getD_eq_getElem?_getD, List.getD_eq_getElem?_getD]
            rw [List.getElem?_eq_getElem (by rw [nums_len]; exact hks), List.getElem?_eq_getElem (by rw [nums_len]; exact hkt)] at this ⊢
            simpa using this
          rw [this]; rfl
      · obtain rfl : k = n := by omega
        go_wp2
        go_ret
        refine ⟨?_, HB.out⟩
        have : slb s t = true := by
          unfold slb
          rw [decide_eq_true_iff]
          apply List.ext_getElem?
          intro j
          rw [List.getElem?_map, List.getElem?_map]
          rcases Nat.lt_or_ge j k with h | h
          · have := HK.out j h
            rw [List.getD_eq_getElem?_getD, List.getD_eq_getElem?_getD] at this
            rw [List.getElem?_eq_getElem (by rw [nums_len]; omega), List.getElem?_eq_getElem (by rw [nums_len]; omega)] at this ⊢
            simpa using this
          · rw [List.getElem?_eq_none (by rw [nums_len]; omega), List.getElem?_eq_none (by rw [nums_len]; omega)]
        rw [this]; rfl
  · have hne : ((s.size : Int) == (t.size : Int)) = false := by simp; omega
    have hf : slb s t = false := by
      unfold slb
      rw [decide_eq_false_iff_not]
      intro h
      have := congrArg List.length h
      simp only [List.length_map, nums_len] at this
      exact hl this
    rw [hf]
    go_enter Try.func42, Try.ntmps42
    go_wp2
    go_ret
    exact ⟨rfl, Below.refl _ _⟩
end Go.Proofs.Ytmlccnpondemiaa
