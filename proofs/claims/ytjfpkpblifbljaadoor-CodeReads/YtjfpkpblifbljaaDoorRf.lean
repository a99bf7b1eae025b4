/- The document's own answer: digits of a number. -/
import Derived.Test.YtjfpkpblifbljaaDoorAw
import Derived.Deep.RegionWith
namespace Go.Proofs.YtjfpkpblifbljaaDoor
open Go.ChangeShapes Go.WideShapes Go.ChangeAt Go.RowKit
set_option linter.unusedVariables false
set_option linter.unusedSimpArgs false

theorem one_txt (z : Int) (n : Nat) (h : z = ((48 + n : Nat) : Int)) (hn : n < 10) : txt [z] = [UInt8.ofNat (48 + n)] := by
  subst h
  show [UInt8.ofNat (((48 + n : Nat) : Int)).toNat] = _
  rw [Int.toNat_natCast]

set_option maxRecDepth 100000 in
set_option maxHeartbeats 1000000 in
theorem decimal_any (n : Nat) (hn : n < 65536) (w : World) : Calls Tryd.prog 38 #[.int .i64 n] w fun e w' => e = .returned (.string ⟨(Lib.decDigits n).toArray⟩) ∧ Hid (Below w.heap.size w w') := by
  induction n using Nat.strongRecOn generalizing w with
  | _ n ih =>
    by_cases h : n < 10
    · have h' : (n : Int) < 10 := by omega
      have hw : IntKind.u8.wrap (48 + (n : Int)) = ((48 + n : Nat) : Int) := by rw [IntKind.wrap_u8]; omega
      have hw2 : IntKind.i64.wrap (48 + (n : Int)) = 48 + (n : Int) := by rw [IntKind.wrap_i64]; omega
      have hr := new_rd w ((48 + n : Nat) : Int) (by omega)
      have hcv := conv_rd (some ⟨w.heap.size, 0, none⟩) 1 1 [((48 + n : Nat) : Int)] _ hr rfl
      rw [one_txt _ n rfl h, ← dec_small h] at hcv
      have HB : Hid (Below w.heap.size w (w.alloc (.cells #[.int .u8 ((48 + n : Nat) : Int)] 5))) := (Below.refl _ _).alloc (Nat.le_refl _) _
      clear hr ih
      generalize 48 + n = m at *
      go_enter Tryd.func38, Tryd.ntmps38
      go_wp2_with fail
      go_ret
      exact ⟨rfl, HB.out⟩
    · have h' : ¬ (n : Int) < 10 := by omega
      have hq : Int.tdiv (n : Int) 10 = ((n / 10 : Nat) : Int) := by rw [Int.tdiv_eq_ediv_of_nonneg (by omega)]; omega
      have hr : Int.tmod (n : Int) 10 = ((n % 10 : Nat) : Int) := by rw [Int.tmod_eq_emod_of_nonneg (by omega)]; omega
      have hw2 : IntKind.i64.wrap (48 + ((n % 10 : Nat) : Int)) = 48 + ((n % 10 : Nat) : Int) := by rw [IntKind.wrap_i64]; omega
      have hw : IntKind.u8.wrap (48 + ((n % 10 : Nat) : Int)) = ((48 + n % 10 : Nat) : Int) := by rw [IntKind.wrap_u8]; omega
      have hw3 : IntKind.i64.wrap ((n / 10 : Nat) : Int) = ((n / 10 : Nat) : Int) := by rw [IntKind.wrap_i64]; omega
      have KI : Hid (∀ W, Calls Tryd.prog 38 #[.int .i64 ((n / 10 : Nat) : Int)] W fun e w' => e = .returned (.string ⟨(Lib.decDigits (n / 10)).toArray⟩) ∧ Hid (Below W.heap.size W w')) := fun W => ih (n / 10) (by omega) (by omega) W
      have hcv : ∀ W : World, (convert 57 9 (.slice (some ⟨W.heap.size, 0, none⟩) 1 1)).run Tryd.prog (W.alloc (.cells #[.int .u8 ((48 + n % 10 : Nat) : Int)] 5)) = .ok (.string ⟨[UInt8.ofNat (48 + n % 10)].toArray⟩) (W.alloc (.cells #[.int .u8 ((48 + n % 10 : Nat) : Int)] 5)) := by
        intro W
        have := conv_rd (some ⟨W.heap.size, 0, none⟩) 1 1 [((48 + n % 10 : Nat) : Int)] _ (new_rd W ((48 + n % 10 : Nat) : Int) (by omega)) rfl
        rw [one_txt _ (n % 10) rfl (by omega)] at this
        exact this
      have HCD : Hid (∀ W2, Below (w.alloc (.cells #[.int .u8 ((48 + n % 10 : Nat) : Int)] 5)).drew.heap.size (w.alloc (.cells #[.int .u8 ((48 + n % 10 : Nat) : Int)] 5)).drew W2 → (convert 57 9 (.slice (some ⟨w.heap.size, 0, none⟩) 1 1)).run Tryd.prog W2 = .ok (.string ⟨[UInt8.ofNat (48 + n % 10)].toArray⟩) W2) := by
        intro W2 hb
        have := conv_rd (some ⟨w.heap.size, 0, none⟩) 1 1 [((48 + n % 10 : Nat) : Int)] W2 (((new_rd w ((48 + n % 10 : Nat) : Int) (by omega)).drew).below hb) rfl
        rw [one_txt _ (n % 10) rfl (by omega)] at this
        exact this
      have hcd := HCD.out _ (Below.refl _ _)
      have HBA : Hid (Below w.heap.size w (w.alloc (.cells #[.int .u8 ((48 + n % 10 : Nat) : Int)] 5)).drew) := ((Below.refl _ _).alloc (Nat.le_refl _) _).drew
      have HBB : Hid (∀ W2, Below w.heap.size w W2 → Below w.heap.size w (W2.alloc (.cells #[.int .u8 ((48 + n % 10 : Nat) : Int)] 5))) := fun W2 hb => hb.trans (((Below.refl _ _).alloc (Nat.le_refl _) _).mono hb.size)
      have HD : Hid (Lib.decDigits n = Lib.decDigits (n / 10) ++ [UInt8.ofNat (48 + n % 10)]) := dec_big h
      have hlen : (Lib.decDigits (n / 10)).length ≤ 5 := dec_len _ (by omega)
      have hcat : ¬ 9223372036854775807 < (Lib.decDigits (n / 10)).length + 1 := by omega
      clear ih
      generalize n / 10 = q at *
      generalize n % 10 = r at *
      generalize hm : 48 + r = m at *
      go_enter Tryd.func38, Tryd.ntmps38
      go_upto_region 3 with fail
      go_region_with (first
        | (go_at_call 38; refine (KI.out _).mono ?_; rintro e W2 ⟨rfl, H2⟩; first | (have hc2 := HCD.out W2 H2.out) | skip))
      all_goals
        go_wp2_with fail
        go_ret
        refine ⟨?_, ?_⟩
        · rw [HD.out]
          show Ending.returned (.string ((⟨(Lib.decDigits q).toArray⟩ : ByteArray) ++ (⟨[UInt8.ofNat m].toArray⟩ : ByteArray))) = _
          rw [cat_txt]
        · first
          | exact HBB.out W2 (((Below.refl _ _).drew).trans H2.out)
          | exact HBA.out.trans (H2.out.mono HBA.out.size)
end Go.Proofs.YtjfpkpblifbljaaDoor
