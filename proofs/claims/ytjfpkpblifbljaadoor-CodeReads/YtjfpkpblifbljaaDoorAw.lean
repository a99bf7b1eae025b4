/- Which types have data of their own, which may stand in a zone; the document's examples that wake the statements. -/
import Derived.Test.YtjfpkpblifbljaaDoorCd
namespace Go.Proofs.YtjfpkpblifbljaaDoor
open Go.ChangeShapes Go.WideShapes Go.ChangeAt Go.RowKit
set_option linter.unusedVariables false
set_option linter.unusedSimpArgs false

def knownF (t : Int) : Bool := [1, 2, 5, 6, 12, 15, 16, 28, 33, 257].contains t
def storedF (t : Int) : Bool := decide (t ≠ 0) && decide (t ≠ 41) && (decide (t < 128) || decide (255 < t))
theorem ret_bool {a b : Bool} (h : a = b) : Ending.returned (.bool a) = .returned (.bool b) := by rw [h]
set_option maxRecDepth 100000 in
set_option maxHeartbeats 1000000 in
theorem known_any (t : Int) (w : World) : Calls Tryd.prog 22 #[.int .u16 t] w fun e w' => e = .returned (.bool (knownF t)) ∧ w' = w := by
  go_enter Tryd.func22, Tryd.ntmps22
  go_wp2
  all_goals
    go_ret
    refine ⟨ret_bool ?_, rfl⟩
    simp_all [knownF]
set_option maxRecDepth 100000 in
set_option maxHeartbeats 1000000 in
theorem asked_any (t : Int) (w : World) : Calls Tryd.prog 39 #[.int .u16 t] w fun e w' => e = .returned (.bool (decide (128 ≤ t) && decide (t ≤ 255))) ∧ w' = w := by
  go_enter Tryd.func39, Tryd.ntmps39
  go_wp2
  all_goals
    go_ret
    refine ⟨ret_bool ?_, rfl⟩
    simp_all
    try omega
set_option maxRecDepth 100000 in
set_option maxHeartbeats 1000000 in
theorem stored_any (t : Int) (w : World) : Calls Tryd.prog 24 #[.int .u16 t] w fun e w' => e = .returned (.bool (storedF t)) ∧ w' = w := by
  go_enter Tryd.func24, Tryd.ntmps24
  by_cases h0 : t = 0
  · subst h0
    go_wp2_with fail
    go_ret
    exact ⟨ret_bool (by decide), rfl⟩
  · by_cases h1 : t = 41
    · subst h1
      go_wp2_with fail
      go_ret
      exact ⟨ret_bool (by decide), rfl⟩
    · have q0 : (t == 0) = false := by simp [h0]
      have q1 : (t == 41) = false := by simp [h1]
      go_wp2_with fail
      refine (asked_any t w).mono ?_
      rintro e W ⟨rfl, rfl⟩
      go_wp2_with fail
      go_ret
      refine ⟨ret_bool ?_, rfl⟩
      simp [storedF, h0, h1]
      by_cases h2 : t < 128
      · simp [h2]; omega
      · by_cases h3 : 255 < t
        · simp [h3]; omega
        · simp [h2, h3]; omega
theorem tellF_own (ps : Own4) (pre : List UInt8) (n : Nat) (p : List UInt8 × Nat) (h : ps.find? (fun p => p.2 == n) = some p) : tellF ps pre n = p.1 := by
  unfold tellF; rw [h]
theorem tellF_pre (ps : Own4) (pre : List UInt8) (n : Nat) (h : ps.find? (fun p => p.2 == n) = none) : tellF ps pre n = pre ++ Lib.decDigits n := by
  unfold tellF; rw [h]
theorem readF_own (ps : Own4) (pre : List UInt8) (below : Nat) (s : List UInt8) (p : List UInt8 × Nat) (h : ps.find? (fun p => p.1 == s) = some p) (hb : p.2 < below) : readF ps pre below s = some p.2 := by
  unfold readF digF; rw [h]; exact numF_dec _ _ hb
theorem up_lit (t : ByteArray) (l : List UInt8) (h : (txt ((nums t).map uz)) = l) : (up t).data.toList = l := by
  unfold up; rw [h]
theorem mx_read : readF typesW typesP.data.toList 65536 (up ⟨#[109, 120]⟩).data.toList = some 15 := by
  rw [up_lit _ [77, 88] (by decide +kernel)]
  exact readF_own _ _ _ _ ([77, 88], 15) (by decide +kernel) (by decide)
theorem nx_tell : tellF rcodesW rcodesP.data.toList 3 = [78, 88, 68, 79, 77, 65, 73, 78] := tellF_own _ _ _ ([78, 88, 68, 79, 77, 65, 73, 78], 3) (by decide +kernel)
theorem aaaa_tell : tellF typesW typesP.data.toList 28 = [65, 65, 65, 65] := tellF_own _ _ _ ([65, 65, 65, 65], 28) (by decide +kernel)

set_option maxRecDepth 100000 in
set_option maxHeartbeats 1000000 in
theorem awake_any (w : World) (hL : LayT w) (hE : LayE w) : Calls Tryd.prog 26 #[] w fun e w' => e = .returned (.bool true) ∧ Hid (Below w.heap.size w w') := by
  have HL : Hid (LayT w ∧ LayE w) := ⟨hL, hE⟩
  clear hL hE
  go_enter Tryd.func26, Tryd.ntmps26
  go_wp2_with fail
  refine (ptype_any ⟨#[109, 120]⟩ (by decide +kernel) w HL.out.1 HL.out.2).mono ?_
  rintro e W1 ⟨x, y, rfl, HR, H1⟩
  obtain ⟨rfl, rfl⟩ := HR.out.1 15 mx_read
  clear HR
  go_wp2_with fail
  refine (rcode_any 3 W1 (HL.out.1.below H1.out)).mono ?_
  rintro e W2 ⟨l, y, rfl, HT, H2⟩
  obtain ⟨rfl, rfl⟩ := HT.out.1 (by decide) (by decide)
  have e3 : tellF rcodesW rcodesP.data.toList (Int.toNat 3) = [78, 88, 68, 79, 77, 65, 73, 78] := nx_tell
  rw [e3]
  have HB2 : Hid (Below w.heap.size w W2) := H1.out.trans (H2.out.mono H1.out.size)
  clear HT e3 H1 H2
  go_wp2_with fail
  refine (type_any 28 (by decide) W2 (HL.out.1.below HB2.out)).mono ?_
  rintro e W3 ⟨rfl, H3⟩
  rw [aaaa_tell]
  have HB3 : Hid (Below w.heap.size w W3) := HB2.out.trans (H3.out.mono HB2.out.size)
  clear HB2 H3
  go_wp2_with fail
  go_ret
  exact ⟨rfl, HB3.out⟩
set_option maxRecDepth 100000 in
set_option maxHeartbeats 1000000 in
theorem kinds_any (t : Int) (ht : 0 ≤ t) (w : World) (hL : LayT w) (hE : LayE w) : Calls Tryd.prog 6 #[.int .u16 t] w fun e w' => e = .returned (.bool true) ∧ Hid (Below w.heap.size w w') := by
  have HL : Hid (LayT w ∧ LayE w) := ⟨hL, hE⟩
  clear hL hE
  go_enter Tryd.func6, Tryd.ntmps6
  go_wp2_with fail
  refine (awake_any w HL.out.1 HL.out.2).mono ?_
  rintro e W1 ⟨rfl, H1⟩
  go_wp2_with fail
  refine (known_any t W1).mono ?_
  rintro e W2 ⟨rfl, rfl⟩
  have HK : Hid (knownF t = true → storedF t = true) := by
    intro h
    simp [knownF] at h
    rcases h with h | h | h | h | h | h | h | h | h | h <;> subst h <;> decide
  have HS : Hid (storedF t = true → t ≠ 0 ∧ t ≠ 41 ∧ (t < 128 ∨ 255 < t)) := by
    intro h
    simpa [storedF, and_assoc] using h
  generalize knownF t = kn at *
  cases hst : storedF t with
  | true =>
    have hf := HS.out hst
    have h0 : (0 : Int) < t := by omega
    have h1 : (t != 41) = true := by simp [hf.2.1]
    have hor : t < 128 ∨ (¬ t < 128 ∧ 255 < t) := by omega
    clear HS HK hf
    cases kn with
    | true =>
      go_wp2_with fail
      refine (stored_any t _).mono ?_
      rintro e W3 ⟨rfl, rfl⟩
      rw [hst]
      go_wp2_with fail
      refine (stored_any t _).mono ?_
      rintro e W4 ⟨rfl, rfl⟩
      rw [hst]
      rcases hor with h2 | ⟨h2, h3⟩
      all_goals
        go_wp2_with fail
        go_ret
        exact ⟨rfl, H1.out⟩
    | false =>
      go_wp2_with fail
      refine (stored_any t _).mono ?_
      rintro e W4 ⟨rfl, rfl⟩
      rw [hst]
      rcases hor with h2 | ⟨h2, h3⟩
      all_goals
        go_wp2_with fail
        go_ret
        exact ⟨rfl, H1.out⟩
  | false =>
    cases kn with
    | true => rw [HK.out rfl] at hst; cases hst
    | false =>
      clear HS HK
      go_wp2_with fail
      refine (stored_any t _).mono ?_
      rintro e W4 ⟨rfl, rfl⟩
      rw [hst]
      go_wp2_with fail
      go_ret
      exact ⟨rfl, H1.out⟩

theorem u16_bd {t : Int} (h : (Lit.int .u16 t).wf = true) : 0 ≤ t ∧ t < 65536 := by
  have e1 : IntKind.u16.min = 0 := rfl
  have e2 : IntKind.u16.max = 65535 := rfl
  simp [Lit.wf, e1, e2] at h
  omega
theorem kinds_walk (t : Int) (ht : (Lit.int .u16 t).wf = true) (w : World) (h : LayT w ∧ LayE w) : Calls Tryd.prog 6 #[.int .u16 t] w fun e w' => e = .returned (.bool true) ∧ Below w.heap.size w w' :=
  kinds_any t (u16_bd ht).1 w h.1 h.2
end Go.Proofs.YtjfpkpblifbljaaDoor
