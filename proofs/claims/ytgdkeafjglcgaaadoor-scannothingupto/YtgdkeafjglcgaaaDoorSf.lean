/- Bytes that are blanks, that end a word; how many lines there are; a text copied. -/
import Derived.Test.YtgdkeafjglcgaaaDoorSd
import Derived.Test.YtgdkeafjglcgaaaDoorShelf
import Derived.Test.YtgdkeafjglcgaaaDoorByt
import Derived.Deep.CutBlock
namespace Go.Proofs.YtgdkeafjglcgaaaDoor
open Go.ChangeShapes Go.WideShapes Go.ChangeAt Go.RowKit
set_option linter.unusedVariables false
set_option linter.unusedSimpArgs false


def bI (c : UInt8) : Int := (c.toNat : Int)
theorem bI_eq (c k : UInt8) : (bI c == bI k) = (c == k) := by
  unfold bI
  rw [Bool.eq_iff_iff]; simp
  rw [← UInt8.toNat_inj]; omega
theorem bI_iff (c k : UInt8) : bI c = bI k ↔ c = k := by
  have := bI_eq c k
  rw [Bool.eq_iff_iff] at this; simpa using this
def isBz (z : Int) : Bool := z == 32 || z == 9 || z == 13
def endsz (z : Int) : Bool := isBz z || z == 10 || z == 59 || z == 40 || z == 41
theorem isBz_bI (c : UInt8) : isBz (bI c) = isB c := by
  unfold isBz isB
  rw [← bI_eq c 32, ← bI_eq c 9, ← bI_eq c 13]; rfl
theorem endsz_bI (c : UInt8) : endsz (bI c) = endsW c := by
  unfold endsz endsW
  rw [isBz_bI, ← bI_eq c 10, ← bI_eq c 59, ← bI_eq c 40, ← bI_eq c 41]; rfl
set_option maxRecDepth 100000 in
set_option maxHeartbeats 400000 in
theorem isb45 (z : Int) (w : World) : Calls Tryd.prog 41 #[.int .u8 z] w fun e w' => e = .returned (.bool (isBz z)) ∧ w' = w := by
  go_enter Tryd.func41, Tryd.ntmps41
  go_wp2
  all_goals
    go_ret
    exact ⟨ret_bool (by simp_all [isBz]), rfl⟩
set_option maxRecDepth 100000 in
set_option maxHeartbeats 400000 in
theorem ends50 (z : Int) (w : World) : Calls Tryd.prog 46 #[.int .u8 z] w fun e w' => e = .returned (.bool (endsz z)) ∧ w' = w := by
  have K := Lib.hid (fun w => isb45 z w)
  go_enter Tryd.func46, Tryd.ntmps46
  go_wp2_with fail
  refine (K.out _).mono ?_
  rintro e w1 ⟨rfl, rfl⟩
  cases hb : isBz z with
  | true =>
    go_wp2
    all_goals
      go_ret
      exact ⟨ret_bool (by simp_all [endsz]), rfl⟩
  | false =>
    go_wp2
    all_goals
      go_ret
      exact ⟨ret_bool (by simp_all [endsz]), rfl⟩
set_option maxRecDepth 100000 in
set_option maxHeartbeats 400000 in
theorem esc46 (k : Nat) (w : World) : Calls Tryd.prog 42 #[.int .u8 k] w fun e w' => e = .returned (.bool (decide (k = 2 ∨ k = 4))) ∧ w' = w := by
  go_enter Tryd.func42, Tryd.ntmps42
  go_wp2
  all_goals
    go_ret
    exact ⟨ret_bool (by rw [Bool.eq_iff_iff]; simp; try omega), rfl⟩
theorem clone73 (s : ByteArray) (w : World) (h : s.size ≤ 281474976710656) : Calls Tryd.prog 70 #[.string s] w fun e w' => e = .returned (.string s) ∧ Hid (Below w.heap.size w w') := by
  have K := Lib.hid (fun w => Tryd.stringslite_Clone s w h)
  go_enter Tryd.func70, Tryd.ntmps70
  go_wp2_with fail
  refine (K.out _).mono ?_
  rintro e w1 ⟨rfl, HB⟩
  have HB1 := Lib.hid HB
  clear HB
  go_wp2_with fail
  go_ret
  exact ⟨rfl, HB1⟩
theorem ba_toList (b : ByteArray) : b.toList = b.data.toList := by
  have key : ∀ (n i : Nat) (r : List UInt8), b.size - i = n → ByteArray.toList.loop b i r = r.reverse ++ b.data.toList.drop i := by
    intro n
    induction n with
    | zero =>
      intro i r h
      rw [ByteArray.toList.loop, if_neg (by omega), List.drop_of_length_le (by simp; omega)]; simp
    | succ n ih =>
      intro i r h
      have hi : i < b.size := by omega
      rw [ByteArray.toList.loop, if_pos hi, ih (i + 1) _ (by omega)]
      have : b.data.toList.drop i = b.get! i :: b.data.toList.drop (i + 1) := by
        rw [List.drop_eq_getElem_cons (by simpa using hi)]
        congr 1
        simp only [ByteArray.get!]
        rw [Array.getElem!_eq_getD, Array.getD_eq_getD_getElem?, Array.getElem?_eq_getElem (by simpa using hi)]; simp
      rw [this]; simp
  have := key b.size 0 [] (by omega)
  simpa [ByteArray.toList] using this
theorem cnt10_lib (l : List UInt8) : Lib.countByte l 10 = cnt10 l := by
  unfold Lib.countByte
  induction l with
  | nil => rfl
  | cons c l ih =>
    rw [List.count_cons, ih, cnt10]
    by_cases h : c = 10
    · simp [h]; omega
    · simp [h]
theorem suffix10 (l : List UInt8) : Lib.hasSuffix l [10] = decide (l.getLast? = some 10) := by
  unfold Lib.hasSuffix
  rw [Bool.eq_iff_iff]
  simp only [List.isSuffixOf_iff_suffix, decide_eq_true_eq]
  constructor
  · rintro ⟨t, rfl⟩; simp
  · intro h
    obtain ⟨t, ht⟩ := List.getLast?_eq_some_iff.1 h
    exact ⟨t, ht.symm⟩
theorem cnt10_le (l : List UInt8) : cnt10 l ≤ l.length := by
  induction l with
  | nil => simp [cnt10]
  | cons c l ih => simp [cnt10]; split <;> omega
set_option maxRecDepth 100000 in
set_option maxHeartbeats 1000000 in
theorem lines13 (s : ByteArray) (w : World) (h : s.size ≤ 4611686018427387904) : Calls Tryd.prog 61 #[.string s] w fun e w' => e = .returned (.int .i64 (linesF s.data.toList)) ∧ w' = w := by
  have K30 : Hid (∀ w, Calls Tryd.prog 38 #[.string s, .string ⟨#[10]⟩] w fun e w' => e = .returned (.int .i64 (cnt10 s.data.toList)) ∧ w' = w) := fun w => by
    have := Tryd.strings_Count_one s 10 w
    rw [cnt10_lib] at this; exact this
  have K31 : Hid (∀ w, Calls Tryd.prog 71 #[.string s, .string ⟨#[10]⟩] w fun e w' => e = .returned (.bool (decide (s.data.toList.getLast? = some 10))) ∧ w' = w) := fun w => by
    have := Tryd.strings_HasSuffix s ⟨#[10]⟩ w (by omega)
    rw [show (⟨#[10]⟩ : ByteArray).data.toList = [10] from rfl, suffix10] at this; exact this
  have hc := cnt10_le s.data.toList
  have hl : s.data.toList.length = s.size := by simp
  rw [hl] at hc
  have HL : Hid (linesF s.data.toList = cnt10 s.data.toList + (if s.data.toList.getLast? = none ∨ s.data.toList.getLast? = some 10 then 0 else 1)) := rfl
  generalize cnt10 s.data.toList = C at *
  generalize linesF s.data.toList = N at *
  have HN : Hid (s.data.toList.getLast? = none ↔ s.size = 0) := (show _ ↔ _ from List.getLast?_eq_none_iff.trans ⟨fun e => by rw [← hl, e]; rfl, fun e => List.length_eq_zero_iff.1 (by rw [hl]; exact e)⟩)
  by_cases h0 : s.size = 0
  · have hs : s = ⟨#[]⟩ := by apply ByteArray.ext; exact Array.eq_empty_of_size_eq_zero h0
    have e := HL.out
    rw [if_pos (.inl (HN.out.2 h0))] at e
    have HE : Hid (N = C) := (by show N = C; omega)
    subst hs
    clear HL HN e
    go_enter Tryd.func61, Tryd.ntmps61
    go_wp2_with fail
    refine (K30.out _).mono ?_
    rintro e w1 ⟨rfl, rfl⟩
    go_wp2_with fail
    go_ret
    exact ⟨by rw [HE.out]; rfl, rfl⟩
  · have hne : (s.data.toList == ([] : List UInt8)) = false := by simp; intro e; apply h0; rw [← hl, e]; rfl
    have hne2 : (s.toList == ([] : List UInt8)) = false := by rw [ba_toList]; exact hne
    have hne3 : ¬ s = ⟨#[]⟩ := by intro e; apply h0; rw [e]; rfl
    by_cases hk : s.data.toList.getLast? = some 10
    · have e := HL.out
      rw [if_pos (.inr hk)] at e
      have HE : Hid (N = C) := (by show N = C; omega)
      simp only [hk, decide_true] at K31
      clear HL HN e hk
      go_enter Tryd.func61, Tryd.ntmps61
      go_wp2_with fail
      refine (K30.out _).mono ?_
      rintro e w1 ⟨rfl, rfl⟩
      go_wp2_with fail
      refine (K31.out _).mono ?_
      rintro e w1 ⟨rfl, rfl⟩
      go_wp2_with fail
      go_ret
      exact ⟨by rw [HE.out]; rfl, rfl⟩
    · have e := HL.out
      rw [if_neg (by simp only [not_or]; exact ⟨fun x => h0 (HN.out.1 x), hk⟩)] at e
      have HE : Hid (N = C + 1) := e
      simp only [hk, decide_false] at K31
      clear HL HN e hk
      go_enter Tryd.func61, Tryd.ntmps61
      go_wp2_with fail
      refine (K30.out _).mono ?_
      rintro e w1 ⟨rfl, rfl⟩
      go_wp2_with fail
      refine (K31.out _).mono ?_
      rintro e w1 ⟨rfl, rfl⟩
      go_wp2_with fail
      go_ret
      exact ⟨by rw [HE.out]; go_num, rfl⟩
end Go.Proofs.YtgdkeafjglcgaaaDoor
