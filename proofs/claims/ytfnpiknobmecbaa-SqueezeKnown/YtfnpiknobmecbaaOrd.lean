/- How bytes are ordered, and folded texts. -/
import Derived.Test.YtfnpiknobmecbaaFld
namespace Go.Proofs.Ytfnpiknobmecbaa
open Go.ChangeShapes Go.WideShapes Go.ChangeAt Go.RowKit
set_option linter.unusedVariables false
set_option linter.unusedSimpArgs false


theorem ba_loop (s : ByteArray) (n : Nat) : ∀ i r, s.size - i = n → ByteArray.toList.loop s i r = r.reverse ++ s.data.toList.drop i := by
  induction n with
  | zero =>
    intro i r h
    unfold ByteArray.toList.loop
    rw [if_neg (by omega), List.drop_eq_nil_of_le (by simp; omega), List.append_nil]
  | succ n ih =>
    intro i r h
    unfold ByteArray.toList.loop
    have hi : i < s.data.toList.length := by simp; omega
    rw [if_pos (by omega), ih (i + 1) _ (by omega), List.reverse_cons, List.append_assoc, List.drop_eq_getElem_cons hi]
    congr 1
    show (s.data[i]! :: s.data.toList.drop (i + 1)) = _
    have h2 : i < s.data.size := by simpa using hi
    rw [getElem!_pos s.data i h2]; rfl
theorem ba_toList (s : ByteArray) : s.toList = s.data.toList := by
  unfold ByteArray.toList
  rw [ba_loop s _ 0 [] rfl]
  simp
theorem ba_inj {a b : ByteArray} (h : a.toList = b.toList) : a = b := by
  rw [ba_toList, ba_toList] at h
  cases a; cases b
  simp at h
  rw [h]
theorem cb_refl : ∀ l : List UInt8, Lib.compareBytes l l = 0
  | [] => rfl
  | x :: l => by unfold Lib.compareBytes; rw [if_neg (UInt8.lt_irrefl x), if_neg (UInt8.lt_irrefl x)]; exact cb_refl l
theorem cb_range : ∀ a b : List UInt8, Lib.compareBytes a b = -1 ∨ Lib.compareBytes a b = 0 ∨ Lib.compareBytes a b = 1
  | [], [] => .inr (.inl rfl)
  | [], _ :: _ => .inl rfl
  | _ :: _, [] => .inr (.inr rfl)
  | x :: a, y :: b => by
    unfold Lib.compareBytes
    split
    · exact .inl rfl
    · split
      · exact .inr (.inr rfl)
      · exact cb_range a b
theorem cb_zero : ∀ a b : List UInt8, Lib.compareBytes a b = 0 → a = b
  | [], [] => fun _ => rfl
  | [], _ :: _ => fun h => by cases h
  | _ :: _, [] => fun h => by cases h
  | x :: a, y :: b => fun h => by
    unfold Lib.compareBytes at h
    split at h
    · cases h
    · split at h
      · cases h
      · rename_i h1 h2
        have e : x = y := UInt8.le_antisymm (UInt8.not_lt.1 h2) (UInt8.not_lt.1 h1)
        rw [e, cb_zero a b h]
theorem cb_neg : ∀ a b : List UInt8, Lib.compareBytes b a = - Lib.compareBytes a b
  | [], [] => rfl
  | [], _ :: _ => rfl
  | _ :: _, [] => rfl
  | x :: a, y :: b => by
    unfold Lib.compareBytes
    by_cases h1 : x < y
    · have h2 : ¬ y < x := UInt8.lt_asymm h1
      rw [if_neg h2, if_pos h1, if_pos h1]; rfl
    · by_cases h2 : y < x
      · rw [if_pos h2, if_neg h1, if_pos h2]
      · rw [if_neg h2, if_neg h1, if_neg h1, if_neg h2]; exact cb_neg a b
theorem cb_trans : ∀ a b c : List UInt8, Lib.compareBytes a b ≤ 0 → Lib.compareBytes b c ≤ 0 → Lib.compareBytes a c ≤ 0
  | [], _, [] => fun _ _ => by decide
  | [], _, _ :: _ => fun _ _ => by unfold Lib.compareBytes; decide
  | _ :: _, [], _ => fun h _ => by unfold Lib.compareBytes at h; exact absurd h (by decide)
  | x :: a, y :: b, [] => fun _ h => by unfold Lib.compareBytes at h; exact absurd h (by decide)
  | x :: a, y :: b, z :: c => fun h1 h2 => by
    unfold Lib.compareBytes at h1 h2 ⊢
    by_cases e1 : x < y
    · by_cases e2 : y < z
      · rw [if_pos (UInt8.lt_trans e1 e2)]; decide
      · rw [if_neg e2] at h2
        by_cases e3 : z < y
        · rw [if_pos e3] at h2; exact absurd h2 (by decide)
        · have : y = z := UInt8.le_antisymm (UInt8.not_lt.1 e3) (UInt8.not_lt.1 e2)
          rw [← this, if_pos e1]; decide
    · rw [if_neg e1] at h1
      by_cases e3 : y < x
      · rw [if_pos e3] at h1; exact absurd h1 (by decide)
      · have e : x = y := UInt8.le_antisymm (UInt8.not_lt.1 e3) (UInt8.not_lt.1 e1)
        rw [if_neg e3] at h1
        subst e
        by_cases e2 : x < z
        · rw [if_pos e2]; decide
        · rw [if_neg e2] at h2 ⊢
          by_cases e4 : z < x
          · rw [if_pos e4] at h2; exact absurd h2 (by decide)
          · rw [if_neg e4] at h2 ⊢
            exact cb_trans a b c h1 h2
/-- The folded text. -/
def fb (s : ByteArray) : ByteArray := ⟨(txt (fl s)).toArray⟩
theorem fz_fz (z : Int) : fz (fz z) = fz z := by unfold fz; split <;> (try split) <;> omega
theorem fb_size (s : ByteArray) : (fb s).size = s.size := by
  show (txt (fl s)).toArray.size = _
  simp [txt, fl_len]
theorem fl_fb (s : ByteArray) : fl (fb s) = fl s := by
  have h : nums (fb s) = fl s := nums_txt _ (fl_all s)
  rw [show fl (fb s) = (nums (fb s)).map fz from rfl, h]
  conv => lhs; rw [show fl s = (nums s).map fz from rfl]
  rw [List.map_map]
  show (nums s).map (fz ∘ fz) = (nums s).map fz
  congr 1
  funext z
  exact fz_fz z
theorem fb_fb (s : ByteArray) : fb (fb s) = fb s := by rw [show fb (fb s) = ⟨(txt (fl (fb s))).toArray⟩ from rfl, fl_fb]; rfl
theorem fb_eq (a b : ByteArray) : fb a = fb b ↔ cmp a b = 0 := by
  constructor
  · intro h
    have : txt (fl a) = txt (fl b) := by
      have := congrArg (fun s => s.data.toList) h
      simpa [fb] using this
    unfold cmp
    rw [this]; exact cb_refl _
  · intro h
    unfold fb
    rw [cb_zero _ _ h]
end Go.Proofs.Ytfnpiknobmecbaa
