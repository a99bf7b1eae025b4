/- The statement's function about the order of labels returns true and leaves what was there. -/
import Derived.Test.YtkdpcohjkfjkdaaFld
namespace Go.Proofs.Ytkdpcohjkfjkdaa
open Go.ChangeShapes Go.WideShapes Go.ChangeAt Go.RowKit
set_option linter.unusedVariables false
set_option linter.unusedSimpArgs false

theorem ba_loop (s : ByteArray) (n : Nat) : ∀ i r, s.size - i = n → ByteArray.toList.loop s i r = r.reverse ++ s.data.toList.drop i := by
  induction n with
  | zero =>
    intro i r h
    unfold ByteArray.toList.loop
    rw [if_neg (by omega), List.drop_eq_nil_of_le (by simp; omega), List.append_nil]
  | succ n ih =>
    intro i r h
    unfold ByteArray.toList.loop
    have hi : i < s.data.toList.length := by simp; omega
    rw [if_pos (by omega), ih (i + 1) _ (by omega), List.reverse_cons, List.append_assoc, List.drop_eq_getElem_cons hi]
    congr 1
    show (s.data[i]! :: s.data.toList.drop (i + 1)) = _
    have h2 : i < s.data.size := by simpa using hi
    rw [getElem!_pos s.data i h2]; rfl
theorem ba_toList (s : ByteArray) : s.toList = s.data.toList := by
  unfold ByteArray.toList
  rw [ba_loop s _ 0 [] rfl]
  simp
theorem ba_inj {a b : ByteArray} (h : a.toList = b.toList) : a = b := by
  rw [ba_toList, ba_toList] at h
  cases a; cases b
  simp at h
  rw [h]
theorem cb_refl : ∀ l : List UInt8, Lib.compareBytes l l = 0
  | [] => rfl
  | x :: l => by unfold Lib.compareBytes; rw [if_neg (UInt8.lt_irrefl x), if_neg (UInt8.lt_irrefl x)]; exact cb_refl l
theorem cb_range : ∀ a b : List UInt8, Lib.compareBytes a b = -1 ∨ Lib.compareBytes a b = 0 ∨ Lib.compareBytes a b = 1
  | [], [] => .inr (.inl rfl)
  | [], _ :: _ => .inl rfl
  | _ :: _, [] => .inr (.inr rfl)
  | x :: a, y :: b => by
    unfold Lib.compareBytes
    split
    · exact .inl rfl
    · split
      · exact .inr (.inr rfl)
      · exact cb_range a b
theorem cb_zero : ∀ a b : List UInt8, Lib.compareBytes a b = 0 → a = b
  | [], [] => fun _ => rfl
  | [], _ :: _ => fun h => by cases h
  | _ :: _, [] => fun h => by cases h
  | x :: a, y :: b => fun h => by
    unfold Lib.compareBytes at h
    split at h
    · cases h
    · split at h
      · cases h
      · rename_i h1 h2
        have e : x = y := UInt8.le_antisymm (UInt8.not_lt.1 h2) (UInt8.not_lt.1 h1)
        rw [e, cb_zero a b h]
theorem cb_neg : ∀ a b : List UInt8, Lib.compareBytes b a = - Lib.compareBytes a b
  | [], [] => rfl
  | [], _ :: _ => rfl
  | _ :: _, [] => rfl
  | x :: a, y :: b => by
    unfold Lib.compareBytes
    by_cases h1 : x < y
    · have h2 : ¬ y < x := UInt8.lt_asymm h1
      rw [if_neg h2, if_pos h1, if_pos h1]; rfl
    · by_cases h2 : y < x
      · rw [if_pos h2, if_neg h1, if_pos h2]
      · rw [if_neg h2, if_neg h1, if_neg h1, if_neg h2]; exact cb_neg a b
theorem cb_trans : ∀ a b c : List UInt8, Lib.compareBytes a b ≤ 0 → Lib.compareBytes b c ≤ 0 → Lib.compareBytes a c ≤ 0
  | [], _, [] => fun _ _ => by decide
  | [], _, _ :: _ => fun _ _ => by unfold Lib.compareBytes; decide
  | _ :: _, [], _ => fun h _ => by unfold Lib.compareBytes at h; exact absurd h (by decide)
  | x :: a, y :: b, [] => fun _ h => by unfold Lib.compareBytes at h; exact absurd h (by decide)
  | x :: a, y :: b, z :: c => fun h1 h2 => by
    unfold Lib.compareBytes at h1 h2 ⊢
    by_cases e1 : x < y
    · by_cases e2 : y < z
      · rw [if_pos (UInt8.lt_trans e1 e2)]; decide
      · rw [if_neg e2] at h2
        by_cases e3 : z < y
        · rw [if_pos e3] at h2; exact absurd h2 (by decide)
        · have : y = z := UInt8.le_antisymm (UInt8.not_lt.1 e3) (UInt8.not_lt.1 e2)
          rw [← this, if_pos e1]; decide
    · rw [if_neg e1] at h1
      by_cases e3 : y < x
      · rw [if_pos e3] at h1; exact absurd h1 (by decide)
      · have e : x = y := UInt8.le_antisymm (UInt8.not_lt.1 e3) (UInt8.not_lt.1 e1)
        rw [if_neg e3] at h1
        subst e
        by_cases e2 : x < z
        · rw [if_pos e2]; decide
        · rw [if_neg e2] at h2 ⊢
          by_cases e4 : z < x
          · rw [if_pos e4] at h2; exact absurd h2 (by decide)
          · rw [if_neg e4] at h2 ⊢
            exact cb_trans a b c h1 h2

/-- The folded text. -/
def fb (s : ByteArray) : ByteArray := ⟨(txt (fl s)).toArray⟩
theorem fz_fz (z : Int) : fz (fz z) = fz z := by unfold fz; split <;> (try split) <;> omega
theorem fb_size (s : ByteArray) : (fb s).size = s.size := by
  show (txt (fl s)).toArray.size = _
  simp [txt, fl_len]
theorem fl_fb (s : ByteArray) : fl (fb s) = fl s := by
  have h : nums (fb s) = fl s := nums_txt _ (fl_all s)
  rw [show fl (fb s) = (nums (fb s)).map fz from rfl, h]
  conv => lhs; rw [show fl s = (nums s).map fz from rfl]
  rw [List.map_map]
  show (nums s).map (fz ∘ fz) = (nums s).map fz
  congr 1
  funext z
  exact fz_fz z
theorem fb_fb (s : ByteArray) : fb (fb s) = fb s := by rw [show fb (fb s) = ⟨(txt (fl (fb s))).toArray⟩ from rfl, fl_fb]; rfl
theorem fb_eq (a b : ByteArray) : fb a = fb b ↔ cmp a b = 0 := by
  constructor
  · intro h
    have : txt (fl a) = txt (fl b) := by
      have := congrArg (fun s => s.data.toList) h
      simpa [fb] using this
    unfold cmp
    rw [this]; exact cb_refl _
  · intro h
    unfold fb
    rw [cb_zero _ _ h]

set_option maxRecDepth 100000 in
set_option maxHeartbeats 2000000 in
theorem order_walk (a b c : ByteArray) (w : World) (ha : a.size ≤ 9223372036854775807) (hb : b.size ≤ 9223372036854775807) (hc : c.size ≤ 9223372036854775807) :
    Calls Try.prog 6 #[.string a, .string b, .string c] w fun e w' => e = .returned (.bool true) ∧ Below w.heap.size w w' := by
  by_cases hl : 400 < a.size ∨ 400 < b.size ∨ 400 < c.size
  · have hl' : (400 : Int) < (a.size : Int) ∨ (¬ (400 : Int) < (a.size : Int) ∧ (400 : Int) < (b.size : Int)) ∨ (¬ (400 : Int) < (a.size : Int) ∧ ¬ (400 : Int) < (b.size : Int) ∧ (400 : Int) < (c.size : Int)) := by omega
    clear hl
    rcases hl' with h1 | ⟨h1, h2⟩ | ⟨h1, h2, h3⟩
    all_goals
      go_enter Try.func6, Try.ntmps6
      go_wp2
      go_ret
      exact ⟨rfl, Below.refl _ _⟩
  · have h1 : ¬ (400 : Int) < (a.size : Int) := by omega
    have h2 : ¬ (400 : Int) < (b.size : Int) := by omega
    have h3 : ¬ (400 : Int) < (c.size : Int) := by omega
    clear hl
    have HAB : Hid (∀ W, Calls Try.prog 13 #[.string a, .string b] W fun e w' => e = .returned (.int .i64 (cmp a b)) ∧ Hid (Below W.heap.size W w')) := fun W => compare_any a b W ha hb
    have HBC : Hid (∀ W, Calls Try.prog 13 #[.string b, .string c] W fun e w' => e = .returned (.int .i64 (cmp b c)) ∧ Hid (Below W.heap.size W w')) := fun W => compare_any b c W hb hc
    have HAC : Hid (∀ W, Calls Try.prog 13 #[.string a, .string c] W fun e w' => e = .returned (.int .i64 (cmp a c)) ∧ Hid (Below W.heap.size W w')) := fun W => compare_any a c W ha hc
    have HBA : Hid (∀ W, Calls Try.prog 13 #[.string b, .string a] W fun e w' => e = .returned (.int .i64 (- cmp a b)) ∧ Hid (Below W.heap.size W w')) := fun W => by
      have := compare_any b a W hb ha
      rw [show cmp b a = - cmp a b from cb_neg _ _] at this
      exact this
    have HS : Hid (∀ W, Calls Try.prog 11 #[.string a, .string b] W fun e w' => e = .returned (.bool (cmp a b == 0)) ∧ Hid (Below W.heap.size W w')) := fun W => same_any a b W ha hb
    have HS2 : Hid (∀ W, Calls Try.prog 11 #[.string a, .string (fb a)] W fun e w' => e = .returned (.bool true) ∧ Hid (Below W.heap.size W w')) := fun W => by
      have := same_any a (fb a) W ha (by rw [fb_size]; exact ha)
      rw [show cmp a (fb a) = 0 from (fb_eq _ _).1 (fb_fb a).symm] at this
      exact this
    have HFA : Hid (∀ W, Calls Try.prog 9 #[.string a] W fun e w' => e = .returned (.string (fb a)) ∧ Hid (Below W.heap.size W w')) := fun W => fold_any a W ha
    have HFB : Hid (∀ W, Calls Try.prog 9 #[.string b] W fun e w' => e = .returned (.string (fb b)) ∧ Hid (Below W.heap.size W w')) := fun W => fold_any b W hb
    have HFF : Hid (∀ W, Calls Try.prog 9 #[.string (fb a)] W fun e w' => e = .returned (.string (fb a)) ∧ Hid (Below W.heap.size W w')) := fun W => by
      have : Calls Try.prog 9 #[.string (fb a)] W fun e w' => e = .returned (.string (fb (fb a))) ∧ Hid (Below W.heap.size W w') := fold_any (fb a) W (by rw [fb_size]; exact ha)
      rw [fb_fb] at this
      exact this
    have HK : Hid (∀ W, Calls Try.prog 13 #[.string ⟨#[97]⟩, .string ⟨#[66]⟩] W fun e w' => e = .returned (.int .i64 (-1)) ∧ Hid (Below W.heap.size W w')) := fun W => compare_any ⟨#[97]⟩ ⟨#[66]⟩ W (by decide) (by decide)
    have HEQ : Hid (fb a = fb b ↔ cmp a b = 0) := fb_eq a b
    have hsz : (fb a).size = a.size := fb_size a
    have HT : Hid (cmp a b ≤ 0 → cmp b c ≤ 0 → cmp a c ≤ 0) := cb_trans _ _ _
    have rx : cmp a b = -1 ∨ cmp a b = 0 ∨ cmp a b = 1 := cb_range _ _
    have ry : cmp b c = -1 ∨ cmp b c = 0 ∨ cmp b c = 1 := cb_range _ _
    have rz : cmp a c = -1 ∨ cmp a c = 0 ∨ cmp a c = 1 := cb_range _ _
    generalize cmp a b = x at *
    generalize cmp b c = y at *
    generalize cmp a c = z at *
    generalize fb a = fa at *
    generalize fb b = fbb at *
    go_enter Try.func6, Try.ntmps6
    go_wp2_with fail
    refine (HAB.out _).mono ?_
    rintro e w1 ⟨rfl, B1⟩
    go_wp2_with fail
    refine (HBC.out _).mono ?_
    rintro e w2 ⟨rfl, B2⟩
    go_wp2_with fail
    refine (HAC.out _).mono ?_
    rintro e w3 ⟨rfl, B3⟩
    go_wp2_with fail
    refine (HFA.out _).mono ?_
    rintro e w4 ⟨rfl, B4⟩
    go_wp2_with fail
    refine (HFF.out _).mono ?_
    rintro e w5 ⟨rfl, B5⟩
    go_wp2_with fail
    refine (HS2.out _).mono ?_
    rintro e w6 ⟨rfl, B6⟩
    go_wp2_with fail
    refine (HBA.out _).mono ?_
    rintro e w7 ⟨rfl, B7⟩
    have B : Hid (Below w.heap.size w w7) := by
      have s1 := B1.out.size; have s2 := B2.out.size; have s3 := B3.out.size; have s4 := B4.out.size; have s5 := B5.out.size; have s6 := B6.out.size
      exact ((((((B1.out.trans (B2.out.mono (by omega))).trans (B3.out.mono (by omega))).trans (B4.out.mono (by omega))).trans (B5.out.mono (by omega))).trans (B6.out.mono (by omega))).trans (B7.out.mono (by omega)))
    clear B1 B2 B3 B4 B5 B6 B7 HAB HBC HAC HBA HFA HFF HS2
    go_wp2_with fail
    refine (HS.out _).mono ?_
    rintro e w8 ⟨rfl, B8⟩
    have B2 : Hid (Below w.heap.size w w8) := B.out.trans (B8.out.mono B.out.size)
    clear B B8 HS
    go_wp2_with fail
    refine (HFB.out _).mono ?_
    rintro e w9 ⟨rfl, B9⟩
    have B3 : Hid (Below w.heap.size w w9) := B2.out.trans (B9.out.mono B2.out.size)
    clear B2 B9 HFB
    have rt : 0 < x ∨ 0 < y ∨ z ≤ 0 := by
      by_cases h1 : 0 < x
      · exact .inl h1
      · by_cases h2 : 0 < y
        · exact .inr (.inl h2)
        · exact .inr (.inr (HT.out (by omega) (by omega)))
    clear HT ry rz
    rcases rx with hx | hx | hx
    · have hne : ¬ fa.toList = fbb.toList := fun h => by have := HEQ.out.1 (ba_inj h); omega
      subst hx
      clear HEQ
      have rt' : 0 < y ∨ (y ≤ 0 ∧ z ≤ 0) := by omega
      clear rt
      rcases rt' with hy | ⟨hy, hz⟩
      all_goals
        go_wp2_with fail
        refine (HK.out _).mono ?_
        rintro e w10 ⟨rfl, B10⟩
        go_wp2
        go_ret
        exact ⟨ret_bool (by simp [hne]), B3.out.trans (B10.out.mono B3.out.size)⟩
    · have hne : fa = fbb := HEQ.out.2 hx
      subst hx
      subst hne
      clear HEQ
      have rt' : 0 < y ∨ (y ≤ 0 ∧ z ≤ 0) := by omega
      clear rt
      rcases rt' with hy | ⟨hy, hz⟩
      all_goals
        go_wp2_with fail
        refine (HK.out _).mono ?_
        rintro e w10 ⟨rfl, B10⟩
        go_wp2
        go_ret
        exact ⟨rfl, B3.out.trans (B10.out.mono B3.out.size)⟩
    · have hne : ¬ fa.toList = fbb.toList := fun h => by have := HEQ.out.1 (ba_inj h); omega
      subst hx
      clear HEQ rt
      go_wp2_with fail
      refine (HK.out _).mono ?_
      rintro e w10 ⟨rfl, B10⟩
      go_wp2
      go_ret
      exact ⟨ret_bool (by simp [hne]), B3.out.trans (B10.out.mono B3.out.size)⟩
end Go.Proofs.Ytkdpcohjkfjkdaa
