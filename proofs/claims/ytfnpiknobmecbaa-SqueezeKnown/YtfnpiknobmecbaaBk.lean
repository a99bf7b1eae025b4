/- A label's text is read as the label. -/
import Derived.Test.YtfnpiknobmecbaaTxt
import Derived.Test.YtfnpiknobmecbaaPar
namespace Go.Proofs.Ytfnpiknobmecbaa
open Go.ChangeShapes Go.WideShapes Go.ChangeAt Go.RowKit
set_option linter.unusedVariables false
set_option linter.unusedSimpArgs false


theorem fr_tx1 (c : Int) (h : 0 ≤ c ∧ c ≤ 255) (r : List Int) : fr (tx1 c ++ r) = (c, ((tx1 c).length : Int)) := by
  unfold tx1
  by_cases hu : c < 33 ∨ 126 < c
  · rw [if_pos hu]
    have hv : v3 (48 + c / 100) (48 + c / 10 % 10) (48 + c % 10) = c := by unfold v3; omega
    have d1 : dgt (48 + c / 100) = true := (dgt_iff _).2 (by omega)
    have d2 : dgt (48 + c / 10 % 10) = true := (dgt_iff _).2 (by omega)
    have d3 : dgt (48 + c % 10) = true := (dgt_iff _).2 (by omega)
    have hd : decide (c ≤ 255) = true := by simp [h.2]
    simp [fr, esc, num3, vis, d1, d2, d3, hv, h.2]
  · rw [if_neg hu]
    rcases spc_cases c with hs | ⟨hs, e1, e2, _⟩
    · rcases hs with rfl | rfl | rfl | rfl | rfl | rfl | rfl | rfl <;> simp [fr, esc, spc, vis, dgt]
    · rw [hs]
      have hv : vis c = true := (vis_iff c).2 (by omega)
      have e2' : ¬ c = 92 := by simpa using e2
      simp [fr, hv, e2']
theorem head_tx1 (c : Int) (h : 0 ≤ c ∧ c ≤ 255) (r : List Int) : (tx1 c ++ r).getD 0 0 ≠ 46 := by
  unfold tx1
  by_cases hu : c < 33 ∨ 126 < c
  · rw [if_pos hu]; simp
  · rw [if_neg hu]
    rcases spc_cases c with hs | ⟨hs, e1, e2, _⟩
    · rcases hs with rfl | rfl | rfl | rfl | rfl | rfl | rfl | rfl <;> simp [spc]
    · rw [hs]; simpa using e1
theorem go_tx (l : List Int) : ∀ (P out R : List Int), (∀ z ∈ l, 0 ≤ z ∧ z ≤ 255) → (R = [] ∨ ∃ r, R = 46 :: r) → go (P ++ (tx l ++ R)) P.length out = some (out ++ l, P.length + (tx l).length) := by
  induction l with
  | nil =>
    intro P out R _ hR
    rw [go_stop]
    · simp [tx]
    · rcases hR with rfl | ⟨r, rfl⟩
      · simp [tx]
      · simp [tx, List.getD_eq_getElem?_getD]
  | cons c l ih =>
    intro P out R hb hR
    have hc := hb c (by simp)
    have e : tx (c :: l) ++ R = tx1 c ++ (tx l ++ R) := by simp [tx]
    have hd : (P ++ (tx1 c ++ (tx l ++ R))).drop P.length = tx1 c ++ (tx l ++ R) := by simp
    have hf := fr_tx1 c hc (tx l ++ R)
    have hlen := tx1_len c
    rw [e, go_step]
    · rw [hd, hf]
      have := ih (P ++ tx1 c) (out ++ [c]) R (fun z hz => hb z (by simp [hz])) hR
      simp only [Int.toNat_natCast]
      rw [List.append_assoc, List.length_append] at this
      rw [this]
      simp [tx]
      omega
    · refine ⟨by simp only [List.length_append]; omega, ?_⟩
      have := head_tx1 c hc (tx l ++ R)
      rw [← hd, show ((P ++ (tx1 c ++ (tx l ++ R))).drop P.length).getD 0 0 = (P ++ (tx1 c ++ (tx l ++ R))).getD P.length 0 by rw [List.getD_eq_getElem?_getD, List.getD_eq_getElem?_getD, List.getElem?_drop, Nat.add_zero]] at this
      exact this
    · rw [hd, hf]; simp only; omega
theorem pres_tx (l R : List Int) (hb : ∀ z ∈ l, 0 ≤ z ∧ z ≤ 255) (hR : R = [] ∨ ∃ r, R = 46 :: r) (hl : 1 ≤ l.length ∧ l.length ≤ 63) : pres (tx l ++ R) = (l, ((tx l).length : Int), 0) := by
  have := go_tx l [] [] R hb hR
  simp only [List.nil_append, List.length_nil, Nat.zero_add] at this
  exact pres_ok this (by unfold chk; rw [if_pos hl])
theorem pres_a : pres [97, 92] = ([], 0, 120) := by
  apply pres_bad
  rw [go_step _ _ _ (by decide) (by decide)]
  exact go_bad _ _ _ (by decide) (by decide)
theorem nums_cat (a b : ByteArray) : nums (a ++ b) = nums a ++ nums b := by
  simp [nums]
theorem nums_back (l : List Int) (h : ∀ z ∈ l, 0 ≤ z ∧ z ≤ 255) : nums ⟨(txt l).toArray⟩ = l := by
  unfold nums txt
  simp only [List.map_map]
  conv => rhs; rw [← List.map_id l]
  apply List.map_congr_left
  intro z hz
  have := h z hz
  simp
  omega
theorem txt_back (s : ByteArray) : (⟨(txt (nums s)).toArray⟩ : ByteArray) = s := by
  have : txt (nums s) = s.data.toList := by
    unfold nums txt
    rw [List.map_map]
    conv => rhs; rw [← List.map_id s.data.toList]
    apply List.map_congr_left
    intro b _
    simp
  rw [this]
end Go.Proofs.Ytfnpiknobmecbaa
