/- The statement's function about a label's text that is read again returns true and leaves what was there. -/
import Derived.Test.YtkdpcohjkfjkdaaTxt
import Derived.Test.YtkdpcohjkfjkdaaPar
namespace Go.Proofs.Ytkdpcohjkfjkdaa
open Go.ChangeShapes Go.WideShapes Go.ChangeAt Go.RowKit
set_option linter.unusedVariables false
set_option linter.unusedSimpArgs false

theorem fr_tx1 (c : Int) (h : 0 ≤ c ∧ c ≤ 255) (r : List Int) : fr (tx1 c ++ r) = (c, ((tx1 c).length : Int)) := by
  unfold tx1
  by_cases hu : c < 33 ∨ 126 < c
  · rw [if_pos hu]
    have hv : v3 (48 + c / 100) (48 + c / 10 % 10) (48 + c % 10) = c := by unfold v3; omega
    have d1 : dgt (48 + c / 100) = true := (dgt_iff _).2 (by omega)
    have d2 : dgt (48 + c / 10 % 10) = true := (dgt_iff _).2 (by omega)
    have d3 : dgt (48 + c % 10) = true := (dgt_iff _).2 (by omega)
    have hd : decide (c ≤ 255) = true := by simp [h.2]
    simp [fr, esc, num3, vis, d1, d2, d3, hv, h.2]
  · rw [if_neg hu]
    rcases spc_cases c with hs | ⟨hs, e1, e2, _⟩
    · rcases hs with rfl | rfl | rfl | rfl | rfl | rfl | rfl | rfl <;> simp [fr, esc, spc, vis, dgt]
    · rw [hs]
      have hv : vis c = true := (vis_iff c).2 (by omega)
      have e2' : ¬ c = 92 := by simpa using e2
      simp [fr, hv, e2']
theorem head_tx1 (c : Int) (h : 0 ≤ c ∧ c ≤ 255) (r : List Int) : (tx1 c ++ r).getD 0 0 ≠ 46 := by
  unfold tx1
  by_cases hu : c < 33 ∨ 126 < c
  · rw [if_pos hu]; simp
  · rw [if_neg hu]
    rcases spc_cases c with hs | ⟨hs, e1, e2, _⟩
    · rcases hs with rfl | rfl | rfl | rfl | rfl | rfl | rfl | rfl <;> simp [spc]
    · rw [hs]; simpa using e1
theorem go_tx (l : List Int) : ∀ (P out R : List Int), (∀ z ∈ l, 0 ≤ z ∧ z ≤ 255) → (R = [] ∨ ∃ r, R = 46 :: r) → go (P ++ (tx l ++ R)) P.length out = some (out ++ l, P.length + (tx l).length) := by
  induction l with
  | nil =>
    intro P out R _ hR
    rw [go_stop]
    · simp [tx]
    · rcases hR with rfl | ⟨r, rfl⟩
      · simp [tx]
      · simp [tx, List.getD_eq_getElem?_getD]
  | cons c l ih =>
    intro P out R hb hR
    have hc := hb c (by simp)
    have e : tx (c :: l) ++ R = tx1 c ++ (tx l ++ R) := by simp [tx]
    have hd : (P ++ (tx1 c ++ (tx l ++ R))).drop P.length = tx1 c ++ (tx l ++ R) := by simp
    have hf := fr_tx1 c hc (tx l ++ R)
    have hlen := tx1_len c
    rw [e, go_step]
    · rw [hd, hf]
      have := ih (P ++ tx1 c) (out ++ [c]) R (fun z hz => hb z (by simp [hz])) hR
      simp only [Int.toNat_natCast]
      rw [List.append_assoc, List.length_append] at this
      rw [this]
      simp [tx]
      omega
    · refine ⟨by simp only [List.length_append]; omega, ?_⟩
      have := head_tx1 c hc (tx l ++ R)
      rw [← hd, show ((P ++ (tx1 c ++ (tx l ++ R))).drop P.length).getD 0 0 = (P ++ (tx1 c ++ (tx l ++ R))).getD P.length 0 by rw [List.getD_eq_getElem?_getD, List.getD_eq_getElem?_getD, List.getElem?_drop, Nat.add_zero]] at this
      exact this
    · rw [hd, hf]; simp only; omega
theorem pres_tx (l R : List Int) (hb : ∀ z ∈ l, 0 ≤ z ∧ z ≤ 255) (hR : R = [] ∨ ∃ r, R = 46 :: r) (hl : 1 ≤ l.length ∧ l.length ≤ 63) : pres (tx l ++ R) = (l, ((tx l).length : Int), 0) := by
  have := go_tx l [] [] R hb hR
  simp only [List.nil_append, List.length_nil, Nat.zero_add] at this
  exact pres_ok this (by unfold chk; rw [if_pos hl])
theorem pres_a : pres [97, 92] = ([], 0, 120) := by
  apply pres_bad
  rw [go_step _ _ _ (by decide) (by decide)]
  exact go_bad _ _ _ (by decide) (by decide)
theorem nums_cat (a b : ByteArray) : nums (a ++ b) = nums a ++ nums b := by
  simp [nums]
theorem nums_back (l : List Int) (h : ∀ z ∈ l, 0 ≤ z ∧ z ≤ 255) : nums ⟨(txt l).toArray⟩ = l := by
  unfold nums txt
  simp only [List.map_map]
  conv => rhs; rw [← List.map_id l]
  apply List.map_congr_left
  intro z hz
  have := h z hz
  simp
  omega
theorem txt_back (s : ByteArray) : (⟨(txt (nums s)).toArray⟩ : ByteArray) = s := by
  have : txt (nums s) = s.data.toList := by
    unfold nums txt
    rw [List.map_map]
    conv => rhs; rw [← List.map_id s.data.toList]
    apply List.map_congr_left
    intro b _
    simp
  rw [this]

set_option maxRecDepth 100000 in
set_option maxHeartbeats 2000000 in
theorem back_walk (s b : ByteArray) (w : World) (hs : s.size ≤ 1048576) (hb : b.size ≤ 1048576) :
    Calls Try.prog 5 #[.string s, .string b] w fun e w' => e = .returned (.bool true) ∧ Below w.heap.size w w' := by
  have KT : Hid (∀ W, Calls Try.prog 14 #[.string s] W fun e w' => e = .returned (.string ⟨(txt (tx (nums s))).toArray⟩) ∧ Hid (Below W.heap.size W w')) := fun W => text_any s W (by omega)
  have KC : Hid (∀ W, Calls Try.prog 7 #[.string s] W fun e w' => e = .returned (.int .i64 (chk s.size)) ∧ w' = W) := fun W => chk_any s W (by omega)
  by_cases hc : 1 ≤ s.size ∧ s.size ≤ 63
  · have hk : chk s.size = 0 := by unfold chk; rw [if_pos hc]
    rw [hk] at KC
    have htl := tx_len (nums s)
    rw [nums_len] at htl
    have hall := nums_all s
    have hnt : nums ⟨(txt (tx (nums s))).toArray⟩ = tx (nums s) := nums_back _ (tx_bd _ hall)
    have hts : (⟨(txt (tx (nums s))).toArray⟩ : ByteArray).size = (tx (nums s)).length := txt_size _
    have K1 : Hid (∀ W, Calls Try.prog 17 #[.string ⟨(txt (tx (nums s))).toArray⟩] W fun e w' => e = .returned (.tuple #[.string s, .int .i64 ((tx (nums s)).length : Int), .int .i64 0]) ∧ Hid (Below W.heap.size W w')) := fun W => by
      have := parse_any ⟨(txt (tx (nums s))).toArray⟩ W (by rw [hts]; omega)
      unfold PPost at this
      rw [hnt] at this
      have h2 := pres_tx (nums s) [] hall (.inl rfl) (by rw [nums_len]; exact hc)
      rw [List.append_nil] at h2
      rw [h2] at this
      simp only [txt_back] at this
      exact this
    have K2 : Hid (∀ W, Calls Try.prog 17 #[.string (⟨(txt (tx (nums s))).toArray⟩ ++ ⟨#[46]⟩ ++ b)] W fun e w' => e = .returned (.tuple #[.string s, .int .i64 ((tx (nums s)).length : Int), .int .i64 0]) ∧ Hid (Below W.heap.size W w')) := fun W => by
      have := parse_any (⟨(txt (tx (nums s))).toArray⟩ ++ ⟨#[46]⟩ ++ b) W (by rw [ByteArray.size_append, ByteArray.size_append, hts]; show _ + 1 + _ ≤ _; omega)
      unfold PPost at this
      rw [nums_cat, nums_cat, hnt, List.append_assoc] at this
      have h2 := pres_tx (nums s) (nums ⟨#[46]⟩ ++ nums b) hall (.inr ⟨nums b, rfl⟩) (by rw [nums_len]; exact hc)
      rw [h2] at this
      simp only [txt_back] at this
      exact this
    have hpos : 1 ≤ (tx (nums s)).length := by
      have : nums s ≠ [] := fun h => by have := nums_len s; rw [h] at this; simp at this; omega
      obtain ⟨c, l, hcl⟩ := List.exists_cons_of_ne_nil this
      rw [hcl]
      have := tx1_len c
      simp only [tx, List.flatMap_cons, List.length_append]
      omega
    clear hnt hall hk hc
    generalize (tx (nums s)).length = n at *
    generalize (⟨(txt (tx (nums s))).toArray⟩ : ByteArray) = t at *
    go_enter Try.func5, Try.ntmps5
    go_wp2_with fail
    refine (KT.out _).mono ?_
    rintro e w1 ⟨rfl, B1⟩
    go_wp2_with fail
    refine (KC.out _).mono ?_
    rintro e w2 ⟨rfl, rfl⟩
    go_wp2_with fail
    refine (K1.out _).mono ?_
    rintro e w3 ⟨rfl, B3⟩
    go_wp2_with fail
    refine (K2.out _).mono ?_
    rintro e w4 ⟨rfl, B4⟩
    have B : Hid (Below w.heap.size w w4) := (B1.out.trans (B3.out.mono B1.out.size)).trans (B4.out.mono (Nat.le_trans B1.out.size B3.out.size))
    clear B1 B3 B4 KT KC K1 K2
    go_wp2
    go_ret
    exact ⟨ret_bool (decide_eq_true (by omega)), B.out⟩
  · have hk : chk s.size = 4 := by unfold chk; rw [if_neg hc]
    rw [hk] at KC
    have KP : Hid (∀ W, Calls Try.prog 17 #[.string ⟨#[97, 92]⟩] W fun e w' => e = .returned (.tuple #[.string ⟨#[]⟩, .int .i64 0, .int .i64 120]) ∧ Hid (Below W.heap.size W w')) := fun W => by
      have := parse_any ⟨#[97, 92]⟩ W (by decide)
      unfold PPost at this
      rw [show nums ⟨#[97, 92]⟩ = [97, 92] from rfl, pres_a] at this
      exact this
    have hor : (s.size : Int) < 1 ∨ (¬ (s.size : Int) < 1 ∧ (63 : Int) < (s.size : Int)) := by omega
    clear hk hc
    generalize (⟨(txt (tx (nums s))).toArray⟩ : ByteArray) = t at *
    go_enter Try.func5, Try.ntmps5
    go_wp2_with fail
    refine (KT.out _).mono ?_
    rintro e w1 ⟨rfl, B1⟩
    go_wp2_with fail
    refine (KC.out _).mono ?_
    rintro e w2 ⟨rfl, rfl⟩
    go_wp2_with fail
    refine (KP.out _).mono ?_
    rintro e w3 ⟨rfl, B3⟩
    have B : Hid (Below w.heap.size w w3) := B1.out.trans (B3.out.mono B1.out.size)
    clear B1 B3 KT KC KP
    rcases hor with h | ⟨h, h'⟩
    all_goals
      go_wp2
      go_ret
      exact ⟨rfl, B.out⟩
end Go.Proofs.Ytkdpcohjkfjkdaa
