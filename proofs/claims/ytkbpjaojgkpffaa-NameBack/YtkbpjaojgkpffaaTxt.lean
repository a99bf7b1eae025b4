/- A label's text, as the program writes it. -/
import Derived.Test.YtkbpjaojgkpffaaBld2
namespace Go.Proofs.Ytkbpjaojgkpffaa
open Go.ChangeShapes Go.WideShapes Go.ChangeAt Go.RowKit
set_option linter.unusedVariables false
set_option linter.unusedSimpArgs false

/-- Bytes that a backslash stands ahead of. -/
def spc (c : Int) : Bool := c == 46 || c == 92 || c == 34 || c == 59 || c == 40 || c == 41 || c == 64 || c == 36
def wst (c : Int) : Int := if c < 33 ∨ 126 < c then 2 else if spc c then 1 else 0
/-- How a byte is written. -/
def tx1 (c : Int) : List Int := if c < 33 ∨ 126 < c then [92, 48 + c / 100, 48 + c / 10 % 10, 48 + c % 10] else if spc c then [92, c] else [c]
def tx (l : List Int) : List Int := l.flatMap tx1
theorem tx_snoc (l : List Int) (c : Int) : tx (l ++ [c]) = tx l ++ tx1 c := by simp [tx]
theorem tx1_len (c : Int) : (tx1 c).length ≤ 4 ∧ 1 ≤ (tx1 c).length := by unfold tx1; split <;> (try split) <;> simp
theorem tx_len (l : List Int) : (tx l).length ≤ 4 * l.length := by
  induction l with
  | nil => simp [tx]
  | cons c l ih =>
    have := tx1_len c
    simp only [tx, List.flatMap_cons, List.length_append, List.length_cons] at ih ⊢
    omega
theorem tx1_bd (c : Int) (h : 0 ≤ c ∧ c ≤ 255) : ∀ z ∈ tx1 c, 0 ≤ z ∧ z ≤ 255 := by
  intro z hz
  unfold tx1 at hz
  split at hz
  · simp only [List.mem_cons, List.mem_nil_iff, or_false] at hz
    omega
  · split at hz
    · simp only [List.mem_cons, List.mem_nil_iff, or_false] at hz
      omega
    · simp only [List.mem_cons, List.mem_nil_iff, or_false] at hz
      omega
theorem tx_bd (l : List Int) (h : ∀ z ∈ l, 0 ≤ z ∧ z ≤ 255) : ∀ z ∈ tx l, 0 ≤ z ∧ z ≤ 255 := by
  intro z hz
  simp only [tx, List.mem_flatMap] at hz
  obtain ⟨c, hc, hz⟩ := hz
  exact tx1_bd c (h c hc) z hz
theorem spc_cases (c : Int) : (c = 46 ∨ c = 92 ∨ c = 34 ∨ c = 59 ∨ c = 40 ∨ c = 41 ∨ c = 64 ∨ c = 36) ∨ (spc c = false ∧ (c == 46) = false ∧ (c == 92) = false ∧ (c == 34) = false ∧ (c == 59) = false ∧ (c == 40) = false ∧ (c == 41) = false ∧ (c == 64) = false ∧ (c == 36) = false ∧ (c < 40 ∨ 41 < c)) := by
  by_cases h : c = 46 ∨ c = 92 ∨ c = 34 ∨ c = 59 ∨ c = 40 ∨ c = 41 ∨ c = 64 ∨ c = 36
  · exact .inl h
  · right
    have e1 : ¬ c = 46 := by omega
    have e2 : ¬ c = 92 := by omega
    have e3 : ¬ c = 34 := by omega
    have e4 : ¬ c = 59 := by omega
    have e5 : ¬ c = 40 := by omega
    have e6 : ¬ c = 41 := by omega
    have e7 : ¬ c = 64 := by omega
    have e8 : ¬ c = 36 := by omega
    simp [spc, e1, e2, e3, e4, e5, e6, e7, e8]
    omega

set_option maxRecDepth 100000 in
set_option maxHeartbeats 2000000 in
theorem written_any (c : Int) (w : World) (h : 0 ≤ c ∧ c ≤ 255) : Calls Try.prog 86 #[.int .u8 c] w fun e w' => e = .returned (.int .i64 (wst c)) ∧ w' = w := by
  by_cases hu : c < 33 ∨ 126 < c
  · have HW : Hid (wst c = 2) := by show _ = _; unfold wst; rw [if_pos hu]
    rcases hu with hu | hu
    all_goals
      go_enter Try.func86, Try.ntmps86
      go_wp2
      go_ret
      exact ⟨by rw [HW.out]; rfl, rfl⟩
  · have h1 : ¬ c < 33 := by omega
    have h2 : ¬ 126 < c := by omega
    have hs := spc_cases c
    have HW : Hid (wst c = if spc c then 1 else 0) := by show _ = _; unfold wst; rw [if_neg hu]
    clear hu
    rcases hs with hs | ⟨hs, e1, e2, e3, e4, e5, e6, e7, e8, hor⟩
    · rcases hs with rfl | rfl | rfl | rfl | rfl | rfl | rfl | rfl
      all_goals
        clear HW
        go_enter Try.func86, Try.ntmps86
        go_wp2
        go_ret
        exact ⟨rfl, rfl⟩
    · rw [hs] at HW
      clear hs e5 e6
      rcases hor with ho | ho
      all_goals
        go_enter Try.func86, Try.ntmps86
        go_wp2
        go_ret
        exact ⟨by rw [HW.out]; rfl, rfl⟩
set_option maxRecDepth 100000 in
set_option maxHeartbeats 2000000 in
theorem special_any (c : Int) (w : World) : Calls Try.prog 88 #[.int .u8 c] w fun e w' => e = .returned (.bool (spc c)) ∧ w' = w := by
  have hs := spc_cases c
  rcases hs with hs | ⟨hs, e1, e2, e3, e4, e5, e6, e7, e8, hor⟩
  · rcases hs with rfl | rfl | rfl | rfl | rfl | rfl | rfl | rfl
    all_goals
      go_enter Try.func88, Try.ntmps88
      go_wp2
      go_ret
      exact ⟨rfl, rfl⟩
  · have HW : Hid (spc c = false) := hs
    clear hs hor
    go_enter Try.func88, Try.ntmps88
    go_wp2
    go_ret
    exact ⟨by rw [HW.out]; rfl, rfl⟩

theorem bc_txt (l : List Int) (h : ∀ z ∈ l, 0 ≤ z ∧ z ≤ 255) : Lib.byteCells (txt l) = l.map (Value.int .u8) := by
  unfold Lib.byteCells txt
  rw [List.map_map]
  apply List.map_congr_left
  intro z hz
  have := h z hz
  simp
  omega

theorem nums_all' (s : ByteArray) : ∀ z ∈ nums s, 0 ≤ z ∧ z ≤ 255 := by
  intro z hz
  simp only [nums, List.mem_map] at hz
  obtain ⟨b, _, rfl⟩ := hz
  have := b.toNat_lt
  omega

set_option maxRecDepth 100000 in
set_option maxHeartbeats 2000000 in
theorem text_any (s : ByteArray) (w : World) (hs : s.size ≤ 35184372088000) :
    Calls Try.prog 69 #[.string s] w fun e w' => e = .returned (.string ⟨(txt (tx (nums s))).toArray⟩) ∧ Hid (Below w.heap.size w w') := by
  have H0 : Hid (GS w.heap.size (w.alloc (.cells #[.pointer none, .slice none 0 0] 82)) w.heap.size [] ∧ Below w.heap.size w (w.alloc (.cells #[.pointer none, .slice none 0 0] 82))) := ⟨GS.fresh w, (Below.refl _ _).alloc (Nat.le_refl _) _⟩
  go_enter Try.func69, Try.ntmps69
  go_wp2_with fail
  go_loopw [8] (fun x wr => ∃ k : Nat, k ≤ s.size ∧ x = .int .i64 k ∧ Hid (GS w.heap.size wr w.heap.size ((tx ((nums s).take k)).map (Value.int .u8)) ∧ Below w.heap.size w wr)) (fun x _ => s.size - (intOf x).toNat)
  case atStart => exact ⟨0, Nat.zero_le _, rfl, H0⟩
  case round =>
    obtain ⟨k, hk, rfl, HW⟩ := hrel
    clear H0
    by_cases hlt : k < s.size
    · have hlt' : (k : Int) < (s.size : Int) := by omega
      have hbd := nums_bd s k
      have HT : Hid ((nums s).take (k + 1) = (nums s).take k ++ [(nums s).getD k 0]) := take_snoc _ _ (by rw [nums_len]; exact hlt)
      rw [nums_at s k hlt] at hbd HT
      have hln : (tx ((nums s).take k)).length ≤ 4 * k := by
        have h1 := tx_len ((nums s).take k)
        have h2 : ((nums s).take k).length ≤ k := by simp; omega
        omega
      have HN : Hid (tx ((nums s).take (k + 1)) = tx ((nums s).take k) ++ tx1 (s[k].toNat : Int)) := by show _ = _; rw [HT.out, tx_snoc]
      have HM : Hid (((tx ((nums s).take k)).map (Value.int .u8)).length = (tx ((nums s).take k)).length) := (show _ = _ by simp)
      have HWR : Hid (∀ W, Calls Try.prog 86 #[.int .u8 (s[k].toNat : Int)] W fun e w' => e = .returned (.int .i64 (wst (s[k].toNat : Int))) ∧ w' = W) := fun W => written_any _ W hbd
      by_cases hu : (s[k].toNat : Int) < 33 ∨ 126 < (s[k].toNat : Int)
      · have hw : wst (s[k].toNat : Int) = 2 := by unfold wst; rw [if_pos hu]
        have HX : Hid (tx1 (s[k].toNat : Int) = [92, 48 + (s[k].toNat : Int) / 100, 48 + (s[k].toNat : Int) / 10 % 10, 48 + (s[k].toNat : Int) % 10]) := by show _ = _; unfold tx1; rw [if_pos hu]
        rw [hw] at HWR
        clear hu hw
        go_wp2_with fail
        refine (HWR.out _).mono ?_
        rintro e w1 ⟨rfl, rfl⟩
        go_wp2_with fail
        refine (wbyte w.heap.size w.heap.size _ 92 _ HW.out.1 (Nat.le_refl _) (by rw [HM.out]; omega)).mono ?_
        rintro e w2 ⟨rfl, H2⟩
        go_wp2_with fail
        refine (wbyte w.heap.size w.heap.size _ _ _ H2.out.1 (Nat.le_refl _) (by simp only [List.length_append, List.length_singleton, HM.out]; omega)).mono ?_
        rintro e w3 ⟨rfl, H3⟩
        go_wp2_with fail
        refine (wbyte w.heap.size w.heap.size _ _ _ H3.out.1 (Nat.le_refl _) (by simp only [List.length_append, List.length_singleton, HM.out]; omega)).mono ?_
        rintro e w4 ⟨rfl, H4⟩
        go_wp2_with fail
        refine (wbyte w.heap.size w.heap.size _ _ _ H4.out.1 (Nat.le_refl _) (by simp only [List.length_append, List.length_singleton, HM.out]; omega)).mono ?_
        rintro e w5 ⟨rfl, H5⟩
        go_wp2
        refine ⟨⟨k + 1, by omega, by go_num, ?_, ((HW.out.2.trans H2.out.2).trans H3.out.2).trans (H4.out.2.trans H5.out.2)⟩, by simp [intOf]; omega⟩
        rw [HN.out, HX.out, List.map_append]
        simpa only [List.map_cons, List.map_nil, List.append_assoc, List.cons_append, List.nil_append] using H5.out.1
      · by_cases hp : spc (s[k].toNat : Int) = true
        · have hw : wst (s[k].toNat : Int) = 1 := by unfold wst; rw [if_neg hu, if_pos hp]
          have HX : Hid (tx1 (s[k].toNat : Int) = [92, (s[k].toNat : Int)]) := by show _ = _; unfold tx1; rw [if_neg hu, if_pos hp]
          rw [hw] at HWR
          clear hu hw hp
          go_wp2_with fail
          refine (HWR.out _).mono ?_
          rintro e w1 ⟨rfl, rfl⟩
          go_wp2_with fail
          refine (wbyte w.heap.size w.heap.size _ 92 _ HW.out.1 (Nat.le_refl _) (by rw [HM.out]; omega)).mono ?_
          rintro e w2 ⟨rfl, H2⟩
          go_wp2_with fail
          refine (wbyte w.heap.size w.heap.size _ _ _ H2.out.1 (Nat.le_refl _) (by simp only [List.length_append, List.length_singleton, HM.out]; omega)).mono ?_
          rintro e w3 ⟨rfl, H3⟩
          go_wp2
          refine ⟨⟨k + 1, by omega, by go_num, ?_, (HW.out.2.trans H2.out.2).trans H3.out.2⟩, by simp [intOf]; omega⟩
          rw [HN.out, HX.out, List.map_append]
          simpa only [List.map_cons, List.map_nil, List.append_assoc, List.cons_append, List.nil_append] using H3.out.1
        · have hp' : spc (s[k].toNat : Int) = false := by simpa using hp
          have hw : wst (s[k].toNat : Int) = 0 := by unfold wst; rw [if_neg hu, hp']; rfl
          have HX : Hid (tx1 (s[k].toNat : Int) = [(s[k].toNat : Int)]) := by show _ = _; unfold tx1; rw [if_neg hu, hp']; rfl
          rw [hw] at HWR
          clear hu hw hp hp'
          go_wp2_with fail
          refine (HWR.out _).mono ?_
          rintro e w1 ⟨rfl, rfl⟩
          go_wp2_with fail
          refine (wbyte w.heap.size w.heap.size _ _ _ HW.out.1 (Nat.le_refl _) (by rw [HM.out]; omega)).mono ?_
          rintro e w2 ⟨rfl, H2⟩
          go_wp2
          refine ⟨⟨k + 1, by omega, by go_num, ?_, HW.out.2.trans H2.out.2⟩, by simp [intOf]; omega⟩
          rw [HN.out, HX.out, List.map_append]
          simpa only [List.map_cons, List.map_nil, List.append_assoc, List.cons_append, List.nil_append] using H2.out.1
    · have hge : (s.size : Int) ≤ (k : Int) := by omega
      have ek : (nums s).take k = nums s := List.take_of_length_le (by rw [nums_len]; omega)
      have hg := HW.out.1
      rw [ek, ← bc_txt _ (tx_bd _ (nums_all' s))] at hg
      have hl : (txt (tx (nums s))).length ≤ 9223372036854775807 := by
        have := tx_len (nums s)
        rw [nums_len] at this
        rw [txt_len]; omega
      have HG : Hid (GS w.heap.size wr w.heap.size (Lib.byteCells (txt (tx (nums s))))) := hg
      clear hg ek
      generalize hLL : txt (tx (nums s)) = L at *
      have HLL : Hid (txt (tx (nums s)) = L) := hLL
      clear hLL
      go_wp2_with fail
      refine (wstring w.heap.size w.heap.size L _ HG.out hl).mono ?_
      rintro e w2 ⟨rfl, H2⟩
      go_wp2
      go_ret
      exact ⟨by rw [HLL.out]; rfl, HW.out.2.trans H2.out⟩
end Go.Proofs.Ytkbpjaojgkpffaa
