/- Which label a text begins with, as the program reads it. -/
import Derived.Test.YtfnpiknobmecbaaByt
namespace Go.Proofs.Ytfnpiknobmecbaa
open Go.ChangeShapes Go.WideShapes Go.ChangeAt Go.RowKit
set_option linter.unusedVariables false
set_option linter.unusedSimpArgs false


theorem getD_bd (l : List Int) (h : ∀ z ∈ l, 0 ≤ z ∧ z ≤ 255) (i : Nat) : 0 ≤ l.getD i 0 ∧ l.getD i 0 ≤ 255 := by
  by_cases hi : i < l.length
  · have := h (l.getD i 0) (by rw [List.getD_eq_getElem?_getD, List.getElem?_eq_getElem hi]; simp)
    exact this
  · rw [List.getD_eq_getElem?_getD, List.getElem?_eq_none (by omega)]; simp
theorem num3_bd (l : List Int) : 0 ≤ (num3 l).1 ∧ (num3 l).1 ≤ 255 ∧ 0 ≤ (num3 l).2 ∧ (num3 l).2 ≤ l.length := by
  unfold num3
  split
  · simp
  · split
    · rename_i h1 h2
      simp only [Bool.and_eq_true, dgt_iff, decide_eq_true_eq] at h2
      simp only
      unfold v3 at *
      omega
    · simp
theorem esc_bd (l : List Int) (h : ∀ z ∈ l, 0 ≤ z ∧ z ≤ 255) : 0 ≤ (esc l).1 ∧ (esc l).1 ≤ 255 ∧ 0 ≤ (esc l).2 ∧ (esc l).2 ≤ l.length := by
  unfold esc
  split
  · simp
  · split
    · exact num3_bd l
    · split
      · have := getD_bd l h 1
        simp only
        omega
      · simp
theorem fr_bd (l : List Int) (h : ∀ z ∈ l, 0 ≤ z ∧ z ≤ 255) (hl : 0 < l.length) : 0 ≤ (fr l).1 ∧ (fr l).1 ≤ 255 ∧ 0 ≤ (fr l).2 ∧ (fr l).2 ≤ l.length := by
  unfold fr
  split
  · simp
  · split
    · exact esc_bd l h
    · have := getD_bd l h 0
      simp only
      omega
theorem nums_all (s : ByteArray) : ∀ z ∈ nums s, 0 ≤ z ∧ z ≤ 255 := by
  intro z hz
  simp only [nums, List.mem_map] at hz
  obtain ⟨b, _, rfl⟩ := hz
  have := b.toNat_lt
  omega
/-- The label's bytes and the place behind them; none, if a byte can't be read. -/
def go (l : List Int) (p : Nat) (out : List Int) : Option (List Int × Nat) :=
  if h : p < l.length ∧ l.getD p 0 ≠ 46 then
    if hn : (fr (l.drop p)).2 ≤ 0 then none
    else go l (p + (fr (l.drop p)).2.toNat) (out ++ [(fr (l.drop p)).1])
  else some (out, p)
termination_by l.length - p
decreasing_by omega
/-- What Parse answers: the label's bytes, how much of the text it is, the error. -/
def pres (l : List Int) : List Int × Int × Int :=
  match go l 0 [] with
  | none => ([], 0, 120)
  | some (out, p) => if 1 ≤ out.length ∧ out.length ≤ 63 then (out, (p : Int), 0) else ([], 0, 4)
def chk (n : Nat) : Int := if 1 ≤ n ∧ n ≤ 63 then 0 else 4
set_option maxRecDepth 100000 in
set_option maxHeartbeats 400000 in
theorem chk_any (s : ByteArray) (w : World) (hs : s.size ≤ 9223372036854775807) :
    Calls Try.prog 48 #[.string s] w fun e w' => e = .returned (.int .i64 (chk s.size)) ∧ w' = w := by
  by_cases h : 1 ≤ s.size ∧ s.size ≤ 63
  · have h1 : ¬ (s.size : Int) < 1 := by omega
    have h2 : ¬ (63 : Int) < (s.size : Int) := by omega
    have HE : Hid (chk s.size = 0) := by show _ = _; unfold chk; rw [if_pos h]
    clear h
    go_enter Try.func48, Try.ntmps48
    go_wp2
    go_ret
    exact ⟨by rw [HE.out]; rfl, rfl⟩
  · have HE : Hid (chk s.size = 4) := by show _ = _; unfold chk; rw [if_neg h]
    have ho : (s.size : Int) < 1 ∨ (63 : Int) < (s.size : Int) := by omega
    clear h
    rcases ho with ho | ho
    all_goals
      go_enter Try.func48, Try.ntmps48
      go_wp2
      go_ret
      exact ⟨by rw [HE.out]; rfl, rfl⟩
set_option maxRecDepth 100000 in
set_option maxHeartbeats 400000 in
theorem rchk_any (s : ByteArray) (w : World) (hs : s.size ≤ 9223372036854775807) :
    Calls Try.prog 55 #[.string s] w fun e w' => e = .returned (.int .i64 (chk s.size)) ∧ w' = w := by
  by_cases h : 1 ≤ s.size ∧ s.size ≤ 63
  · have h1 : ¬ (s.size : Int) < 1 := by omega
    have h2 : ¬ (63 : Int) < (s.size : Int) := by omega
    have HE : Hid (chk s.size = 0) := by show _ = _; unfold chk; rw [if_pos h]
    clear h
    go_enter Try.func55, Try.ntmps55
    go_wp2
    go_ret
    exact ⟨by rw [HE.out]; rfl, rfl⟩
  · have HE : Hid (chk s.size = 4) := by show _ = _; unfold chk; rw [if_neg h]
    have ho : (s.size : Int) < 1 ∨ (63 : Int) < (s.size : Int) := by omega
    clear h
    rcases ho with ho | ho
    all_goals
      go_enter Try.func55, Try.ntmps55
      go_wp2
      go_ret
      exact ⟨by rw [HE.out]; rfl, rfl⟩
theorem nums_extract (s : ByteArray) (p : Nat) : nums (s.extract p s.size) = (nums s).drop p := by
  simp only [nums, ByteArray.data_extract]
  rw [Array.toList_extract, List.extract_eq_take_drop, ← List.map_drop, List.take_of_length_le (by simp)]
theorem txt_size (l : List Int) : (⟨(txt l).toArray⟩ : ByteArray).size = l.length := by
  show (txt l).toArray.size = _
  simp [txt]
theorem go_stop (l : List Int) (p : Nat) (out : List Int) (h : ¬ (p < l.length ∧ l.getD p 0 ≠ 46)) : go l p out = some (out, p) := by
  rw [go, dif_neg h]
theorem go_bad (l : List Int) (p : Nat) (out : List Int) (h : p < l.length ∧ l.getD p 0 ≠ 46) (hn : (fr (l.drop p)).2 ≤ 0) : go l p out = none := by
  rw [go, dif_pos h, dif_pos hn]
theorem go_step (l : List Int) (p : Nat) (out : List Int) (h : p < l.length ∧ l.getD p 0 ≠ 46) (hn : ¬ (fr (l.drop p)).2 ≤ 0) : go l p out = go l (p + (fr (l.drop p)).2.toNat) (out ++ [(fr (l.drop p)).1]) := by
  rw [go, dif_pos h, dif_neg hn]
def PPost (s : ByteArray) (w : World) (e : Ending) (w' : World) : Prop :=
  e = .returned (.tuple #[.string ⟨(txt (pres (nums s)).1).toArray⟩, .int .i64 (pres (nums s)).2.1, .int .i64 (pres (nums s)).2.2]) ∧ Hid (Below w.heap.size w w')
theorem pres_ok {l out : List Int} {p : Nat} (h : go l 0 [] = some (out, p)) (hc : chk out.length = 0) : pres l = (out, (p : Int), 0) := by
  unfold pres
  rw [h]
  simp only
  unfold chk at hc
  split at hc
  · rename_i h1; rw [if_pos h1]
  · cases hc
theorem pres_no {l out : List Int} {p : Nat} (h : go l 0 [] = some (out, p)) (hc : ¬ chk out.length = 0) : pres l = ([], 0, 4) ∧ chk out.length = 4 := by
  unfold pres
  rw [h]
  simp only
  unfold chk at hc ⊢
  split at hc
  · exact absurd rfl hc
  · rename_i h1; rw [if_neg h1, if_neg h1]; exact ⟨rfl, rfl⟩
theorem pres_bad {l : List Int} (h : go l 0 [] = none) : pres l = ([], 0, 120) := by
  unfold pres
  rw [h]
end Go.Proofs.Ytfnpiknobmecbaa
