/- A label's text, as the program writes it. -/
import Derived.Test.YtfnpiknobmecbaaBld2
namespace Go.Proofs.Ytfnpiknobmecbaa
open Go.ChangeShapes Go.WideShapes Go.ChangeAt Go.RowKit
set_option linter.unusedVariables false
set_option linter.unusedSimpArgs false


/-- Bytes that a backslash stands ahead of. -/
def spc (c : Int) : Bool := c == 46 || c == 92 || c == 34 || c == 59 || c == 40 || c == 41 || c == 64 || c == 36
def wst (c : Int) : Int := if c < 33 ∨ 126 < c then 2 else if spc c then 1 else 0
/-- How a byte is written. -/
def tx1 (c : Int) : List Int := if c < 33 ∨ 126 < c then [92, 48 + c / 100, 48 + c / 10 % 10, 48 + c % 10] else if spc c then [92, c] else [c]
def tx (l : List Int) : List Int := l.flatMap tx1
theorem tx_snoc (l : List Int) (c : Int) : tx (l ++ [c]) = tx l ++ tx1 c := by simp [tx]
theorem tx1_len (c : Int) : (tx1 c).length ≤ 4 ∧ 1 ≤ (tx1 c).length := by unfold tx1; split <;> (try split) <;> simp
theorem tx_len (l : List Int) : (tx l).length ≤ 4 * l.length := by
  induction l with
  | nil => simp [tx]
  | cons c l ih =>
    have := tx1_len c
    simp only [tx, List.flatMap_cons, List.length_append, List.length_cons] at ih ⊢
    omega
theorem tx1_bd (c : Int) (h : 0 ≤ c ∧ c ≤ 255) : ∀ z ∈ tx1 c, 0 ≤ z ∧ z ≤ 255 := by
  intro z hz
  unfold tx1 at hz
  split at hz
  · simp only [List.mem_cons, List.mem_nil_iff, or_false] at hz
    omega
  · split at hz
    · simp only [List.mem_cons, List.mem_nil_iff, or_false] at hz
      omega
    · simp only [List.mem_cons, List.mem_nil_iff, or_false] at hz
      omega
theorem tx_bd (l : List Int) (h : ∀ z ∈ l, 0 ≤ z ∧ z ≤ 255) : ∀ z ∈ tx l, 0 ≤ z ∧ z ≤ 255 := by
  intro z hz
  simp only [tx, List.mem_flatMap] at hz
  obtain ⟨c, hc, hz⟩ := hz
  exact tx1_bd c (h c hc) z hz
theorem spc_cases (c : Int) : (c = 46 ∨ c = 92 ∨ c = 34 ∨ c = 59 ∨ c = 40 ∨ c = 41 ∨ c = 64 ∨ c = 36) ∨ (spc c = false ∧ (c == 46) = false ∧ (c == 92) = false ∧ (c == 34) = false ∧ (c == 59) = false ∧ (c == 40) = false ∧ (c == 41) = false ∧ (c == 64) = false ∧ (c == 36) = false ∧ (c < 40 ∨ 41 < c)) := by
  by_cases h : c = 46 ∨ c = 92 ∨ c = 34 ∨ c = 59 ∨ c = 40 ∨ c = 41 ∨ c = 64 ∨ c = 36
  · exact .inl h
  · right
    have e1 : ¬ c = 46 := by omega
    have e2 : ¬ c = 92 := by omega
    have e3 : ¬ c = 34 := by omega
    have e4 : ¬ c = 59 := by omega
    have e5 : ¬ c = 40 := by omega
    have e6 : ¬ c = 41 := by omega
    have e7 : ¬ c = 64 := by omega
    have e8 : ¬ c = 36 := by omega
    simp [spc, e1, e2, e3, e4, e5, e6, e7, e8]
    omega
theorem bc_txt (l : List Int) (h : ∀ z ∈ l, 0 ≤ z ∧ z ≤ 255) : Lib.byteCells (txt l) = l.map (Value.int .u8) := by
  unfold Lib.byteCells txt
  rw [List.map_map]
  apply List.map_congr_left
  intro z hz
  have := h z hz
  simp
  omega
theorem nums_all' (s : ByteArray) : ∀ z ∈ nums s, 0 ≤ z ∧ z ≤ 255 := by
  intro z hz
  simp only [nums, List.mem_map] at hz
  obtain ⟨b, _, rfl⟩ := hz
  have := b.toNat_lt
  omega
end Go.Proofs.Ytfnpiknobmecbaa
