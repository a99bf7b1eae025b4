/- A label's text and the order of two, as the document has them. -/
import Derived.Test.YtfnpiknobmecbaaTxt
import Derived.Test.YtfnpiknobmecbaaOrd
namespace Go.Proofs.Ytfnpiknobmecbaa
open Go.ChangeShapes Go.WideShapes Go.ChangeAt Go.RowKit
set_option linter.unusedVariables false
set_option linter.unusedSimpArgs false


theorem new_rd4 (w : World) (a b c d : Int) (ha : 0 ≤ a ∧ a ≤ 255) (hb : 0 ≤ b ∧ b ≤ 255) (hc : 0 ≤ c ∧ c ≤ 255) (hd : 0 ≤ d ∧ d ≤ 255) : Rd (w.alloc (.cells #[.int .u8 a, .int .u8 b, .int .u8 c, .int .u8 d] 5)) (some ⟨w.heap.size, 0, none⟩) [a, b, c, d] := by
  refine ⟨.inr ⟨w.heap.size, 0, rfl, by simp, fun i hi => ?_⟩, by simp only [List.mem_cons, List.mem_nil_iff, or_false]; omega⟩
  have : i = 0 ∨ i = 1 ∨ i = 2 ∨ i = 3 := by simp at hi; omega
  rcases this with rfl | rfl | rfl | rfl <;> simp [go_sem]
theorem cb_step (a b : ByteArray) (i : Nat) (ha : i < a.size) (hb : i < b.size) : Lib.compareBytes (a.data.toList.drop i) (b.data.toList.drop i) = if (a[i].toNat : Int) < (b[i].toNat : Int) then -1 else if (b[i].toNat : Int) < (a[i].toNat : Int) then 1 else Lib.compareBytes (a.data.toList.drop (i + 1)) (b.data.toList.drop (i + 1)) := by
  have ha' : i < a.data.toList.length := by simpa using ha
  have hb' : i < b.data.toList.length := by simpa using hb
  rw [List.drop_eq_getElem_cons ha', List.drop_eq_getElem_cons hb']
  have ea : a.data.toList[i] = a[i] := rfl
  have eb : b.data.toList[i] = b[i] := rfl
  rw [ea, eb]
  conv => lhs; unfold Lib.compareBytes
  have e1 : (a[i] < b[i]) = ((a[i].toNat : Int) < (b[i].toNat : Int)) := by rw [UInt8.lt_iff_toNat_lt]; exact propext (by omega)
  have e2 : (b[i] < a[i]) = ((b[i].toNat : Int) < (a[i].toNat : Int)) := by rw [UInt8.lt_iff_toNat_lt]; exact propext (by omega)
  simp only [e1, e2]
theorem cb_end (a b : ByteArray) (i : Nat) (h : ¬ (i < a.size ∧ i < b.size)) (hi : i ≤ a.size ∧ i ≤ b.size) : Lib.compareBytes (a.data.toList.drop i) (b.data.toList.drop i) = if (a.size : Int) < (b.size : Int) then -1 else if (b.size : Int) < (a.size : Int) then 1 else 0 := by
  by_cases h1 : i < a.size
  · have hb : b.size ≤ i := by omega
    rw [List.drop_eq_nil_of_le (show b.data.toList.length ≤ i by simpa using hb), List.drop_eq_getElem_cons (show i < a.data.toList.length by simpa using h1), if_neg (by omega), if_pos (by omega)]
    rfl
  · rw [List.drop_eq_nil_of_le (show a.data.toList.length ≤ i by simp; omega)]
    by_cases h2 : i < b.size
    · rw [List.drop_eq_getElem_cons (show i < b.data.toList.length by simpa using h2), if_pos (by omega)]
      rfl
    · rw [List.drop_eq_nil_of_le (show b.data.toList.length ≤ i by simp; omega), if_neg (by omega), if_neg (by omega)]
      rfl
end Go.Proofs.Ytfnpiknobmecbaa
