/- Where the tails of a name's bytes begin. -/
import Derived.Test.YtfnpiknobmecbaaSqb
namespace Go.Proofs.Ytfnpiknobmecbaa
set_option linter.unusedVariables false
set_option linter.unusedSimpArgs false

/-- Where the label k begins. -/
def offs (ss : List ByteArray) (k : Nat) : Nat := (nby (ss.take k)).length
theorem offs_zero (ss : List ByteArray) : offs ss 0 = 0 := by simp [offs, nby]
theorem offs_succ (ss : List ByteArray) (k : Nat) (h : k < ss.length) : offs ss (k + 1) = offs ss k + 1 + ss[k].size := by
  unfold offs
  rw [take_snocT ss k h, nby_snoc]
  simp [nums_len]
  omega
theorem nby_split (ss : List ByteArray) (k : Nat) : nby ss = nby (ss.take k) ++ nby (ss.drop k) := by
  conv => lhs; rw [← List.take_append_drop k ss]
  unfold nby
  rw [List.flatMap_append]
theorem offs_le (ss : List ByteArray) (k : Nat) : offs ss k + 1 ≤ nsz ss := by
  have := nby_len (ss.take k)
  have := nsz_le ss k
  unfold offs; omega
theorem offs_all (ss : List ByteArray) : offs ss ss.length + 1 = nsz ss := by
  unfold offs; rw [List.take_of_length_le (Nat.le_refl _)]; exact nby_len ss
theorem qkey_size (ss : List ByteArray) : (qkey ss).size = nsz ss := by
  unfold qkey; rw [lb_size]; have := nby_len ss; simp; omega
theorem qkey_nums (ss : List ByteArray) (h : labsOk ss) : nums (qkey ss) = nby ss ++ [0] := nums_lb _ (nby_bd ss h)
theorem qkey_at (ss : List ByteArray) (h : labsOk ss) (k : Nat) (hk : k < ss.length) : (nums (qkey ss)).getD (offs ss k) 0 = (ss[k].size : Int) := by
  rw [qkey_nums ss h, nby_split ss k, List.append_assoc]
  unfold offs
  rw [List.getD_eq_getElem?_getD, List.getElem?_append_right (Nat.le_refl _), Nat.sub_self]
  rw [show ss.drop k = ss[k] :: ss.drop (k + 1) from (List.drop_eq_getElem_cons hk)]
  unfold nby
  rw [List.flatMap_cons]
  rfl
theorem qkey_end (ss : List ByteArray) (h : labsOk ss) : (nums (qkey ss)).getD (offs ss ss.length) 0 = 0 := by
  rw [qkey_nums ss h]
  unfold offs
  rw [List.take_of_length_le (Nat.le_refl _), List.getD_eq_getElem?_getD, List.getElem?_append_right (Nat.le_refl _), Nat.sub_self]
  rfl
theorem nums_inj9 {a b : ByteArray} (h : nums a = nums b) : a = b := by rw [← lb_nums a, ← lb_nums b, h]
theorem qkey_tail (ss : List ByteArray) (h : labsOk ss) (k : Nat) : (qkey ss).extract (offs ss k) (qkey ss).size = qkey (ss.drop k) := by
  have hd : labsOk (ss.drop k) := fun x hx => h x (List.mem_of_mem_drop hx)
  apply nums_inj9
  rw [qkey_nums _ hd, nums_extract, qkey_nums ss h, nby_split ss k, List.append_assoc]
  unfold offs
  rw [List.drop_append_of_le_length (Nat.le_refl _), List.drop_length, List.nil_append]
end Go.Proofs.Ytfnpiknobmecbaa
