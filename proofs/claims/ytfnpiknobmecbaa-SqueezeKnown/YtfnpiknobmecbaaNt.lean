/- Names, as the document has them: folded, their text, their bytes. -/
import Derived.Test.YtfnpiknobmecbaaNs
namespace Go.Proofs.Ytfnpiknobmecbaa
open Go.ChangeShapes Go.WideShapes Go.ChangeAt Go.RowKit
set_option linter.unusedVariables false
set_option linter.unusedSimpArgs false

/-- A label's text; the text of labels, a . behind each. -/
def tb (s : ByteArray) : ByteArray := ⟨(txt (tx (nums s))).toArray⟩
def ntxt (l : List ByteArray) : ByteArray := l.foldl (fun acc s => acc ++ tb s ++ ⟨#[46]⟩) ⟨#[]⟩
theorem ntxt_snoc (l : List ByteArray) (s : ByteArray) : ntxt (l ++ [s]) = ntxt l ++ tb s ++ ⟨#[46]⟩ := by simp [ntxt, List.foldl_append]
theorem tb_size (s : ByteArray) : (tb s).size ≤ 4 * s.size := by
  have := tx_len (nums s)
  rw [nums_len] at this
  show (txt (tx (nums s))).toArray.size ≤ _
  simp [txt]
  exact this
theorem ntxt_size (l : List ByteArray) : ∀ k, k ≤ l.length → (ntxt (l.take k)).size ≤ 4 * nsz l := by
  intro k
  induction k with
  | zero => intro _; exact Nat.zero_le _
  | succ k ih =>
    intro hk
    have hkl : k < l.length := by omega
    have h0 : ∀ j, j ≤ l.length → (ntxt (l.take j)).size ≤ 4 * nsz (l.take j) := by
      intro j
      induction j with
      | zero => intro _; exact Nat.zero_le _
      | succ j ihj =>
        intro hj
        have hjl : j < l.length := by omega
        rw [take_snocT l j hjl, ntxt_snoc, nsz_snoc, ByteArray.size_append, ByteArray.size_append]
        have := ihj (by omega)
        have := tb_size l[j]
        show _ + _ + 1 ≤ _
        omega
    have := h0 (k + 1) hk
    have := nsz_le l (k + 1)
    omega
/-- What Text answers. -/
def ntext (ss : List ByteArray) : ByteArray × Int := if nck ss = 0 then (if ss.length = 0 then (⟨#[46]⟩, 0) else (ntxt ss, 0)) else (⟨#[]⟩, nck ss)
theorem tyB : ElemTy Try.prog 27 5 (.int .u8 0) 1 := ⟨Try.underlying27, by kernel_rfl, rfl⟩
def QB (u : Value) : Prop := ∃ z : Int, u = .int .u8 z ∧ 0 ≤ z ∧ z ≤ 255
theorem bytes_of : ∀ xs : List Value, (∀ u ∈ xs, QB u) → ∃ zs : List Int, xs = zs.map (Value.int .u8) ∧ ∀ z ∈ zs, 0 ≤ z ∧ z ≤ 255
  | [], _ => ⟨[], rfl, by simp⟩
  | x :: xs, h => by
    obtain ⟨zs, e1, e2⟩ := bytes_of xs (fun u hu => h u (by simp [hu]))
    obtain ⟨z, rfl, hz⟩ := h x (by simp)
    refine ⟨z :: zs, by rw [e1]; rfl, fun q hq => ?_⟩
    rcases List.mem_cons.1 hq with rfl | hq
    · exact hz
    · exact e2 q hq
theorem qb_map {zs : List Int} (h : ∀ z ∈ zs, 0 ≤ z ∧ z ≤ 255) : ∀ u ∈ zs.map (Value.int .u8), QB u := by
  intro u hu
  simp only [List.mem_map] at hu
  obtain ⟨z, hz, rfl⟩ := hu
  exact ⟨z, rfl, h z hz⟩
theorem Own.all {B : Nat} {w : World} {v : Value} {n : Nat} {zs : List Int} (h : Own B w v n zs) : ∀ z ∈ zs, 0 ≤ z ∧ z ≤ 255 := by
  rcases h with ⟨_, _, rfl⟩ | ⟨g, _, _, hb, _⟩
  · simp
  · exact hb.2
theorem Own.toV {B : Nat} {w : World} {v : Value} {n : Nat} {zs : List Int} (h : Own B w v n zs) : OwnV B w 5 v n (zs.map (Value.int .u8)) := by
  rcases h with ⟨h1, h2, rfl⟩ | ⟨g, h1, h2, hb, h3, h4⟩
  · exact .inl ⟨h1, h2, rfl⟩
  · exact .inr ⟨g, by rw [List.length_map]; exact h1, h2, hb.1, by rw [List.length_map]; exact h3, by rw [List.length_map]; exact h4⟩
theorem OwnV.toOwn {B : Nat} {w : World} {v : Value} {n : Nat} {zs : List Int} (h : OwnV B w 5 v n (zs.map (Value.int .u8))) (hz : ∀ z ∈ zs, 0 ≤ z ∧ z ≤ 255) : Own B w v n zs := by
  rcases h with ⟨h1, h2, h3⟩ | ⟨g, h1, h2, hb, h3, h4⟩
  · exact .inl ⟨h1, h2, by simpa using h3⟩
  · rw [List.length_map] at h1 h3 h4
    exact .inr ⟨g, h1, h2, ⟨hb, hz⟩, h3, h4⟩
theorem int_inj : ∀ {a b : List Int}, a.map (Value.int .u8) = b.map (Value.int .u8) → a = b
  | [], [], _ => rfl
  | [], _ :: _, h => by simp at h
  | _ :: _, [], h => by simp at h
  | x :: a, y :: b, h => by
    simp only [List.map_cons, List.cons.injEq, Value.int.injEq, true_and] at h
    rw [h.1, int_inj (a := a) (b := b) h.2]
theorem cells_nums (t : ByteArray) : byteCells t = (nums t).map (Value.int .u8) := by
  simp [byteCells, nums]
/-- A text's bytes appended. -/
theorem wpList_append_str (w : World) {ops : Array Oper} {rest : List Oper} {o : Oper} {a : Act} {Q : Exit → Act → World → Prop} (hgd : o.guard = none) (s x : Operand)
    (ho : o.op = .call { callee := .builtin .append, args := #[s, x], argTypes := #[27, 9] }) (B : Nat) (v : Value) (n : Nat) (zs : List Int) (hs : a.eval s = v) (hown : Own B w v n zs)
    (t : ByteArray) (hx : a.eval x = .string t) (hb : n + t.size ≤ 140737488355328) (hB : B ≤ w.heap.size)
    (h : ∀ v' w' zs', Hid (Own B w' v' (n + t.size) zs') → Hid (zs'.take (n + t.size) = zs.take n ++ nums t) → w.grownBy w' v.ownBlock → wpList Try.prog ops Q rest (a.put o.dst v') w') : wpList Try.prog ops Q (o :: rest) a w := by
  refine wpList_append_row tyB w hgd s x 9 ho B v n (zs.map (Value.int .u8)) hs hown.toV (.string t) t.size (byteCells t) hx (Src.ofString w Try.underlying9 t) (by omega) (by simp only [maxLen]; omega) hB ?_
  intro v' w' xs' h1 h2 h3 h4
  obtain ⟨ys, rfl, hys⟩ := bytes_of xs' (h4.out.1 QB ⟨0, rfl, by omega, by omega⟩ (qb_map hown.all) (by rw [cells_nums]; exact qb_map (nums_all t)))
  refine h v' w' ys (h1.out.toOwn hys) ?_ h3
  have h2' := h2.out
  rw [cells_nums, ← List.map_take, ← List.map_take, ← List.map_append] at h2'
  exact int_inj h2'
/-- The bytes of labels, each with its length ahead. -/
def nby (l : List ByteArray) : List Int := l.flatMap fun s => (s.size : Int) :: nums s
theorem nby_snoc (l : List ByteArray) (s : ByteArray) : nby (l ++ [s]) = nby l ++ [(s.size : Int)] ++ nums s := by simp [nby]
theorem nby_len (l : List ByteArray) : (nby l).length + 1 = nsz l := by
  induction l with
  | nil => simp [nby, nsz]
  | cons x l ih => simp only [nby, List.flatMap_cons, List.length_append, List.length_cons, nums_len, nsz] at ih ⊢; omega
def nbytes (ss : List ByteArray) : List Int × Int := if nck ss = 0 then (nby ss ++ [0], 0) else ([], nck ss)
end Go.Proofs.Ytfnpiknobmecbaa
