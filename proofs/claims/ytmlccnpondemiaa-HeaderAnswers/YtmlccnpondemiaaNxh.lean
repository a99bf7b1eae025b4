/- The program's names: their bytes, in room that was made ahead. -/
import Derived.Test.YtmlccnpondemiaaNxa
namespace Go.Proofs.Ytmlccnpondemiaa
open Go.ChangeShapes Go.WideShapes Go.ChangeAt Go.RowKit
set_option linter.unusedVariables false
set_option linter.unusedSimpArgs false








theorem src_bytes {w : World} {ao : Option Addr} {m c : Nat} {news : List Int} (hr : Rd w ao news) (hl : news.length = m) : Src Try.prog 1 30 (.slice ao m c) m (news.map (Value.int .u8)) w := by
  cases ao with
  | some x => exact Src.ofSlice w Try.underlying30 x m c _ (by simp [hl]) (rd_cells hr) (by intro u hu; simp at hu; obtain ⟨z, _, rfl⟩ := hu; rfl)
  | none =>
    have hn : news = [] := by
      rcases hr with ⟨rfl, _⟩ | ⟨b, o, h, _⟩
      · rfl
      · cases h
    subst hn
    subst hl
    exact Src.ofNil w Try.underlying30 c
theorem rd_all {w : World} {ao : Option Addr} {news : List Int} (hr : Rd w ao news) : ∀ z ∈ news, 0 ≤ z ∧ z ≤ 255 := by
  intro z hz
  obtain ⟨i, hi, rfl⟩ := List.getElem_of_mem hz
  have := hr.bd i
  rw [List.getD_eq_getElem?_getD, List.getElem?_eq_getElem hi] at this
  exact this
theorem wpList_append_fitB (w : World) {ops : Array Oper} {rest : List Oper} {o : Oper} {a : Act} {Q : Exit → Act → World → Prop} (hgd : o.guard = none) (s x : Operand)
    (ho : o.op = .call { callee := .builtin .append, args := #[s, x], argTypes := #[30, 30] }) (B : Nat) (v : Value) (n : Nat) (zs : List Int) (hs : a.eval s = v) (hown : Own B w v n zs)
    (ao : Option Addr) (m c : Nat) (news : List Int) (hx : a.eval x = .slice ao m c) (hr : Rd w ao news) (hl : news.length = m) (hb : n + m ≤ 140737488355328) (hB : B ≤ w.heap.size)
    (h : ∀ v' w' zs', Hid (Own B w' v' (n + m) zs') → Hid (zs'.take (n + m) = zs.take n ++ news) → w.grownBy w' v.ownBlock → Hid (n + m ≤ zs.length → zs'.length = zs.length) → wpList Try.prog ops Q rest (a.put o.dst v') w') : wpList Try.prog ops Q (o :: rest) a w := by
  refine wpList_append_row tyB w hgd s x 30 ho B v n (zs.map (Value.int .u8)) hs hown.toV (.slice ao m c) m (news.map (Value.int .u8)) hx (src_bytes hr hl) (by omega) (by simp only [maxLen]; omega) hB ?_
  intro v' w' xs' h1 h2 h3 h4
  obtain ⟨ys, rfl, hys⟩ := bytes_of xs' (h4.out.1 QB ⟨0, rfl, by omega, by omega⟩ (qb_map hown.all) (qb_map (rd_all hr)))
  refine h v' w' ys (h1.out.toOwn hys) ?_ h3 ?_
  · have h2' := h2.out
    rw [← List.map_take, ← List.map_take, ← List.map_append] at h2'
    exact int_inj h2'
  · have := h4.out.2
    rw [List.length_map, List.length_map] at this
    exact this
theorem wpList_append_fitS (w : World) {ops : Array Oper} {rest : List Oper} {o : Oper} {a : Act} {Q : Exit → Act → World → Prop} (hgd : o.guard = none) (s x : Operand)
    (ho : o.op = .call { callee := .builtin .append, args := #[s, x], argTypes := #[30, 9] }) (B : Nat) (v : Value) (n : Nat) (zs : List Int) (hs : a.eval s = v) (hown : Own B w v n zs)
    (t : ByteArray) (hx : a.eval x = .string t) (hb : n + t.size ≤ 140737488355328) (hB : B ≤ w.heap.size)
    (h : ∀ v' w' zs', Hid (Own B w' v' (n + t.size) zs') → Hid (zs'.take (n + t.size) = zs.take n ++ nums t) → w.grownBy w' v.ownBlock → Hid (n + t.size ≤ zs.length → zs'.length = zs.length) → wpList Try.prog ops Q rest (a.put o.dst v') w') : wpList Try.prog ops Q (o :: rest) a w := by
  refine wpList_append_row tyB w hgd s x 9 ho B v n (zs.map (Value.int .u8)) hs hown.toV (.string t) t.size (byteCells t) hx (Src.ofString w Try.underlying9 t) (by omega) (by simp only [maxLen]; omega) hB ?_
  intro v' w' xs' h1 h2 h3 h4
  obtain ⟨ys, rfl, hys⟩ := bytes_of xs' (h4.out.1 QB ⟨0, rfl, by omega, by omega⟩ (qb_map hown.all) (by rw [cells_nums]; exact qb_map (nums_all t)))
  refine h v' w' ys (h1.out.toOwn hys) ?_ h3 ?_
  · have h2' := h2.out
    rw [cells_nums, ← List.map_take, ← List.map_take, ← List.map_append] at h2'
    exact int_inj h2'
  · have := h4.out.2
    rw [List.length_map, List.length_map] at this
    exact this
end Go.Proofs.Ytmlccnpondemiaa
