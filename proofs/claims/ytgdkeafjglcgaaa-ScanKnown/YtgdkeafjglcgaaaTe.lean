/- Lines of entries that are written one by one; what is read is short. -/
import Derived.Test.YtgdkeafjglcgaaaTd
import Derived.Test.YtgdkeafjglcgaaaTa
namespace Go.Proofs.Ytgdkeafjglcgaaa
open Go.ChangeShapes Go.WideShapes Go.ChangeAt Go.RowKit
set_option linter.unusedVariables false
set_option linter.unusedSimpArgs false

/-- As the entries es, the first k with lines f. -/
def Mix (f : Nat → Int) (es l : List En) (k : Nat) : Prop := l.length = es.length ∧ ∀ i (h1 : i < l.length) (h2 : i < es.length), l[i].blank = es[i].blank ∧ l[i].ws = es[i].ws ∧ (i < k → l[i].line = f i)
theorem Mix.start (f : Nat → Int) (es : List En) : Mix f es es 0 := ⟨rfl, fun i _ _ => ⟨rfl, rfl, fun h => by omega⟩⟩
theorem Mix.startC (f : Nat → Int) (es : List En) : Mix f es (counted 1 es) 0 := by
  refine ⟨counted_len es 1, fun i h1 h2 => ?_⟩
  rw [counted_get es 1 i h1]
  exact ⟨rfl, rfl, fun h => by omega⟩
theorem Mix.step {f : Nat → Int} {es l : List En} {k : Nat} (h : Mix f es l k) (hk : k < l.length) : Mix f es (l.set k ⟨f k, l[k].blank, l[k].ws⟩) (k + 1) := by
  refine ⟨by rw [List.length_set]; exact h.1, fun i h1 h2 => ?_⟩
  have h1' : i < l.length := by rw [List.length_set] at h1; exact h1
  obtain ⟨a, b, c⟩ := h.2 i h1' h2
  rw [List.getElem_set]
  by_cases e : k = i
  · subst e; rw [if_pos rfl]; exact ⟨a, b, fun _ => rfl⟩
  · rw [if_neg e]; exact ⟨a, b, fun hi => c (by omega)⟩
theorem Mix.done_counted {es l : List En} {k : Nat} (h : Mix (fun i => ((i + 1 : Nat) : Int)) es l k) (hk : es.length ≤ k) : l = counted 1 es := by
  refine List.ext_getElem (by rw [counted_len, h.1]) fun i h1 h2 => ?_
  have h3 : i < es.length := by rw [← h.1]; exact h1
  obtain ⟨a, b, c⟩ := h.2 i h1 h3
  rw [counted_get es 1 i h2]
  cases hl : l[i] with
  | mk ln bl ws =>
    rw [hl] at a b c
    simp only at a b c
    rw [a, b, c (by omega)]
    congr 1; omega
theorem Mix.done_same {es l : List En} {k : Nat} (h : Mix (fun i => ((es.map (·.line)).getD i 0)) es l k) (hk : es.length ≤ k) : l = es := by
  refine List.ext_getElem h.1 fun i h1 h2 => ?_
  obtain ⟨a, b, c⟩ := h.2 i h1 h2
  have c2 : l[i].line = (es.map (·.line)).getD i 0 := c (by omega)
  rw [List.getD_eq_getElem?_getD, List.getElem?_map, List.getElem?_eq_getElem h2] at c2
  simp at c2
  cases hl : l[i] with
  | mk ln bl ws =>
    rw [hl] at a b c2
    simp only at a b c2
    rw [a, b, c2]
theorem line_at {es : List En} {k : Nat} (h : k < es.length) : (es.map (·.line)).getD k 0 = es[k].line := by
  rw [List.getD_eq_getElem?_getD, List.getElem?_map, List.getElem?_eq_getElem h]; rfl
theorem word_le {es : List En} {e : En} (he : e ∈ es) {v : Wd} (hv : v ∈ e.ws) : v.1.size ≤ esum es := by
  have h1 : (wtxt v).length ≤ wsum e.ws := by
    unfold wsum
    generalize e.ws = ws at hv
    induction ws with
    | nil => cases hv
    | cons a ws ih =>
      simp only [List.map_cons, List.sum_cons]
      rcases List.mem_cons.1 hv with rfl | hv
      · omega
      · have := ih hv; omega
  have h2 : wsum e.ws ≤ esum es := by
    unfold esum
    clear h1
    induction es with
    | nil => cases he
    | cons a es ih =>
      simp only [List.map_cons, List.sum_cons]
      rcases List.mem_cons.1 he with rfl | he
      · omega
      · have := ih he; omega
  have h3 := wsz_sz v
  rw [← wtxt_len] at h3
  omega
theorem ents_words {s : List UInt8} {es : List En} (h : entsF s = .ok es) : ∀ e ∈ es, ∀ v ∈ e.ws, v.1.size ≤ s.length := fun e he v hv => by
  have := word_le he hv
  have := (ents_ok h).2
  omega
theorem OwE.blk {B n c g : Nat} {w : World} {es : List En} (h : OwE B w (.slice (some ⟨g, 0, none⟩) n c) es) : ∃ cur, w.heap[g]? = some (.cells cur 25 (0, 0)) := by
  obtain ⟨ps, _, h2, _⟩ := h
  exact row_type h2 g rfl
theorem OwE.le' {B : Nat} {w : World} {a : Option Addr} {n c : Nat} {es : List En} (h : OwE B w (.slice a n c) es) : LE w ⟨a, n, c⟩ es := by
  obtain ⟨x, hx, h2⟩ := h.le
  cases x; simp only [Value.slice.injEq] at hx; obtain ⟨rfl, rfl, rfl⟩ := hx; exact h2
end Go.Proofs.Ytgdkeafjglcgaaa
