/- Without any program: a joined text without its last line's end, cut at its line's ends, is the entries' lines; how long a noisy text is. -/
import Derived.Test.YtgdkeafjglcgaaaDoorNa
import Derived.Test.YtgdkeafjglcgaaaDoorScc
import Derived.Lib.Split
import Derived.Lib.SplitLaws
namespace Go.Proofs.YtgdkeafjglcgaaaDoor
open Go Go.Lib
set_option linter.unusedVariables false
set_option linter.unusedSimpArgs false

theorem index_no (c : UInt8) (l : List UInt8) (h : c ∉ l) : index l [c] = -1 := by
  induction l with
  | nil => rfl
  | cons b l ih =>
    simp only [List.mem_cons, not_or] at h
    unfold index
    rw [ih h.2, if_neg (by simp [List.isPrefixOf]; exact h.1)]
    rfl
theorem index_at (c : UInt8) (p r : List UInt8) (h : c ∉ p) : index (p ++ c :: r) [c] = p.length := by
  induction p with
  | nil => simp [index, List.isPrefixOf]
  | cons b p ih =>
    simp only [List.mem_cons, not_or] at h
    rw [List.cons_append, index.eq_def]
    simp only
    rw [ih h.2, if_neg (by simp [List.isPrefixOf]; exact h.1)]
    have e : ((p.length : Int) == -1) = false := by rw [beq_eq_false_iff_ne]; omega
    simp [e]
/-- Lines, a line's end between each two. -/
def lnsT : List (List UInt8) → List UInt8
  | [] => []
  | [a] => a
  | a :: b :: r => a ++ 10 :: lnsT (b :: r)
theorem split_lns : ∀ (ls : List (List UInt8)) (a : List UInt8), (∀ l ∈ a :: ls, (10 : UInt8) ∉ l) → splitK [10] 0 (count (lnsT (a :: ls)) [10]) (lnsT (a :: ls)) = a :: ls
  | [], a, h => by
    have h10 : (10 : UInt8) ∉ a := h a (by simp)
    simp only [lnsT]
    rw [count_one, List.count_eq_zero.2 h10]; rfl
  | b :: r, a, h => by
    have h10 : (10 : UInt8) ∉ a := h a (by simp)
    have ih := split_lns r b (fun l hl => h l (by simp [hl]))
    rw [count_one] at ih
    simp only [lnsT]
    rw [count_one, List.count_append, List.count_eq_zero.2 h10, List.count_cons_self, Nat.zero_add, splitK, index_at 10 a _ h10]
    have em : ((a.length : Int) == -1) = false := by rw [beq_eq_false_iff_ne]; omega
    have e0 : (a ++ 10 :: lnsT (b :: r)).drop (a.length + [(10 : UInt8)].length) = lnsT (b :: r) := by
      rw [List.drop_append]; simp
    rw [em]
    simp only [Bool.false_eq_true, if_false, Int.toNat_natCast, Nat.add_zero]
    rw [e0, ih]
    simp [List.take_append]
theorem join_lns : ∀ (es : List En) (e : En), joinT (e :: es) = lnsT ((e :: es).map lnTxt) ++ [10]
  | [], e => by simp [joinT, enTxt, lnsT, lnTxt]
  | f :: r, e => by
    have ih := join_lns r f
    have h1 : joinT (e :: f :: r) = enTxt e ++ joinT (f :: r) := rfl
    rw [h1, ih]
    simp [enTxt, lnsT, lnTxt]
theorem bw_no10 (t : List UInt8) : ∀ e : Bool, bwS e t = true → (10 : UInt8) ∉ t := by
  induction t with
  | nil => intro e _ h; cases h
  | cons c r ih =>
    intro e h hm
    cases e with
    | true =>
      simp only [bwS, Bool.and_eq_true, bne_iff_ne] at h
      rcases List.mem_cons.1 hm with e | hm
      · exact h.1 e.symm
      · exact ih false h.2 hm
    | false =>
      unfold bwS at h
      split at h
      · rename_i h92
        rcases List.mem_cons.1 hm with e | hm
        · subst h92; cases e
        · exact ih true h hm
      · simp only [Bool.and_eq_true, Bool.not_eq_true'] at h
        rcases List.mem_cons.1 hm with e | hm
        · exact (ends_not h.1.1).1 e.symm
        · exact ih false h.2 hm
theorem qw_no10 (t : List UInt8) : ∀ e : Bool, qwS e t = true → (10 : UInt8) ∉ t := by
  induction t with
  | nil => intro e _ h; cases h
  | cons c r ih =>
    intro e h hm
    cases e with
    | true =>
      simp only [qwS, Bool.and_eq_true, bne_iff_ne] at h
      rcases List.mem_cons.1 hm with e | hm
      · exact h.1 e.symm
      · exact ih false h.2 hm
    | false =>
      unfold qwS at h
      split at h
      · rename_i h92
        rcases List.mem_cons.1 hm with e | hm
        · subst h92; cases e
        · exact ih true h hm
      · simp only [Bool.and_eq_true, bne_iff_ne] at h
        rcases List.mem_cons.1 hm with e | hm
        · exact h.1.1 e.symm
        · exact ih false h.2 hm
theorem wd_no10 {w : Wd} (h : goodW w = true) : (10 : UInt8) ∉ wtxt w := by
  obtain ⟨t, b⟩ := w
  unfold goodW at h
  unfold wtxt
  cases b with
  | true =>
    simp only [if_true] at h ⊢
    have := qw_no10 _ _ h
    simp only [List.mem_cons, List.mem_append, List.not_mem_nil, or_false, not_or]
    exact ⟨by decide, this, by decide⟩
  | false =>
    simp only [Bool.false_eq_true, if_false, Bool.and_eq_true] at h ⊢
    exact bw_no10 _ _ h.2
theorem ws_no10 : ∀ ws : List Wd, (∀ w ∈ ws, goodW w = true) → (10 : UInt8) ∉ wsTxt ws
  | [], _ => by simp [wsTxt]
  | [w], h => by simp only [wsTxt]; exact wd_no10 (h w (by simp))
  | w :: v :: r, h => by
    simp only [wsTxt, List.mem_append, List.mem_cons, not_or]
    exact ⟨wd_no10 (h w (by simp)), by decide, ws_no10 (v :: r) (fun x hx => h x (by simp [hx]))⟩
theorem ln_no10 {e : En} (h : okE e) : (10 : UInt8) ∉ lnTxt e := by
  have := ws_no10 e.ws h.2.2
  unfold lnTxt
  cases e.blank <;> simp [this]
theorem split_join {es : List En} (h : ∀ e ∈ es, okE e) (hn : es ≠ []) (t : ByteArray) (ht : t.data.toList = joinT es) (t2 : ByteArray) (ht2 : t2.data.toList = trimSuffix t.data.toList [10]) :
    (splitB ⟨#[10]⟩ 0 (countB t2 ⟨#[10]⟩) t2).map (·.data.toList) = es.map lnTxt := by
  cases es with
  | nil => exact absurd rfl hn
  | cons e es =>
    rw [ht, join_lns] at ht2
    have hs : trimSuffix (lnsT ((e :: es).map lnTxt) ++ [10]) [10] = lnsT ((e :: es).map lnTxt) := by
      unfold trimSuffix
      have : hasSuffix (lnsT ((e :: es).map lnTxt) ++ [10]) [10] = true := by simp [hasSuffix]
      rw [this]
      simp
    rw [hs] at ht2
    have hd : (⟨#[10]⟩ : ByteArray).data.toList = [10] := rfl
    rw [splitB_data, hd, ht2]
    have hc : countB t2 ⟨#[10]⟩ = count (lnsT ((e :: es).map lnTxt)) [10] := by
      unfold countB; rw [ht2, hd]
    rw [hc]
    exact split_lns (es.map lnTxt) (lnTxt e) (fun l hl => by
      obtain ⟨x, hx, rfl⟩ := List.mem_map.1 (by simpa using hl : l ∈ (e :: es).map lnTxt)
      exact ln_no10 (h x hx))
/-- How many letters all words hold. -/
def lsz (es : List En) : Nat := (es.map fun e => (e.ws.map fun w => w.1.size).sum).sum
theorem ws_len : ∀ ws : List Wd, (wsTxt ws).length ≤ 3 * ws.length + (ws.map fun w => w.1.size).sum
  | [] => by simp [wsTxt]
  | [w] => by
    have := wtxt_len w
    simp only [wsTxt, List.map_cons, List.map_nil, List.sum_cons, List.sum_nil, List.length_cons, List.length_nil]
    unfold wsz at this
    split at this <;> omega
  | w :: v :: r => by
    have h1 := wtxt_len w
    have ih := ws_len (v :: r)
    simp only [wsTxt, List.map_cons, List.sum_cons, List.length_cons, List.length_append] at ih ⊢
    unfold wsz at h1
    split at h1 <;> omega
theorem noise_len (rm : List UInt8) (e : En) : (noise rm e).length ≤ 20 + 2 * rm.length + 3 * e.ws.length + (e.ws.map fun w => w.1.size).sum := by
  have := ws_len e.ws
  unfold noise lnTxt
  cases e.blank <;> simp <;> omega
theorem noisy_len (rm : List UInt8) (hr : rm.length ≤ 300) : ∀ es : List En, (∀ e ∈ es, okE e) → (noisyT rm es).length ≤ 812 * es.length + lsz es
  | [], _ => by simp [noisyT]
  | e :: es, h => by
    have ih := noisy_len rm hr es (fun x hx => h x (by simp [hx]))
    have h1 := noise_len rm e
    have h2 := (h e (by simp)).2.1
    have h3 : noisyT rm (e :: es) = noise rm e ++ noisyT rm es := rfl
    rw [h3]
    simp only [lsz, List.length_append, List.length_cons, List.map_cons, List.sum_cons] at ih ⊢
    omega
theorem noisy_fits {rm : List UInt8} {es : List En} (hr : rm.length ≤ 300) (h : ∀ e ∈ es, okE e) (hn : es.length ≤ 30) (hl : lsz es ≤ 2000) : (noisyT rm es).length ≤ 65536 := by
  have := noisy_len rm hr es h
  omega
end Go.Proofs.YtgdkeafjglcgaaaDoor
