/- Which line a fault tells; entries that are joined. No text of the program is used here. -/
import Derived.Test.YtgdkeafjglcgaaaDoorScb
namespace Go.Proofs.YtgdkeafjglcgaaaDoor
set_option linter.unusedVariables false
set_option linter.unusedSimpArgs false


theorem cnt10_app (a b : List UInt8) : cnt10 (a ++ b) = cnt10 a + cnt10 b := by
  induction a with
  | nil => simp [cnt10]
  | cons c a ih => simp [cnt10, ih]; omega
theorem cnt10_last {s : List UInt8} (h : s.getLast? = some 10) : 1 ≤ cnt10 s := by
  obtain ⟨t, rfl⟩ : ∃ t, s = t ++ [10] := by
    have := List.getLast?_eq_some_iff.1 h
    exact this
  rw [cnt10_app]; simp [cnt10]
theorem lines_app (p : List UInt8) (c : UInt8) (r : List UInt8) : cnt10 p + 1 ≤ linesF (p ++ c :: r) := by
  unfold linesF
  have hl : (p ++ c :: r).getLast? = (c :: r).getLast? := by
    rw [List.getLast?_append]
    cases hx : (c :: r).getLast? with
    | none => simp at hx
    | some v => rfl
  rw [cnt10_app, hl]
  by_cases h : (c :: r).getLast? = some 10
  · have := cnt10_last h; omega
  · have h0 : ¬ (c :: r).getLast? = none := by simp
    rw [if_neg (by simp only [not_or]; exact ⟨h0, h⟩)]; omega
theorem lines_le (s : List UInt8) : linesF s ≤ s.length + 1 := by
  have : ∀ l : List UInt8, cnt10 l ≤ l.length := by
    intro l; induction l with
    | nil => simp [cnt10]
    | cons c l ih => simp [cnt10]; split <;> omega
  unfold linesF; have := this s; split <;> omega
/-- What holds of lines. -/
structure Lv (q : Cf) (p : List UInt8) : Prop where
  ln : q.line = cnt10 p + 1
  nl : p.getLast? = some 10 → q.st = 0
  st : p = [] → q.st = 0 ∧ q.op = 0
theorem out_line {q q' : Cf} {c : UInt8} {r : List UInt8} (h : outF q c r = some q') : q'.line = q.line + (if c = 10 then 1 else 0) ∧ (c = 10 → q'.st = 0) := by
  unfold outF at h
  split at h
  · rename_i hc; cases h; subst hc; simp
  · split at h
    · rename_i hc; cases h; subst hc; simp
    · split at h
      · rename_i hc
        split at h
        · cases h
        · cases h; subst hc; simp
      · split at h
        · rename_i hc
          split at h
          · cases h; subst hc; simp [beginF, closeF]
          · cases h; subst hc; simp
        · rename_i hc; cases h; simp [hc]
theorem keep_line {q q' : Cf} {b : Bool} (h : keepF q b = some q') : q'.line = q.line := by
  unfold keepF at h; split at h
  · cases h
  · cases h; rfl
theorem step_line {q q' : Cf} {c : UInt8} {r : List UInt8} (hs : stepF q c r = .ok q') : q'.line = q.line + (if c = 10 then 1 else 0) ∧ (c = 10 → q'.st = 0) := by
  unfold stepF at hs
  split at hs
  · cases hs
  · rename_i h10
    split at hs
    · unfold firstF at hs
      split at hs
      · exact out_line (outR_ok hs)
      · rename_i he
        have hc := (ends_not (by simpa using he)).1
        split at hs
        · cases hs; simp [hc]
        · split at hs
          · cases hs; simp [hc]
          · cases hs; simp [hc]
    · split at hs
      · unfold nextF at hs
        split at hs
        · split at hs
          · cases hs
          · rename_i q1 hk
            have := out_line (outR_ok hs)
            rw [keep_line hk] at this
            exact this
        · rename_i he
          have hc := (ends_not (by simpa using he)).1
          split at hs
          · cases hs
          · split at hs
            · cases hs; simp [hc]
            · cases hs; simp [hc]
      · split at hs
        · rename_i h2
          have hc : ¬ c = 10 := fun e => h10 ⟨e, .inr (.inl h2)⟩
          cases hs; simp [hc]
        · split at hs
          · rename_i h3
            have hc : ¬ c = 10 := fun e => h10 ⟨e, .inl h3⟩
            unfold quotF at hs
            split at hs
            · split at hs
              · cases hs
              · rename_i q1 hk
                cases hs; simp [hc, keep_line hk]
            · split at hs
              · cases hs; simp [hc]
              · cases hs; simp [hc]
          · split at hs
            · rename_i h4
              have hc : ¬ c = 10 := fun e => h10 ⟨e, .inr (.inr h4)⟩
              cases hs; simp [hc]
            · split at hs
              · split at hs
                · exact out_line (outR_ok hs)
                · cases hs
              · split at hs
                · exact out_line (outR_ok hs)
                · rename_i hc; cases hs; simp [hc]
theorem Lv.step {q q' : Cf} {p : List UInt8} {c : UInt8} {r : List UInt8} (h : Lv q p) (hs : stepF q c r = .ok q') : Lv q' (p ++ [c]) := by
  obtain ⟨a, b⟩ := step_line hs
  refine ⟨by rw [a, h.ln, cnt10_app]; simp [cnt10]; omega, fun e => ?_, by simp⟩
  simp at e; exact b e
theorem step_er {q : Cf} {c : UInt8} {r : List UInt8} {e : Nat} (hs : stepF q c r = .er e) : e = 230 ∨ e = 3 := by
  have ho : ∀ q, outR q c r = .er e → e = 230 := by
    intro q h; unfold outR at h; split at h <;> cases h; rfl
  unfold stepF at hs
  split at hs
  · cases hs; exact .inl rfl
  · split at hs
    · unfold firstF at hs
      split at hs
      · exact .inl (ho _ hs)
      · split at hs
        · cases hs
        · split at hs <;> cases hs
    · split at hs
      · unfold nextF at hs
        split at hs
        · split at hs
          · cases hs; exact .inr rfl
          · exact .inl (ho _ hs)
        · split at hs
          · cases hs; exact .inl rfl
          · split at hs <;> cases hs
      · split at hs
        · cases hs
        · split at hs
          · unfold quotF at hs
            split at hs
            · split at hs
              · cases hs; exact .inr rfl
              · cases hs
            · split at hs <;> cases hs
          · split at hs
            · cases hs
            · split at hs
              · split at hs
                · exact .inl (ho _ hs)
                · cases hs; exact .inl rfl
              · split at hs
                · exact .inl (ho _ hs)
                · cases hs
theorem go_er (s : List UInt8) (r : List UInt8) : ∀ {q : Cf} {p : List UInt8} {e l : Nat}, Lv q p → s = p ++ r → goF (linesF s) q r = .er e l → (e = 230 ∨ e = 3) ∧ 1 ≤ l ∧ l ≤ linesF s := by
  induction r with
  | nil =>
    intro q p e l h hs hg
    rw [List.append_nil] at hs; subst hs
    have hne : ∀ (hx : s ≠ []), 1 ≤ linesF s := by
      intro hx
      cases s with
      | nil => exact absurd rfl hx
      | cons c r => have := lines_app [] c r; simpa [cnt10] using this
    rw [goF] at hg
    unfold finF at hg
    split at hg
    · rename_i hq
      cases hg
      exact ⟨.inl rfl, hne (fun e => by have := (h.st e).1; omega), Nat.le_refl _⟩
    · split at hg
      · rename_i h1
        have hx : s ≠ [] := fun e => by have := (h.st e).1; omega
        split at hg
        · cases hg
          refine ⟨.inr rfl, by rw [h.ln]; omega, ?_⟩
          rw [h.ln]
          unfold linesF
          rw [if_neg]
          · omega
          · simp only [not_or]
            exact ⟨by simpa using hx, fun e => by have := h.nl e; omega⟩
        · split at hg
          · cases hg; exact ⟨.inl rfl, hne hx, Nat.le_refl _⟩
          · cases hg
      · split at hg
        · rename_i h0
          cases hg
          exact ⟨.inl rfl, hne (fun e => by have := (h.st e).2; omega), Nat.le_refl _⟩
        · cases hg
  | cons c r ih =>
    intro q p e l h hs hg
    rw [goF] at hg
    split at hg
    · rename_i e1 h1
      cases hg
      have := lines_app p c r
      rw [← hs] at this
      rw [h.ln]
      exact ⟨step_er h1, by omega, this⟩
    · rename_i q1 h1
      exact ih (h.step h1) (by rw [hs]; simp) hg
theorem ents_er {s : List UInt8} {e l : Nat} (hl : s.length ≤ 65536) (h : entsF s = .er e l) : (e = 230 ∨ e = 3) ∧ 1 ≤ l ∧ l ≤ linesF s := by
  unfold entsF at h
  rw [if_neg (by omega)] at h
  exact go_er s s (q := q0 s) (p := []) ⟨by simp [q0, cnt10], by simp, by simp [q0]⟩ (by simp) h
/-- Entries joined. -/
def wsz (w : Wd) : Nat := if w.2 then w.1.size + 2 else w.1.size
theorem wtxt_len (w : Wd) : (wtxt w).length = wsz w := by
  unfold wtxt wsz; split <;> simp
def esz (e : En) : Nat := e.ws.length + (if e.blank then 1 else 0) + (e.ws.map wsz).sum
def tsz (l : List En) : Nat := (l.map esz).sum
def joinErr (l : List En) : Int :=
  if !(l.all fun e => e.ws.all fun w => decide (wsz w ≤ 65536)) then 3
  else if (l.any fun e => e.ws.isEmpty) || !(l.all fun e => e.ws.all fun w => goodW w) then 230
  else if (l.any fun e => decide (64 < e.ws.length)) || decide (65536 < tsz l) then 3
  else 0
def joinB (l : List En) : List UInt8 := if joinErr l = 0 then joinT l else []
theorem join_ok {l : List En} (h : joinErr l = 0) : (∀ e ∈ l, okE e) ∧ tsz l ≤ 65536 := by
  unfold joinErr at h
  split at h
  · cases h
  · split at h
    · cases h
    · rename_i h2
      split at h
      · cases h
      · rename_i h3
        simp at h2 h3
        refine ⟨fun e he => ⟨h2.1 e he, h3.1 e he, fun w hw => by
          obtain ⟨b, k⟩ := w
          have := h2.2 e he b
          cases k with
          | true => exact this.2 hw
          | false => exact this.1 hw⟩, h3.2⟩
theorem wsTxt_len (ws : List Wd) : ws ≠ [] → (wsTxt ws).length + 1 = ws.length + (ws.map wsz).sum := by
  induction ws with
  | nil => intro h; exact absurd rfl h
  | cons w ws ih =>
    intro _
    cases ws with
    | nil => simp [wsTxt, wtxt_len]; omega
    | cons v ws =>
      have := ih (by simp)
      simp [wsTxt, wtxt_len] at this ⊢; omega
theorem enTxt_len {e : En} (h : e.ws ≠ []) : (enTxt e).length = esz e := by
  have := wsTxt_len e.ws h
  unfold enTxt esz
  cases e.blank <;> simp <;> omega
theorem joinT_len {l : List En} (h : ∀ e ∈ l, okE e) : (joinT l).length = tsz l := by
  induction l with
  | nil => rfl
  | cons e l ih =>
    have := ih (fun x hx => h x (by simp [hx]))
    have h2 := enTxt_len (h e (by simp)).1
    simp only [joinT, List.flatMap_cons, List.length_append, tsz, List.map_cons, List.sum_cons] at this ⊢
    rw [h2]; omega
theorem join_back {l : List En} (h : joinErr l = 0) : entsF (joinB l) = .ok (counted 1 l) := by
  have ⟨h1, h2⟩ := join_ok h
  unfold joinB; rw [if_pos h]
  exact ents_join l h1 (by rw [joinT_len h1]; exact h2)
theorem wsum_ge {ws : List Wd} (h : ∀ w ∈ ws, goodW w = true) : ws.length ≤ wsum ws ∧ (ws.map wsz).sum = wsum ws := by
  induction ws with
  | nil => simp [wsum]
  | cons w ws ih =>
    obtain ⟨i1, i2⟩ := ih (fun x hx => h x (by simp [hx]))
    obtain ⟨c, r, e1, _⟩ := goodW_first (h w (by simp))
    have : 1 ≤ (wtxt w).length := by rw [e1]; simp
    have e2 := wtxt_len w
    simp only [wsum, List.map_cons, List.sum_cons, List.length_cons] at i1 i2 ⊢
    rw [i2, e2]; omega
theorem tsz_le {l : List En} (h : ∀ e ∈ l, okE e) : tsz l ≤ 3 * esum l := by
  induction l with
  | nil => simp [tsz, esum]
  | cons e l ih =>
    have i := ih (fun x hx => h x (by simp [hx]))
    obtain ⟨h1, h2, h3⟩ := h e (by simp)
    obtain ⟨w1, w2⟩ := wsum_ge h3
    have : 1 ≤ e.ws.length := List.length_pos_iff.2 h1
    simp only [tsz, esum, List.map_cons, List.sum_cons] at i ⊢
    have hb : (if e.blank then 1 else 0) ≤ 1 := by split <;> omega
    have he : esz e = e.ws.length + (if e.blank then 1 else 0) + (e.ws.map wsz).sum := rfl
    rw [he]
    omega
theorem wsz_le {ws : List Wd} {w : Wd} (h : w ∈ ws) : wsz w ≤ (ws.map wsz).sum := by
  induction ws with
  | nil => cases h
  | cons v ws ih =>
    simp only [List.map_cons, List.sum_cons]
    rcases List.mem_cons.1 h with rfl | h
    · omega
    · have := ih h; omega
theorem esz_le {l : List En} {e : En} (h : e ∈ l) : esz e ≤ tsz l := by
  induction l with
  | nil => cases h
  | cons v l ih =>
    simp only [tsz, List.map_cons, List.sum_cons] at ih ⊢
    rcases List.mem_cons.1 h with rfl | h
    · omega
    · have := ih h; omega
theorem join_of_okE {l : List En} (h : ∀ e ∈ l, okE e) (ht : tsz l ≤ 65536) : joinErr l = 0 := by
  have a1 : (l.all fun e => e.ws.all fun w => decide (wsz w ≤ 65536)) = true := by
    rw [List.all_eq_true]; intro e he
    rw [List.all_eq_true]; intro w hw
    have := wsz_le hw; have := esz_le he
    simp only [esz] at this
    simp; omega
  have a2 : (l.any fun e => e.ws.isEmpty) = false := by
    rw [List.any_eq_false]; intro e he
    have := (h e he).1
    simpa using this
  have a3 : (l.all fun e => e.ws.all fun w => goodW w) = true := by
    rw [List.all_eq_true]; intro e he
    rw [List.all_eq_true]; intro w hw
    exact (h e he).2.2 w hw
  have a4 : (l.any fun e => decide (64 < e.ws.length)) = false := by
    rw [List.any_eq_false]; intro e he
    have := (h e he).2.1
    simp; omega
  unfold joinErr
  rw [a1, a2, a3, a4]
  simp; omega
theorem join_of_ents {s : List UInt8} {m : List En} (h : entsF s = .ok m) (hs : s.length ≤ 20000) : joinErr m = 0 := by
  obtain ⟨h1, h2⟩ := ents_ok h
  exact join_of_okE h1 (by have := tsz_le h1; omega)
theorem counted_len (l : List En) : ∀ n, (counted n l).length = l.length := by
  induction l with
  | nil => intro n; rfl
  | cons e l ih => intro n; simp [counted, ih]
theorem counted_get (l : List En) : ∀ n i (h : i < (counted n l).length), (counted n l)[i] = ⟨(n + i : Nat), (l[i]'(by rw [counted_len] at h; exact h)).blank, (l[i]'(by rw [counted_len] at h; exact h)).ws⟩ := by
  induction l with
  | nil => intro n i h; simp [counted] at h
  | cons e l ih =>
    intro n i h
    cases i with
    | zero => simp [counted]
    | succ i =>
      have := ih (n + 1) i (by simp [counted] at h ⊢; omega)
      simp only [counted, List.getElem_cons_succ, this]
      congr 2; omega
end Go.Proofs.YtgdkeafjglcgaaaDoor
