/- What is read of any text: its words could stand, its size, its faults' lines; what is read alone as itself could stand. No text of the program is used here. -/
import Derived.Test.YtgdkeafjglcgaaaDoorSca
namespace Go.Proofs.YtgdkeafjglcgaaaDoor
set_option linter.unusedVariables false
set_option linter.unusedSimpArgs false


theorem bw_app (u v : List UInt8) : ∀ e, bwS e u = true → bwS e (u ++ v) = bwS false v := by
  induction u with
  | nil => intro e h; cases e <;> simp [bwS] at h ⊢
  | cons c u ih =>
    intro e h
    cases e with
    | true =>
      simp only [bwS, Bool.and_eq_true] at h
      simp only [List.cons_append, bwS, h.1, Bool.true_and]
      exact ih _ h.2
    | false =>
      by_cases h92 : c = 92
      · simp only [bwS, if_pos h92] at h
        simp only [List.cons_append, bwS, if_pos h92]
        exact ih _ h
      · simp only [bwS, if_neg h92, Bool.and_eq_true] at h
        simp only [List.cons_append, bwS, if_neg h92, h.1.1, h.1.2, Bool.true_and]
        exact ih _ h.2
theorem qw_app (u v : List UInt8) : ∀ e, qwS e u = true → qwS e (u ++ v) = qwS false v := by
  induction u with
  | nil => intro e h; cases e <;> simp [qwS] at h ⊢
  | cons c u ih =>
    intro e h
    cases e with
    | true =>
      simp only [qwS, Bool.and_eq_true] at h
      simp only [List.cons_append, qwS, h.1, Bool.true_and]
      exact ih _ h.2
    | false =>
      by_cases h92 : c = 92
      · simp only [qwS, if_pos h92] at h
        simp only [List.cons_append, qwS, if_pos h92]
        exact ih _ h
      · simp only [qwS, if_neg h92, Bool.and_eq_true] at h
        simp only [List.cons_append, qwS, if_neg h92, h.1.1, h.1.2, Bool.true_and]
        exact ih _ h.2
def wsum (ws : List Wd) : Nat := (ws.map fun w => (wtxt w).length).sum
def esum (es : List En) : Nat := (es.map fun e => wsum e.ws).sum
theorem wsum_app (a b : List Wd) : wsum (a ++ b) = wsum a + wsum b := by simp [wsum]
theorem esum_app (a b : List En) : esum (a ++ b) = esum a + esum b := by simp [esum]
def part (q : Cf) : Nat := if q.st = 1 ∨ q.st = 2 then q.cur.length else if q.st = 3 ∨ q.st = 4 then q.cur.length + 1 else 0
/-- What holds of all that is read. -/
structure Iv (q : Cf) (n : Nat) : Prop where
  w1 : ∀ w ∈ q.ws, goodW w = true
  w2 : q.ws.length ≤ 64
  e1 : ∀ e ∈ q.es, okE e
  c1 : q.st = 1 → bwS false q.cur = true ∧ q.cur ≠ []
  c2 : q.st = 2 → ∃ u, q.cur = u ++ [92] ∧ bwS false u = true
  c3 : q.st = 3 → qwS false q.cur = true
  c4 : q.st = 4 → ∃ u, q.cur = u ++ [92] ∧ qwS false u = true
  sz : esum q.es + wsum q.ws + part q ≤ n
theorem Iv.close {q : Cf} {n : Nat} (h : Iv q n) : (∀ e ∈ (closeF q).es, okE e) ∧ esum (closeF q).es ≤ esum q.es + wsum q.ws := by
  unfold closeF
  cases hw : q.ws with
  | nil => simp; exact h.e1
  | cons w ws =>
    simp only [List.isEmpty_cons, Bool.false_eq_true, if_false]
    refine ⟨fun e he => ?_, by rw [esum_app]; simp [esum]⟩
    rcases List.mem_append.1 he with he | he
    · exact h.e1 e he
    · simp at he; subst he
      exact ⟨by simp, by rw [← hw]; exact h.w2, by rw [← hw]; exact h.w1⟩
theorem Iv.out {q q' : Cf} {n : Nat} {c : UInt8} {r : List UInt8} (h : Iv q n) (ho : outF q c r = some q') : Iv q' (n + 1) := by
  have hz : esum q.es + wsum q.ws ≤ n := by have := h.sz; omega
  have hs : ∀ (k o l : Nat), k = 0 ∨ k = 6 → Iv { q with st := k, op := o, line := l } (n + 1) := by
    intro k o l hk
    refine ⟨h.w1, h.w2, h.e1, ?_, ?_, ?_, ?_, ?_⟩
    all_goals try (rcases hk with hk | hk <;> simp [hk])
    · simp [part]; omega
    · simp [part]; omega
  unfold outF at ho
  split at ho
  · cases ho; exact hs 6 _ _ (.inr rfl)
  · split at ho
    · cases ho; exact hs 0 _ _ (.inl rfl)
    · split at ho
      · split at ho
        · cases ho
        · cases ho; exact hs 0 _ _ (.inl rfl)
      · split at ho
        · split at ho
          · cases ho
            have hc := (hs 0 q.op (q.line + 1) (.inl rfl)).close
            refine ⟨by simp [beginF], by simp [beginF], hc.1, by simp [beginF, closeF], by simp [beginF, closeF], by simp [beginF, closeF], by simp [beginF, closeF], ?_⟩
            have := hc.2
            simp only [beginF]
            show esum (closeF _).es + wsum [] + part _ ≤ n + 1
            simp [part, wsum, closeF] at this ⊢
            simp [wsum] at hz
            omega
          · cases ho; exact hs 0 _ _ (.inl rfl)
        · cases ho; exact hs 0 _ _ (.inl rfl)
theorem Iv.keep {q q' : Cf} {n : Nat} {b : Bool} (h : Iv q n) (hg : goodW (⟨q.cur.toArray⟩, b) = true) (ho : keepF q b = some q') (m : Nat) (hm : esum q.es + wsum q.ws + (wtxt (⟨q.cur.toArray⟩, b)).length ≤ m) (k : Nat) (hk : k = 0 ∨ k = 5) : Iv { q' with st := k } m := by
  unfold keepF at ho
  split at ho
  · cases ho
  · rename_i hl
    cases ho
    have h2 := h.w2
    refine ⟨?_, ?_, h.e1, ?_, ?_, ?_, ?_, ?_⟩
    · intro w hw
      simp only [addW] at hw
      rcases List.mem_append.1 hw with hw | hw
      · exact h.w1 w hw
      · simp at hw; subst hw; exact hg
    · simp [addW]; omega
    all_goals try (rcases hk with hk | hk <;> simp [hk])
    all_goals
      simp only [addW, wsum_app, part]
      simp [wsum] at hm ⊢
      omega
theorem good_bare {u : List UInt8} (h : bwS false u = true) (h0 : u ≠ []) : goodW (⟨u.toArray⟩, false) = true := by
  simp [goodW, h, h0]
theorem good_quot {u : List UInt8} (h : qwS false u = true) : goodW (⟨u.toArray⟩, true) = true := by
  simp [goodW, h]
theorem outR_ok {q q' : Cf} {c : UInt8} {r : List UInt8} (h : outR q c r = .ok q') : outF q c r = some q' := by
  unfold outR at h; split at h
  · cases h
  · rename_i x hx; cases h; exact hx
theorem Iv.step {q q' : Cf} {n : Nat} {c : UInt8} {r : List UInt8} (h : Iv q n) (hs : stepF q c r = .ok q') : Iv q' (n + 1) := by
  have hz := h.sz
  unfold stepF at hs
  split at hs
  · cases hs
  · rename_i h10
    split at hs
    · rename_i h0
      unfold firstF at hs
      split at hs
      · exact h.out (outR_ok hs)
      · rename_i he
        have he' := ends_not (by simpa using he)
        split at hs
        · cases hs
          exact ⟨h.w1, h.w2, h.e1, by simp, by simp, by simp [qwS], by simp, by simp [part, h0] at hz ⊢; omega⟩
        · split at hs
          · rename_i h92
            cases hs
            exact ⟨h.w1, h.w2, h.e1, by simp, fun _ => ⟨[], by simp [h92], by simp [bwS]⟩, by simp, by simp, by simp [part, h0] at hz ⊢; omega⟩
          · rename_i h34 h92
            cases hs
            exact ⟨h.w1, h.w2, h.e1, fun _ => ⟨by simpa [bwS, h92, h34] using he, by simp⟩, by simp, by simp, by simp, by simp [part, h0] at hz ⊢; omega⟩
    · split at hs
      · rename_i h0 h1
        obtain ⟨hb, hne⟩ := h.c1 h1
        unfold nextF at hs
        split at hs
        · split at hs
          · cases hs
          · rename_i q1 hk
            have hI := h.keep (good_bare hb hne) hk n (by simp [part, h1] at hz; simp [wtxt]; omega) 0 (.inl rfl)
            have := hI.out (q' := q') (c := c) (r := r) (by rw [outF_st]; exact outR_ok hs)
            exact this
        · rename_i he
          split at hs
          · cases hs
          · rename_i h34
            split at hs
            · rename_i h92
              cases hs
              exact ⟨h.w1, h.w2, h.e1, by simp, fun _ => ⟨q.cur, by simp [h92], hb⟩, by simp, by simp, by simp [part, h1] at hz ⊢; omega⟩
            · rename_i h92
              cases hs
              exact ⟨h.w1, h.w2, h.e1, fun _ => ⟨by rw [bw_app _ _ _ hb]; simpa [bwS, h92, h34] using he, by simp⟩, by simp, by simp, by simp, by simp [part, h1] at hz ⊢; omega⟩
      · split at hs
        · rename_i h0 h1 h2
          obtain ⟨u, hu, hb⟩ := h.c2 h2
          cases hs
          have h10' : c ≠ 10 := by intro e; exact h10 ⟨e, .inr (.inl h2)⟩
          exact ⟨h.w1, h.w2, h.e1, fun _ => ⟨by rw [hu, List.append_assoc, bw_app _ _ _ hb]; simp [bwS, h10'], by simp⟩, by simp, by simp, by simp, by simp [part, h2] at hz ⊢; omega⟩
        · split at hs
          · rename_i h0 h1 h2 h3
            have hb := h.c3 h3
            have h10' : c ≠ 10 := by intro e; exact h10 ⟨e, .inl h3⟩
            unfold quotF at hs
            split at hs
            · split at hs
              · cases hs
              · rename_i q1 hk
                cases hs
                exact h.keep (good_quot hb) hk (n + 1) (by simp [part, h3] at hz; simp [wtxt]; omega) 5 (.inr rfl)
            · rename_i h34
              split at hs
              · rename_i h92
                cases hs
                exact ⟨h.w1, h.w2, h.e1, by simp, by simp, by simp, fun _ => ⟨q.cur, by simp [h92], hb⟩, by simp [part, h3] at hz ⊢; omega⟩
              · rename_i h92
                cases hs
                exact ⟨h.w1, h.w2, h.e1, by simp, by simp, fun _ => by rw [qw_app _ _ _ hb]; simp [qwS, h92, h34, h10'], by simp, by simp [part, h3] at hz ⊢; omega⟩
          · split at hs
            · rename_i h0 h1 h2 h3 h4
              obtain ⟨u, hu, hb⟩ := h.c4 h4
              cases hs
              have h10' : c ≠ 10 := by intro e; exact h10 ⟨e, .inr (.inr h4)⟩
              exact ⟨h.w1, h.w2, h.e1, by simp, by simp, fun _ => by rw [hu, List.append_assoc, qw_app _ _ _ hb]; simp [qwS, h10'], by simp, by simp [part, h4] at hz ⊢; omega⟩
            · split at hs
              · split at hs
                · exact h.out (outR_ok hs)
                · cases hs
              · split at hs
                · exact h.out (outR_ok hs)
                · rename_i h0 h1 h2 h3 h4 h5 _
                  cases hs
                  exact ⟨h.w1, h.w2, h.e1, h.c1, h.c2, h.c3, h.c4, by omega⟩
theorem keepF_es {q q' : Cf} {b : Bool} (h : keepF q b = some q') : q'.es = q.es ∧ q'.op = q.op ∧ q'.ws = q.ws ++ [(⟨q.cur.toArray⟩, b)] := by
  unfold keepF at h; split at h
  · cases h
  · cases h; simp [addW]
theorem Iv.fin {q : Cf} {n L : Nat} {es : List En} (h : Iv q n) (hs : finF L q = .ok es) : (∀ e ∈ es, okE e) ∧ esum es ≤ n := by
  have hz := h.sz
  unfold finF at hs
  split at hs
  · cases hs
  · split at hs
    · rename_i h1
      obtain ⟨hb, hne⟩ := h.c1 h1
      split at hs
      · cases hs
      · rename_i q1 hk
        have hI := h.keep (good_bare hb hne) hk n (by simp [part, h1] at hz; simp [wtxt]; omega) 0 (.inl rfl)
        split at hs
        · cases hs
        · cases hs
          have hc := hI.close
          have hsz := hI.sz
          have e : (closeF { q1 with st := 0 }).es = (closeF q1).es := rfl
          rw [e] at hc
          refine ⟨hc.1, ?_⟩
          have := hc.2
          simp only at this hsz
          omega
    · split at hs
      · cases hs
      · cases hs
        have hc := h.close
        exact ⟨hc.1, by have := hc.2; omega⟩
theorem Iv.go {L : Nat} (r : List UInt8) : ∀ {q : Cf} {n : Nat} {es : List En}, Iv q n → goF L q r = .ok es → (∀ e ∈ es, okE e) ∧ esum es ≤ n + r.length := by
  induction r with
  | nil => intro q n es h hs; simpa using h.fin hs
  | cons c r ih =>
    intro q n es h hs
    rw [goF] at hs
    split at hs
    · cases hs
    · rename_i q1 h1
      have := ih (h.step h1) hs
      simp only [List.length_cons]
      exact ⟨this.1, by omega⟩
theorem ents_ok {s : List UInt8} {es : List En} (h : entsF s = .ok es) : (∀ e ∈ es, okE e) ∧ esum es ≤ s.length := by
  unfold entsF at h
  split at h
  · cases h
  · have := Iv.go (n := 0) s (q := q0 s) ⟨by simp [q0], by simp [q0], by simp [q0], by simp [q0], by simp [q0], by simp [q0], by simp [q0], by simp [q0, part, esum, wsum]⟩ h
    simpa using this
/-- A word could stand: read alone it is itself. -/
def aloneW (w : Wd) : Prop := ∃ e, entsF (wtxt w) = .ok [e] ∧ e.ws = [w]
theorem good_alone {w : Wd} (h : goodW w = true) (hs : (wtxt w).length ≤ 65536) : aloneW w := by
  unfold aloneW entsF
  rw [if_neg (by omega)]
  have := go_word (linesF (wtxt w)) w (q0 (wtxt w)) [] rfl h (by simp [q0])
  rw [List.append_nil] at this
  rw [this]
  obtain ⟨b, k⟩ := w
  cases k with
  | true => simp [goF, finF, closeF, addW, q0]
  | false => simp [goF, finF, keepF, closeF, addW, q0, ba_list]
/-- How many bytes words have. -/
def wlen (ws : List Wd) : Nat := (ws.map fun w => w.1.data.toList.length).sum
def elen (es : List En) : Nat := (es.map fun e => wlen e.ws).sum
theorem wlen_app (a b : List Wd) : wlen (a ++ b) = wlen a + wlen b := by simp [wlen]
theorem elen_app (a b : List En) : elen (a ++ b) = elen a + elen b := by simp [elen]
def psi (q : Cf) : Nat := elen q.es + wlen q.ws + (if q.st = 1 ∨ q.st = 2 ∨ q.st = 3 ∨ q.st = 4 then q.cur.length else 0)
def psi0 (q : Cf) : Nat := elen q.es + wlen q.ws
theorem closeF_elen (q : Cf) : elen (closeF q).es = psi0 q - (if q.ws.isEmpty then wlen q.ws else 0) := by
  unfold closeF psi0
  cases hw : q.ws with
  | nil => simp [wlen]
  | cons w ws => simp only [List.isEmpty_cons, Bool.false_eq_true, if_false]; rw [elen_app]; simp [elen]
theorem closeF_le (q : Cf) : elen (closeF q).es ≤ psi0 q := by rw [closeF_elen]; omega
theorem out_psi {q q' : Cf} {c : UInt8} {r : List UInt8} (h : outF q c r = some q') : psi q' ≤ psi0 q ∧ (q'.st = 0 ∨ q'.st = 6) := by
  unfold outF at h
  split at h
  · cases h; simp [psi, psi0]
  · split at h
    · cases h; simp [psi, psi0]
    · split at h
      · split at h
        · cases h
        · cases h; simp [psi, psi0]
      · split at h
        · split at h
          · cases h
            have := closeF_le { q with st := 0, line := q.line + 1 }
            refine ⟨?_, .inl rfl⟩
            simp only [psi, beginF, psi0] at this ⊢
            simp [wlen] at this ⊢
            simp [closeF] at this ⊢
            exact this
          · cases h; simp [psi, psi0]
        · cases h; simp [psi, psi0]
theorem keep_psi {q q' : Cf} {b : Bool} (h : keepF q b = some q') : psi0 q' = psi0 q + q.cur.length := by
  obtain ⟨h1, _, h3⟩ := keepF_es h
  unfold psi0; rw [h1, h3, wlen_app]
  have e : wlen [((⟨q.cur.toArray⟩ : ByteArray), b)] = q.cur.length := by
    show q.cur.length + 0 = _
    rfl
  rw [e]; omega
theorem step_psi {q q' : Cf} {c : UInt8} {r : List UInt8} (hs : stepF q c r = .ok q') : psi q' ≤ psi q + 1 := by
  unfold stepF at hs
  split at hs
  · cases hs
  · split at hs
    · rename_i h0
      unfold firstF at hs
      split at hs
      · have := (out_psi (outR_ok hs)).1; simp [psi, psi0, h0] at this ⊢; omega
      · split at hs
        · cases hs; simp [psi, h0]
        · split at hs
          · cases hs; simp [psi, h0]
          · cases hs; simp [psi, h0]
    · split at hs
      · rename_i h0 h1
        unfold nextF at hs
        split at hs
        · split at hs
          · cases hs
          · rename_i q1 hk
            have a := (out_psi (outR_ok hs)).1
            have b := keep_psi hk
            simp [psi, psi0, h1] at a b ⊢; omega
        · split at hs
          · cases hs
          · split at hs
            · cases hs; simp [psi, h1]; omega
            · cases hs; simp [psi, h1]; omega
      · split at hs
        · rename_i h2; cases hs; simp [psi, h2]; omega
        · split at hs
          · rename_i h3
            unfold quotF at hs
            split at hs
            · split at hs
              · cases hs
              · rename_i q1 hk
                have b := keep_psi hk
                cases hs
                simp [psi, psi0, h3] at b ⊢; omega
            · split at hs
              · cases hs; simp [psi, h3]; omega
              · cases hs; simp [psi, h3]; omega
          · split at hs
            · rename_i h4; cases hs; simp [psi, h4]; omega
            · split at hs
              · split at hs
                · have := (out_psi (outR_ok hs)).1; simp [psi, psi0] at this ⊢; omega
                · cases hs
              · split at hs
                · have := (out_psi (outR_ok hs)).1; simp [psi, psi0] at this ⊢; omega
                · cases hs; omega
theorem fin_psi {q : Cf} {L : Nat} {es : List En} (hs : finF L q = .ok es) : elen es ≤ psi q := by
  unfold finF at hs
  split at hs
  · cases hs
  · split at hs
    · rename_i h1
      split at hs
      · cases hs
      · rename_i q1 hk
        split at hs
        · cases hs
        · cases hs
          have a := closeF_le q1
          have b := keep_psi hk
          simp [psi, psi0, h1] at a b ⊢; omega
    · split at hs
      · cases hs
      · cases hs
        have a := closeF_le q
        simp [psi, psi0] at a ⊢; omega
theorem go_psi {L : Nat} (r : List UInt8) : ∀ {q : Cf} {es : List En}, goF L q r = .ok es → elen es ≤ psi q + r.length := by
  induction r with
  | nil => intro q es hs; simpa using fin_psi hs
  | cons c r ih =>
    intro q es hs
    rw [goF] at hs
    split at hs
    · cases hs
    · rename_i q1 h1
      have a := ih hs
      have b := step_psi h1
      simp only [List.length_cons]; omega
theorem go_all_bare {L : Nat} (t : List UInt8) : ∀ {e : Bool} {q : Cf} {es : List En}, q.st = (if e then 2 else 1) → goF L q t = .ok es → psi q + t.length ≤ elen es → bwS e t = true := by
  induction t with
  | nil =>
    intro e q es h hs _
    cases e with
    | true => simp at h; simp [goF, finF, h] at hs
    | false => simp [bwS]
  | cons c t ih =>
    intro e q es h hs hl
    rw [goF] at hs
    split at hs
    · cases hs
    · rename_i q1 h1
      simp only [List.length_cons] at hl
      cases e with
      | true =>
        simp at h
        have h10 : ¬ c = 10 := by intro e; simp [stepF, e, h] at h1
        simp [stepF, h, h10] at h1
        simp [bwS, h10]
        exact ih (e := false) (by rw [← h1]; rfl) hs (by rw [← h1]; simp [psi, h] at hl ⊢; omega)
      | false =>
        simp at h
        simp [stepF, h, nextF] at h1
        split at h1
        · exfalso
          split at h1
          · cases h1
          · rename_i q2 hk
            have a := (out_psi (outR_ok h1)).1
            have b := keep_psi hk
            have d := go_psi t hs
            simp [psi, psi0, h] at a b d hl; omega
        · rename_i he
          split at h1
          · cases h1
          · rename_i h34
            split at h1
            · rename_i h92
              simp at h1
              simp only [bwS, if_pos h92]
              exact ih (e := true) (by rw [← h1]; rfl) hs (by rw [← h1]; simp [psi, h] at hl ⊢; omega)
            · rename_i h92
              simp at h1
              have := ih (e := false) (by rw [← h1]; rfl) hs (by rw [← h1]; simp [psi, h] at hl ⊢; omega)
              simp [bwS, h92, h34, this]
              simpa using he
theorem go_all_quot {L : Nat} (t : List UInt8) : ∀ {e : Bool} {q : Cf} {es : List En}, q.st = (if e then 4 else 3) → goF L q (t ++ [34]) = .ok es → psi q + t.length ≤ elen es → qwS e t = true := by
  induction t with
  | nil =>
    intro e q es h hs _
    cases e with
    | true => simp at h; simp [goF, stepF, finF, h] at hs
    | false => simp [qwS]
  | cons c t ih =>
    intro e q es h hs hl
    rw [List.cons_append, goF] at hs
    split at hs
    · cases hs
    · rename_i q1 h1
      simp only [List.length_cons] at hl
      cases e with
      | true =>
        simp at h
        have h10 : ¬ c = 10 := by intro e; simp [stepF, e, h] at h1
        simp [stepF, h, h10] at h1
        simp [qwS, h10]
        exact ih (e := false) (by rw [← h1]; rfl) hs (by rw [← h1]; simp [psi, h] at hl ⊢; omega)
      | false =>
        simp at h
        have h10 : ¬ c = 10 := by intro e; simp [stepF, e, h] at h1
        simp [stepF, h, quotF, h10] at h1
        split at h1
        · exfalso
          split at h1
          · cases h1
          · rename_i q2 hk
            simp at h1
            have b := keep_psi hk
            obtain ⟨d, r, hd⟩ : ∃ d r, t ++ [34] = d :: r := by cases t <;> simp
            have hlen : r.length = t.length := by have := congrArg List.length hd; simp at this; omega
            rw [hd, goF] at hs
            split at hs
            · cases hs
            · rename_i q3 h3
              have d2 := go_psi r hs
              have : psi q3 ≤ psi0 q2 := by
                rw [← h1] at h3
                simp [stepF] at h3
                split at h3
                · have := (out_psi (outR_ok h3)).1
                  simpa [psi0] using this
                · cases h3
              simp [psi, psi0, h] at b d2 hl this; omega
        · rename_i h34
          split at h1
          · rename_i h92
            simp at h1
            simp only [qwS, if_pos h92]
            exact ih (e := true) (by rw [← h1]; rfl) hs (by rw [← h1]; simp [psi, h] at hl ⊢; omega)
          · rename_i h92
            simp at h1
            have := ih (e := false) (by rw [← h1]; rfl) hs (by rw [← h1]; simp [psi, h] at hl ⊢; omega)
            simp [qwS, h92, h34, h10, this]
theorem alone_good {w : Wd} (h : aloneW w) : goodW w = true := by
  obtain ⟨e, he, hw⟩ := h
  unfold entsF at he
  split at he
  · cases he
  · have hl : elen [e] = w.1.data.toList.length := by simp [elen, hw, wlen]
    obtain ⟨b, k⟩ := w
    generalize linesF (wtxt (b, k)) = L at he
    have hb0 : headB (wtxt (b, k)) = headB (wtxt (b, k)) := rfl
    cases k with
    | true =>
      simp only [wtxt, if_true] at he
      rw [goF] at he
      have hs : stepF (q0 (34 :: (b.data.toList ++ [34]))) 34 (b.data.toList ++ [34]) = .ok { q0 (34 :: (b.data.toList ++ [34])) with st := 3, cur := [] } := by
        simp [stepF, firstF, q0, show endsW 34 = false from by decide]
      rw [hs] at he
      simp only [goodW, if_true]
      exact go_all_quot b.data.toList (e := false) (by simp) he (by rw [hl]; simp [psi, q0, elen, wlen])
    | false =>
      simp only [wtxt, Bool.false_eq_true, if_false] at he
      simp only [goodW, Bool.false_eq_true, if_false]
      simp only at hl
      generalize b.data.toList = t at he hl ⊢
      cases t with
      | nil => simp [goF, finF, q0, closeF] at he
      | cons c t =>
        rw [goF] at he
        split at he
        · cases he
        · rename_i q1 h1
          have d := go_psi t he
          simp only [List.length_cons] at hl
          simp [stepF, q0, firstF] at h1
          split at h1
          · have := (out_psi (outR_ok h1)).1
            simp [psi0, elen, wlen] at this
            omega
          · rename_i hen
            split at h1
            · simp at h1
              rw [← h1] at d
              simp [psi, elen, wlen] at d hl; omega
            · rename_i h34
              split at h1
              · rename_i h92
                simp at h1
                simp [bwS, h92]
                exact go_all_bare t (e := true) (by rw [← h1]; rfl) he (by rw [hl, ← h1]; simp [psi, elen, wlen]; omega)
              · rename_i h92
                simp at h1
                have := go_all_bare t (e := false) (by rw [← h1]; rfl) he (by rw [hl, ← h1]; simp [psi, elen, wlen]; omega)
                simp [bwS, h92, h34, this]
                simpa using hen
end Go.Proofs.YtgdkeafjglcgaaaDoor
