/- Entries with noise around them are read as they were: brackets, remarks, empty lines. No text of the program is used here. -/
import Derived.Test.YtgdkeafjglcgaaaDoorSca
namespace Go.Proofs.YtgdkeafjglcgaaaDoor
set_option linter.unusedVariables false
set_option linter.unusedSimpArgs false


theorem go_sp (L : Nat) (q : Cf) (r : List UInt8) (h : q.st = 0) : goF L q (32 :: r) = goF L q r := by
  have e : stepF q 32 r = .ok q := by
    cases q; simp only at h; subst h
    simp [stepF, firstF, show endsW 32 = true from by decide, outR, outF]
  rw [goF, e]
theorem go_op (L : Nat) (q : Cf) (r : List UInt8) (h : q.st = 0) : goF L q (40 :: r) = goF L { q with op := q.op + 1 } r := by
  have e : stepF q 40 r = .ok { q with op := q.op + 1 } := by
    cases q; simp only at h; subst h
    simp [stepF, firstF, show endsW 40 = true from by decide, outR, outF]
  rw [goF, e]
theorem go_sh (L : Nat) (q : Cf) (r : List UInt8) (h : q.st = 0) (ho : q.op ≠ 0) : goF L q (41 :: r) = goF L { q with op := q.op - 1 } r := by
  have e : stepF q 41 r = .ok { q with op := q.op - 1 } := by
    cases q; simp only at h ho; subst h
    simp [stepF, firstF, show endsW 41 = true from by decide, outR, outF, ho]
  rw [goF, e]
theorem go_nl (L : Nat) (q : Cf) (r : List UInt8) (h : q.st = 0) : goF L q (10 :: r) = outG L q 10 r := by
  have e : stepF q 10 r = outR q 10 r := by
    simp [stepF, firstF, h, show endsW 10 = true from by decide]
  rw [goF, e]; rfl
theorem out_in (L : Nat) (q : Cf) (r : List UInt8) (h : q.op ≠ 0) : outG L q 10 r = goF L { q with st := 0, line := q.line + 1 } r := by
  simp [outG, outR, outF, h]
theorem go_rem6 (L : Nat) (rm : List UInt8) : ∀ (q : Cf) (r : List UInt8), (∀ c ∈ rm, c ≠ 10) → goF L { q with st := 6 } (rm ++ 10 :: r) = outG L q 10 r := by
  induction rm with
  | nil =>
    intro q r _
    have e : stepF { q with st := 6 } 10 r = outR q 10 r := by
      simp only [stepF]
      simp [outR, outF_st]
    rw [List.nil_append, goF, e]; rfl
  | cons c rm ih =>
    intro q r h
    have hc := h c (by simp)
    have e : stepF { q with st := 6 } c (rm ++ 10 :: r) = .ok { q with st := 6 } := by
      simp [stepF, hc]
    rw [List.cons_append, goF, e]
    exact ih q r (fun x hx => h x (by simp [hx]))
theorem go_rem (L : Nat) (rm : List UInt8) (q : Cf) (r : List UInt8) (hq : q.st = 0) (h : ∀ c ∈ rm, c ≠ 10) : goF L q (59 :: (rm ++ 10 :: r)) = outG L q 10 r := by
  have e : stepF q 59 (rm ++ 10 :: r) = .ok { q with st := 6 } := by
    simp [stepF, firstF, hq, show endsW 59 = true from by decide, outR, outF]
  rw [goF, e]
  exact go_rem6 L rm q r h
/-- A line of an entry, its byte 10 off. -/
def lnTxt (e : En) : List UInt8 := (if e.blank then [32] else []) ++ wsTxt e.ws
def noise (rm : List UInt8) (e : En) : List UInt8 := (if e.blank then [32] else []) ++ ([40, 32] ++ (lnTxt e ++ ([32, 59] ++ (rm ++ ([10, 10, 32, 41, 32, 32, 59] ++ (rm ++ [10, 10]))))))
theorem noise_head (rm : List UInt8) (e : En) (r : List UInt8) : headB (noise rm e ++ r) = e.blank := by
  unfold noise
  cases e.blank <;> rfl
theorem go_ln (L : Nat) (e : En) (q : Cf) (r : List UInt8) (h : okE e) (hq : q.st = 0) (hw : q.ws = []) : goF L q (lnTxt e ++ 32 :: r) = goF L (addAll q e.ws) r := by
  have key : goF L q (wsTxt e.ws ++ 32 :: r) = goF L (addAll q e.ws) r := by
    rw [go_words L e.ws q 32 r hq h.1 h.2.2 (by rw [hw]; simpa using h.2.1) (by decide), out_blank]
    have := (addAll_st e.ws q).1
    rw [hq] at this
    congr 1
    generalize addAll q e.ws = z at *
    cases z; simp only at this; subst this; rfl
  unfold lnTxt
  cases e.blank with
  | false => simpa using key
  | true =>
    simp only [if_true, List.cons_append, List.nil_append]
    rw [go_sp L q _ hq]; exact key
theorem go_noise (L : Nat) (rm : List UInt8) (hr : ∀ c ∈ rm, c ≠ 10) (e : En) (n : Nat) (cur : List UInt8) (b : Bool) (es : List En) (r : List UInt8) (h : okE e) (hb : b = e.blank) :
    ∃ cur', goF L (startQ n cur b es) (noise rm e ++ r) = goF L (startQ (n + 4) cur' (headB r) (es ++ [⟨n, e.blank, e.ws⟩])) r := by
  subst hb
  have hne : e.ws.isEmpty = false := by cases hw : e.ws with | nil => exact absurd hw h.1 | cons => rfl
  have key : ∃ cur', goF L (startQ n cur e.blank es) ([40, 32] ++ (lnTxt e ++ ([32, 59] ++ (rm ++ ([10, 10, 32, 41, 32, 32, 59] ++ (rm ++ ([10, 10] ++ r))))))) = goF L (startQ (n + 4) cur' (headB r) (es ++ [⟨n, e.blank, e.ws⟩])) r := by
    have ha := addAll_st e.ws { startQ n cur e.blank es with op := 1 }
    obtain ⟨a1, a2, a3, a4, a5, a6, a7⟩ := ha
    generalize hz : addAll { startQ n cur e.blank es with op := 1 } e.ws = z at *
    simp only [startQ, List.nil_append, List.isEmpty_nil, Bool.true_and, hne, Bool.not_false, if_true] at a1 a2 a3 a4 a5 a6 a7
    refine ⟨z.cur, ?_⟩
    simp only [List.cons_append, List.nil_append]
    rw [go_op L _ _ rfl, go_sp L _ _ rfl]
    rw [go_ln L e _ _ h rfl rfl]
    have e1 : addAll { startQ n cur e.blank es with op := (startQ n cur e.blank es).op + 1 } e.ws = z := hz
    rw [e1, go_rem L rm z _ a1 hr, out_in L z _ (by rw [a2]; decide)]
    obtain ⟨zst, zl, zo, zc, ze, zb, zw, zs⟩ := z
    simp only at a1 a2 a3 a4 a5 a6 a7 ⊢
    subst a1 a2 a3 a4 a5 a6 a7
    rw [go_nl L _ _ rfl, out_in L _ _ (by simp), go_sp L _ _ rfl, go_sh L _ _ rfl (by simp), go_sp L _ _ rfl, go_sp L _ _ rfl, go_rem L rm _ _ rfl hr, outG_nl _ _ _ rfl]
    rw [go_nl L _ _ rfl, outG_nl _ _ _ rfl]
    simp [beginF, closeF, startQ, hne, h.1, Nat.add_assoc]
  unfold noise
  cases hbl : e.blank with
  | false =>
    rw [hbl] at key
    simpa using key
  | true =>
    rw [hbl] at key
    obtain ⟨cur', hk⟩ := key
    refine ⟨cur', ?_⟩
    simp only [if_true, List.cons_append, List.nil_append, List.append_assoc] at hk ⊢
    rw [go_sp L _ _ rfl]
    exact hk
/-- Entries with their lines, four each. -/
def four (n : Nat) : List En → List En
  | [] => []
  | e :: l => ⟨n, e.blank, e.ws⟩ :: four (n + 4) l
theorem four_len (l : List En) : ∀ n, (four n l).length = l.length := by
  induction l with
  | nil => intro n; rfl
  | cons e l ih => intro n; simp [four, ih]
theorem four_at (l : List En) : ∀ n i (h : i < (four n l).length) (h2 : i < l.length), (four n l)[i].blank = l[i].blank ∧ (four n l)[i].ws = l[i].ws := by
  induction l with
  | nil => intro n i h h2; simp at h2
  | cons e l ih =>
    intro n i h h2
    cases i with
    | zero => exact ⟨rfl, rfl⟩
    | succ i => simpa [four] using ih (n + 4) i (by simpa [four] using h) (by simpa using h2)
def noisyT (rm : List UInt8) (l : List En) : List UInt8 := l.flatMap (noise rm)
theorem go_noisy (L : Nat) (rm : List UInt8) (hr : ∀ c ∈ rm, c ≠ 10) (l : List En) : ∀ (n : Nat) (cur : List UInt8) (b : Bool) (es : List En), (∀ e ∈ l, okE e) → b = headB (noisyT rm l) →
    goF L (startQ n cur b es) (noisyT rm l) = .ok (es ++ four n l) := by
  induction l with
  | nil =>
    intro n cur b es _ _
    simp [noisyT, goF, finF, startQ, closeF, four]
  | cons e l ih =>
    intro n cur b es h hb
    have e0 : noisyT rm (e :: l) = noise rm e ++ noisyT rm l := by simp [noisyT]
    rw [e0] at hb ⊢
    rw [noise_head] at hb
    obtain ⟨cur', hk⟩ := go_noise L rm hr e n cur b es (noisyT rm l) (h e (by simp)) hb
    rw [hk, ih (n + 4) cur' _ _ (fun x hx => h x (by simp [hx])) rfl]
    simp [four]
theorem ents_noisy (rm : List UInt8) (hr : ∀ c ∈ rm, c ≠ 10) (l : List En) (h : ∀ e ∈ l, okE e) (hs : (noisyT rm l).length ≤ 65536) : entsF (noisyT rm l) = .ok (four 1 l) := by
  unfold entsF
  rw [if_neg (by omega)]
  have := go_noisy (linesF (noisyT rm l)) rm hr l 1 [] (headB (noisyT rm l)) [] h rfl
  simpa [q0, startQ] using this
end Go.Proofs.YtgdkeafjglcgaaaDoor
