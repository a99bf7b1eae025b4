/- A text read as entries of words: the machine, and what it makes of words and entries that are joined. No text of the program is used here. -/
import Derived.WalkKit
namespace Go.Proofs.YtgdkeafjglcgaaaDoor
set_option linter.unusedVariables false
set_option linter.unusedSimpArgs false


abbrev Wd := ByteArray × Bool
structure En where
  line : Int
  blank : Bool
  ws : List Wd
def isB (c : UInt8) : Bool := c == 32 || c == 9 || c == 13
def endsW (c : UInt8) : Bool := isB c || c == 10 || c == 59 || c == 40 || c == 41
/-- What is read so far. -/
structure Cf where
  st : Nat
  line : Nat
  op : Nat
  cur : List UInt8
  el : Int
  bl : Bool
  ws : List Wd
  es : List En
def addW (q : Cf) (w : Wd) : Cf := { q with cur := w.1.data.toList, el := if q.ws.isEmpty then q.line else q.el, ws := q.ws ++ [w] }
def keepF (q : Cf) (b : Bool) : Option Cf := if q.ws.length = 64 then none else some (addW q (⟨q.cur.toArray⟩, b))
def closeF (q : Cf) : Cf := { q with es := if q.ws.isEmpty then q.es else q.es ++ [⟨q.el, q.bl, q.ws⟩] }
def headB (r : List UInt8) : Bool := match r with | [] => false | c :: _ => isB c
def beginF (q : Cf) (r : List UInt8) : Cf := { q with el := 0, bl := headB r, ws := [] }
def outF (q : Cf) (c : UInt8) (r : List UInt8) : Option Cf :=
  if c = 59 then some { q with st := 6 }
  else if c = 40 then some { q with st := 0, op := q.op + 1 }
  else if c = 41 then (if q.op = 0 then none else some { q with st := 0, op := q.op - 1 })
  else if c = 10 then (if q.op = 0 then some (beginF (closeF { q with st := 0, line := q.line + 1 }) r) else some { q with st := 0, line := q.line + 1 })
  else some { q with st := 0 }
inductive Rs where
  | er (e : Nat)
  | ok (q : Cf)
def outR (q : Cf) (c : UInt8) (r : List UInt8) : Rs := match outF q c r with | none => .er 230 | some q' => .ok q'
def firstF (q : Cf) (c : UInt8) (r : List UInt8) : Rs :=
  if endsW c then outR q c r
  else if c = 34 then .ok { q with st := 3, cur := [] }
  else if c = 92 then .ok { q with st := 2, cur := [c] }
  else .ok { q with st := 1, cur := [c] }
def nextF (q : Cf) (c : UInt8) (r : List UInt8) : Rs :=
  if endsW c then (match keepF q false with | none => .er 3 | some q' => outR q' c r)
  else if c = 34 then .er 230
  else if c = 92 then .ok { q with st := 2, cur := q.cur ++ [c] }
  else .ok { q with st := 1, cur := q.cur ++ [c] }
def quotF (q : Cf) (c : UInt8) : Rs :=
  if c = 34 then (match keepF q true with | none => .er 3 | some q' => .ok { q' with st := 5 })
  else if c = 92 then .ok { q with st := 4, cur := q.cur ++ [c] }
  else .ok { q with st := 3, cur := q.cur ++ [c] }
def stepF (q : Cf) (c : UInt8) (r : List UInt8) : Rs :=
  if c = 10 ∧ (q.st = 3 ∨ q.st = 2 ∨ q.st = 4) then .er 230
  else if q.st = 0 then firstF q c r
  else if q.st = 1 then nextF q c r
  else if q.st = 2 then .ok { q with st := 1, cur := q.cur ++ [c] }
  else if q.st = 3 then quotF q c
  else if q.st = 4 then .ok { q with st := 3, cur := q.cur ++ [c] }
  else if q.st = 5 then (if endsW c then outR q c r else .er 230)
  else (if c = 10 then outR q c r else .ok q)
inductive Rt where
  | er (e : Nat) (line : Nat)
  | ok (es : List En)
def finF (L : Nat) (q : Cf) : Rt :=
  if q.st = 3 ∨ q.st = 2 ∨ q.st = 4 then .er 230 L
  else if q.st = 1 then (match keepF q false with | none => .er 3 q.line | some q' => if 0 < q'.op then .er 230 L else .ok (closeF q').es)
  else if 0 < q.op then .er 230 L else .ok (closeF q).es
def goF (L : Nat) : Cf → List UInt8 → Rt
  | q, [] => finF L q
  | q, c :: r => match stepF q c r with | .er e => .er e q.line | .ok q' => goF L q' r
def cnt10 : List UInt8 → Nat
  | [] => 0
  | c :: r => (if c = 10 then 1 else 0) + cnt10 r
def linesF (s : List UInt8) : Nat := cnt10 s + (if s.getLast? = none ∨ s.getLast? = some 10 then 0 else 1)
def q0 (s : List UInt8) : Cf := ⟨0, 1, 0, [], 0, headB s, [], []⟩
def entsF (s : List UInt8) : Rt := if 65536 < s.length then .er 3 0 else goF (linesF s) (q0 s) s
/-- A word as it stands. -/
def wtxt (w : Wd) : List UInt8 := if w.2 then 34 :: (w.1.data.toList ++ [34]) else w.1.data.toList
def bwS : Bool → List UInt8 → Bool
  | e, [] => !e
  | true, c :: r => c != 10 && bwS false r
  | false, c :: r => if c = 92 then bwS true r else !endsW c && c != 34 && bwS false r
def qwS : Bool → List UInt8 → Bool
  | e, [] => !e
  | true, c :: r => c != 10 && qwS false r
  | false, c :: r => if c = 92 then qwS true r else c != 10 && c != 34 && qwS false r
def goodW (w : Wd) : Bool := if w.2 then qwS false w.1.data.toList else !w.1.data.toList.isEmpty && bwS false w.1.data.toList
theorem ends_not {c : UInt8} (h : endsW c = false) : c ≠ 10 ∧ c ≠ 59 ∧ c ≠ 40 ∧ c ≠ 41 ∧ isB c = false := by
  simp [endsW] at h; exact ⟨h.1.1.1.2, h.1.1.2, h.1.2, h.2, h.1.1.1.1⟩
theorem go_bare (L : Nat) (t : List UInt8) : ∀ (e : Bool) (q : Cf) (r : List UInt8), q.st = (if e then 2 else 1) → bwS e t = true → goF L q (t ++ r) = goF L { q with st := 1, cur := q.cur ++ t } r := by
  induction t with
  | nil =>
    intro e q r h hb
    cases e with
    | true => simp [bwS] at hb
    | false => simp at h; simp [← h]
  | cons c t ih =>
    intro e q r h hb
    cases e with
    | true =>
      simp only [bwS, Bool.and_eq_true, bne_iff_ne, ne_eq] at hb
      simp at h
      have hs : stepF q c (t ++ r) = .ok { q with st := 1, cur := q.cur ++ [c] } := by simp [stepF, h, hb.1]
      rw [List.cons_append, goF, hs]
      simp only
      rw [ih false _ r (by simp) hb.2]
      simp
    | false =>
      simp at h
      by_cases h92 : c = 92
      · subst h92
        simp only [bwS, if_true] at hb
        have hs : stepF q 92 (t ++ r) = .ok { q with st := 2, cur := q.cur ++ [92] } := by simp [stepF, nextF, h, show endsW 92 = false from by decide]
        rw [List.cons_append, goF, hs]
        simp only
        rw [ih true _ r (by simp) hb]
        simp
      · simp only [bwS, if_neg h92, Bool.and_eq_true, bne_iff_ne, ne_eq, Bool.not_eq_true'] at hb
        have hs : stepF q c (t ++ r) = .ok { q with st := 1, cur := q.cur ++ [c] } := by simp [stepF, nextF, h, hb.1.1, hb.1.2, h92]
        rw [List.cons_append, goF, hs]
        simp only
        rw [ih false _ r (by simp) hb.2]
        simp
theorem go_quot (L : Nat) (t : List UInt8) : ∀ (e : Bool) (q : Cf) (r : List UInt8), q.st = (if e then 4 else 3) → qwS e t = true → goF L q (t ++ r) = goF L { q with st := 3, cur := q.cur ++ t } r := by
  induction t with
  | nil =>
    intro e q r h hb
    cases e with
    | true => simp [qwS] at hb
    | false => simp at h; simp [← h]
  | cons c t ih =>
    intro e q r h hb
    cases e with
    | true =>
      simp only [qwS, Bool.and_eq_true, bne_iff_ne, ne_eq] at hb
      simp at h
      have hs : stepF q c (t ++ r) = .ok { q with st := 3, cur := q.cur ++ [c] } := by simp [stepF, h, hb.1]
      rw [List.cons_append, goF, hs]
      simp only
      rw [ih false _ r (by simp) hb.2]
      simp
    | false =>
      simp at h
      by_cases h92 : c = 92
      · subst h92
        simp only [qwS, if_true] at hb
        have hs : stepF q 92 (t ++ r) = .ok { q with st := 4, cur := q.cur ++ [92] } := by simp [stepF, quotF, h]
        rw [List.cons_append, goF, hs]
        simp only
        rw [ih true _ r (by simp) hb]
        simp
      · simp only [qwS, if_neg h92, Bool.and_eq_true, bne_iff_ne, ne_eq] at hb
        have hs : stepF q c (t ++ r) = .ok { q with st := 3, cur := q.cur ++ [c] } := by simp [stepF, quotF, h, hb.1.1, hb.1.2, h92]
        rw [List.cons_append, goF, hs]
        simp only
        rw [ih false _ r (by simp) hb.2]
        simp
/-- Where a word stands that is over. -/
def behindW (w : Wd) : Nat := if w.2 then 5 else 1
theorem ba_list (b : ByteArray) : (⟨b.data.toList.toArray⟩ : ByteArray) = b := by cases b; simp
theorem go_word (L : Nat) (w : Wd) (q : Cf) (r : List UInt8) (hq : q.st = 0) (hg : goodW w = true) (hn : q.ws.length < 64) :
    goF L q (wtxt w ++ r) = if w.2 then goF L { addW q w with st := 5 } r else goF L { q with st := 1, cur := w.1.data.toList } r := by
  obtain ⟨b, k⟩ := w
  cases k with
  | true =>
    simp only [goodW, if_true] at hg
    simp only [wtxt, if_true]
    have hs : stepF q 34 (b.data.toList ++ [34] ++ r) = .ok { q with st := 3, cur := [] } := by simp [stepF, firstF, hq, show endsW 34 = false from by decide]
    rw [List.cons_append, goF, hs]
    simp only
    rw [List.append_assoc, go_quot L b.data.toList false _ _ (by simp) hg]
    simp only [List.nil_append]
    rw [List.cons_append, List.nil_append, goF]
    have hs2 : stepF { q with st := 3, cur := b.data.toList } 34 r = .ok { addW q (b, true) with st := 5 } := by
      simp [stepF, quotF, keepF, show ¬ q.ws.length = 64 by omega, addW, ba_list]
    rw [hs2]
  | false =>
    simp only [goodW, Bool.false_eq_true, if_false, Bool.and_eq_true] at hg
    simp only [wtxt, Bool.false_eq_true, if_false]
    generalize b.data.toList = t at hg ⊢
    cases t with
    | nil => simp at hg
    | cons c t =>
      by_cases h92 : c = 92
      · subst h92
        have hb : bwS true t = true := by simpa [bwS] using hg.2
        have hs : stepF q 92 (t ++ r) = .ok { q with st := 2, cur := [92] } := by simp [stepF, firstF, hq, show endsW 92 = false from by decide]
        rw [List.cons_append, goF, hs]
        simp only
        rw [go_bare L t true _ r (by simp) hb]
        simp
      · have hb := hg.2
        simp only [bwS, if_neg h92, Bool.and_eq_true, bne_iff_ne, ne_eq, Bool.not_eq_true'] at hb
        have hs : stepF q c (t ++ r) = .ok { q with st := 1, cur := [c] } := by simp [stepF, firstF, hq, hb.1.1, hb.1.2, h92]
        rw [List.cons_append, goF, hs]
        simp only
        rw [go_bare L t false _ r (by simp) hb.2]
        simp
def outG (L : Nat) (q : Cf) (c : UInt8) (r : List UInt8) : Rt := match outR q c r with | .er e => .er e q.line | .ok q' => goF L q' r
theorem outF_st (q : Cf) (k : Nat) (c : UInt8) (r : List UInt8) : outF { q with st := k } c r = outF q c r := by
  simp only [outF, beginF, closeF]
theorem go_word_end (L : Nat) (w : Wd) (q : Cf) (c : UInt8) (r : List UInt8) (hq : q.st = 0) (hg : goodW w = true) (hn : q.ws.length < 64) (hc : endsW c = true) :
    goF L q (wtxt w ++ c :: r) = outG L (addW q w) c r := by
  rw [go_word L w q _ hq hg hn]
  obtain ⟨b, k⟩ := w
  cases k with
  | true =>
    simp only [if_true]
    rw [goF]
    have hs : stepF { addW q (b, true) with st := 5 } c r = outR (addW q (b, true)) c r := by
      simp [stepF, hc, outR, outF_st]
    rw [hs]; rfl
  | false =>
    simp only [Bool.false_eq_true, if_false]
    rw [goF]
    have hs : stepF { q with st := 1, cur := b.data.toList } c r = outR (addW q (b, false)) c r := by
      have e : ({ addW { q with st := 1, cur := b.data.toList } (⟨b.data.toList.toArray⟩, false) with st := 1 } : Cf) = { addW q (b, false) with st := 1 } := by
        simp [addW, ba_list]
      have e2 : addW { q with st := 1, cur := b.data.toList } (⟨b.data.toList.toArray⟩, false) = { addW q (b, false) with st := 1 } := by
        simp [addW, ba_list]
      simp only [stepF, nextF, hc, if_true, keepF, show ¬ q.ws.length = 64 by omega, if_false]
      rw [e2]
      simp [outR, outF_st]
    rw [hs]; rfl
theorem goodW_first {w : Wd} (hg : goodW w = true) : ∃ c r, wtxt w = c :: r ∧ isB c = false := by
  obtain ⟨b, k⟩ := w
  cases k with
  | true => exact ⟨34, _, rfl, by decide⟩
  | false =>
    simp only [goodW, Bool.false_eq_true, if_false, Bool.and_eq_true] at hg
    simp only [wtxt, Bool.false_eq_true, if_false]
    generalize b.data.toList = t at hg ⊢
    cases t with
    | nil => simp at hg
    | cons c t =>
      refine ⟨c, t, rfl, ?_⟩
      by_cases h92 : c = 92
      · subst h92; decide
      · have hb := hg.2
        simp only [bwS, if_neg h92, Bool.and_eq_true, bne_iff_ne, ne_eq, Bool.not_eq_true'] at hb
        exact (ends_not hb.1.1).2.2.2.2
/-- Words, a blank between each two. -/
def wsTxt : List Wd → List UInt8
  | [] => []
  | [w] => wtxt w
  | w :: v :: r => wtxt w ++ 32 :: wsTxt (v :: r)
def enTxt (e : En) : List UInt8 := (if e.blank then [32] else []) ++ wsTxt e.ws ++ [10]
def joinT (l : List En) : List UInt8 := l.flatMap enTxt
def addAll (q : Cf) : List Wd → Cf
  | [] => q
  | w :: r => addAll (addW q w) r
theorem addAll_st (ws : List Wd) : ∀ q, (addAll q ws).st = q.st ∧ (addAll q ws).op = q.op ∧ (addAll q ws).line = q.line ∧ (addAll q ws).bl = q.bl ∧ (addAll q ws).es = q.es ∧ (addAll q ws).ws = q.ws ++ ws ∧ (addAll q ws).el = (if q.ws.isEmpty && !ws.isEmpty then (q.line : Int) else q.el) := by
  induction ws with
  | nil => intro q; simp [addAll]
  | cons w ws ih =>
    intro q
    have := ih (addW q w)
    simp only [addAll]
    refine ⟨this.1, this.2.1, this.2.2.1, this.2.2.2.1, this.2.2.2.2.1, by rw [this.2.2.2.2.2.1]; simp [addW], ?_⟩
    rw [this.2.2.2.2.2.2]
    simp [addW]
theorem out_blank (L : Nat) (q : Cf) (r : List UInt8) : outG L q 32 r = goF L { q with st := 0 } r := by
  simp [outG, outR, outF]
theorem go_words (L : Nat) (ws : List Wd) : ∀ (q : Cf) (c : UInt8) (r : List UInt8), q.st = 0 → ws ≠ [] → (∀ w ∈ ws, goodW w = true) → q.ws.length + ws.length ≤ 64 → endsW c = true →
    goF L q (wsTxt ws ++ c :: r) = outG L (addAll q ws) c r := by
  induction ws with
  | nil => intro q c r _ h; exact absurd rfl h
  | cons w ws ih =>
    intro q c r hq _ hg hn hc
    cases ws with
    | nil =>
      simp only [wsTxt, addAll]
      exact go_word_end L w q c r hq (hg w (by simp)) (by simp at hn; omega) hc
    | cons v ws =>
      rw [wsTxt, List.append_assoc, List.cons_append, go_word_end L w q 32 _ hq (hg w (by simp)) (by simp at hn; omega) (by decide), out_blank]
      rw [ih { addW q w with st := 0 } c r rfl (by simp) (fun x hx => hg x (by simp [hx])) (by simp [addW] at hn ⊢; omega) hc]
      have : ({ addW q w with st := 0 } : Cf) = addW q w := by cases q; simp [addW] at hq ⊢; exact hq.symm
      rw [this]; rfl
def okE (e : En) : Prop := e.ws ≠ [] ∧ e.ws.length ≤ 64 ∧ ∀ w ∈ e.ws, goodW w = true
def startQ (n : Nat) (cur : List UInt8) (b : Bool) (es : List En) : Cf := ⟨0, n, 0, cur, 0, b, [], es⟩
theorem enTxt_head {e : En} (h : okE e) (r : List UInt8) : headB (enTxt e ++ r) = e.blank := by
  unfold enTxt
  cases hb : e.blank with
  | true => rfl
  | false =>
    obtain ⟨h1, h2, h3⟩ := h
    cases hw : e.ws with
    | nil => exact absurd hw h1
    | cons w ws =>
      obtain ⟨c, t, e1, e2⟩ := goodW_first (h3 w (by rw [hw]; simp))
      cases ws with
      | nil => simp [wsTxt, e1, headB, e2]
      | cons v ws => simp [wsTxt, e1, headB, e2]
theorem outG_nl (L : Nat) (q : Cf) (r : List UInt8) (h : q.op = 0) : outG L q 10 r = goF L (beginF (closeF { q with st := 0, line := q.line + 1 }) r) r := by
  simp [outG, outR, outF, h]
theorem go_entry (L : Nat) (e : En) (n : Nat) (cur : List UInt8) (b : Bool) (es : List En) (r : List UInt8) (h : okE e) (hb : b = e.blank) :
    ∃ cur', goF L (startQ n cur b es) (enTxt e ++ r) = goF L (startQ (n + 1) cur' (headB r) (es ++ [⟨n, e.blank, e.ws⟩])) r := by
  subst hb
  have hl : 0 < e.ws.length := List.length_pos_iff.2 h.1
  have key : ∀ q : Cf, q.st = 0 → q.op = 0 → q.ws = [] → q.line = n → q.bl = e.blank → q.es = es → ∃ cur', goF L q (wsTxt e.ws ++ [10] ++ r) = goF L (startQ (n + 1) cur' (headB r) (es ++ [⟨n, e.blank, e.ws⟩])) r := by
    intro q h1 h2 h3 h4 h5 h6
    have ha := addAll_st e.ws q
    refine ⟨(addAll q e.ws).cur, ?_⟩
    rw [List.append_assoc, List.cons_append, List.nil_append, go_words L e.ws q 10 r h1 h.1 h.2.2 (by rw [h3]; simpa using h.2.1) (by decide), outG_nl _ _ _ (by rw [ha.2.1, h2])]
    congr 1
    obtain ⟨a1, a2, a3, a4, a5, a6, a7⟩ := ha
    have hne : (q.ws ++ e.ws).isEmpty = false := by rw [h3]; cases hw : e.ws with | nil => exact absurd hw h.1 | cons => rfl
    have hne2 : e.ws.isEmpty = false := by cases hw : e.ws with | nil => exact absurd hw h.1 | cons => rfl
    simp [beginF, closeF, startQ, a2, a3, a4, a5, a6, a7, h1, h2, h3, h4, h5, h6, hne, hne2, h.1]
  cases hbl : e.blank with
  | false =>
    have := key (startQ n cur e.blank es) rfl rfl rfl rfl rfl rfl
    unfold enTxt
    rw [hbl] at this ⊢
    simpa using this
  | true =>
    have := key { (startQ n cur e.blank es) with st := 0 } rfl rfl rfl rfl rfl rfl
    obtain ⟨cur', hk⟩ := this
    refine ⟨cur', ?_⟩
    unfold enTxt
    rw [hbl] at hk ⊢
    simp only [if_true, List.cons_append, List.nil_append]
    rw [goF]
    have hs : stepF (startQ n cur true es) 32 (wsTxt e.ws ++ [10] ++ r) = .ok (startQ n cur true es) := by
      simp [stepF, firstF, startQ, show endsW 32 = true from by decide, outR, outF]
    rw [hs]
    exact hk
/-- Entries with their lines counted. -/
def counted : Nat → List En → List En
  | _, [] => []
  | n, e :: r => ⟨n, e.blank, e.ws⟩ :: counted (n + 1) r
theorem go_entries (L : Nat) (l : List En) : ∀ (n : Nat) (cur : List UInt8) (es : List En), (∀ e ∈ l, okE e) → goF L (startQ n cur (headB (joinT l)) es) (joinT l) = .ok (es ++ counted n l) := by
  induction l with
  | nil => intro n cur es _; simp [joinT, goF, finF, startQ, closeF, counted]
  | cons e l ih =>
    intro n cur es h
    have he := h e (by simp)
    have e1 : joinT (e :: l) = enTxt e ++ joinT l := by simp [joinT]
    rw [e1, enTxt_head he]
    obtain ⟨cur', hk⟩ := go_entry L e n cur e.blank es (joinT l) he rfl
    rw [hk, ih (n + 1) cur' _ (fun x hx => h x (by simp [hx]))]
    simp [counted]
theorem ents_join (l : List En) (h : ∀ e ∈ l, okE e) (hs : (joinT l).length ≤ 65536) : entsF (joinT l) = .ok (counted 1 l) := by
  unfold entsF
  rw [if_neg (by omega)]
  have := go_entries (linesF (joinT l)) l 1 [] [] h
  simpa [q0, startQ] using this
end Go.Proofs.YtgdkeafjglcgaaaDoor
