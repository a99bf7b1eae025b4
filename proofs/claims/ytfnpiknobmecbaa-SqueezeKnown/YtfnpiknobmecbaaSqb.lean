/- Names that point back, without any program: what a writer writes and keeps. -/
import Derived.Test.YtfnpiknobmecbaaSqa
namespace Go.Proofs.Ytfnpiknobmecbaa
set_option linter.unusedVariables false
set_option linter.unusedSimpArgs false
/-- A name's bytes without pointers, as a text. -/
def qkey (t : List ByteArray) : ByteArray := lb (nby t ++ [0])
/-- The place that is kept for a text. -/
def qfind : List (ByteArray × Nat) → ByteArray → Option Nat
  | [], _ => none
  | (k, p) :: r, x => if k = x then some p else qfind r x
/-- A name's bytes, with a pointer in the place of its longest tail that is kept; how many of its labels stand ahead. -/
def qshort (pl : List (ByteArray × Nat)) : List ByteArray → List Int
  | [] => [0]
  | s :: t => match qfind pl (qkey (s :: t)) with
    | some p => [192 + (p : Int) / 256, (p : Int) % 256]
    | none => (s.size : Int) :: (nums s ++ qshort pl t)
def qown (pl : List (ByteArray × Nat)) : List ByteArray → Nat
  | [] => 0
  | s :: t => match qfind pl (qkey (s :: t)) with
    | some p => 0
    | none => qown pl t + 1
/-- What is kept behind: m labels stand at start. -/
def qkeep (pl : List (ByteArray × Nat)) (start : Nat) : Nat → List ByteArray → List (ByteArray × Nat)
  | 0, _ => pl
  | m + 1, [] => pl
  | m + 1, s :: t => if 16384 ≤ start then pl else qkeep (if (qfind pl (qkey (s :: t))).isSome then pl else (qkey (s :: t), start) :: pl) (start + 1 + s.size) m t
theorem qfind_mem {pl : List (ByteArray × Nat)} {k : ByteArray} {p : Nat} (h : qfind pl k = some p) : (k, p) ∈ pl := by
  induction pl with
  | nil => simp [qfind] at h
  | cons a r ih =>
    obtain ⟨k', p'⟩ := a
    simp only [qfind] at h
    split at h
    · next e => cases h; subst e; simp
    · exact List.mem_cons_of_mem _ (ih h)
theorem qshort_len (pl : List (ByteArray × Nat)) : ∀ t, (∀ s ∈ t, 1 ≤ s.size) → 1 ≤ (qshort pl t).length ∧ (qshort pl t).length ≤ nsz t
  | [], _ => by simp [qshort, nsz]
  | s :: t, h => by
    have ih := qshort_len pl t (fun x hx => h x (List.mem_cons_of_mem _ hx))
    have hs := h s (by simp)
    have hn : 1 ≤ nsz t := by cases t <;> simp [nsz] ; omega
    unfold qshort
    split
    · simp only [List.length_cons, List.length_nil, nsz]; omega
    · simp only [List.length_cons, List.length_append, nums_len, nsz]; omega
/-- What is kept stands there. -/
def QInv (tx : List Int) (pl : List (ByteArray × Nat)) : Prop :=
  ∀ k p, (k, p) ∈ pl → p < tx.length ∧ p < 16384 ∧ ∃ t e, k = qkey t ∧ nck t = 0 ∧ t ≠ [] ∧ Stands tx p p t e
theorem QInv.more {tx m : List Int} {pl : List (ByteArray × Nat)} (h : QInv tx pl) : QInv (tx ++ m) pl := by
  intro k p hk
  obtain ⟨h1, h2, t, e, h3, h4, h5, h6⟩ := h k p hk
  exact ⟨by simp; omega, h2, t, e, h3, h4, h5, h6.more⟩
theorem nums_lb (l : List Int) (h : ∀ z ∈ l, 0 ≤ z ∧ z ≤ 255) : nums (lb l) = l := nums_back l h
theorem lb_nums (s : ByteArray) : lb (nums s) = s := txt_back s
theorem nby_bd : ∀ t : List ByteArray, labsOk t → ∀ z ∈ nby t ++ [0], 0 ≤ z ∧ z ≤ 255 := by
  intro t h z hz
  simp only [List.mem_append, nby, List.mem_flatMap, List.mem_cons, List.mem_singleton, List.not_mem_nil, or_false] at hz
  rcases hz with ⟨s, hs, rfl | hz⟩ | rfl
  · have := chk_ok (h s hs); omega
  · exact nums_all s z hz
  · omega
theorem qkey_inj {a b : List ByteArray} (ha : labsOk a) (hb : labsOk b) (h : qkey a = qkey b) : a = b := by
  have e : nby a ++ [0] = nby b ++ [0] := by
    have := congrArg nums h
    unfold qkey at this
    rwa [nums_lb _ (nby_bd a ha), nums_lb _ (nby_bd b hb)] at this
  have e' := List.append_cancel_right e
  clear e h
  induction a generalizing b with
  | nil =>
    cases b with
    | nil => rfl
    | cons s t => simp [nby] at e'
  | cons s t ih =>
    cases b with
    | nil => simp [nby] at e'
    | cons s' t' =>
      simp only [nby, List.flatMap_cons, List.cons_append, List.cons.injEq] at e'
      obtain ⟨e1, e2⟩ := e'
      have hl : (nums s).length = (nums s').length := by rw [nums_len, nums_len]; omega
      have e3 := List.append_inj e2 hl
      have : s = s' := by rw [← lb_nums s, ← lb_nums s', e3.1]
      subst this
      rw [ih (fun x hx => ha x (List.mem_cons_of_mem _ hx)) (fun x hx => hb x (List.mem_cons_of_mem _ hx)) e3.2]
theorem labs_of {t : List ByteArray} (h : nck t = 0) : labsOk t := (nck_small h).2
theorem qlab_here (tx m : List Int) (s : ByteArray) (z : Int) : qlab (tx ++ (z :: (nums s ++ m))) (tx.length + 1) s.size = s := by
  unfold qlab
  have : (tx ++ (z :: (nums s ++ m))).drop (tx.length + 1) = nums s ++ m := by
    rw [List.drop_append]; simp
  rw [this, List.take_append_of_le_length (by rw [nums_len]; exact Nat.le_refl _), List.take_of_length_le (by rw [nums_len]; exact Nat.le_refl _), lb_nums]
theorem getD_here (tx m : List Int) (z : Int) : (tx ++ (z :: m)).getD tx.length 0 = z := by
  rw [List.getD_eq_getElem?_getD, List.getElem?_append_right (Nat.le_refl _)]; simp
/-- What is written stands where it begins, in whatever stretch that began behind all that was kept. -/
theorem short_stands (pl : List (ByteArray × Nat)) : ∀ (t : List ByteArray) (tx R : List Int) (st : Nat), QInv tx pl → labsOk t → (∀ k p, (k, p) ∈ pl → p < st) → Stands (tx ++ (qshort pl t ++ R)) st tx.length t (tx.length + (qshort pl t).length)
  | [], tx, R, st, _, _, _ => by
    simp only [qshort, List.length_cons, List.length_nil]
    exact .root st _ (by simp) (by simp)
  | s :: t, tx, R, st, hI, hl, hst => by
    unfold qshort
    split
    · next p hf =>
      obtain ⟨h1, h2, t', e, h3, h4, h5, h6⟩ := hI _ _ (qfind_mem hf)
      have : s :: t = t' := qkey_inj hl (labs_of h4) h3
      subst this
      have hp := hst _ _ (qfind_mem hf)
      have hg : (tx ++ ([192 + (p : Int) / 256, (p : Int) % 256] ++ R)).getD tx.length 0 = 192 + (p : Int) / 256 := by simp
      have hg1 : (tx ++ ([192 + (p : Int) / 256, (p : Int) % 256] ++ R)).getD (tx.length + 1) 0 = (p : Int) % 256 := by
        simp
      refine .point st _ p (s :: t) e ?_ ?_ ?_ hp h6.more
      · simp
      · rw [hg]; omega
      · unfold qto; rw [hg, hg1]; omega
    · next hf =>
      have hs := chk_ok (hl s (by simp))
      have ih := short_stands pl t (tx ++ ((s.size : Int) :: nums s)) R st hI.more (fun x hx => hl x (List.mem_cons_of_mem _ hx)) hst
      have e1 : tx ++ ((s.size : Int) :: nums s) ++ (qshort pl t ++ R) = tx ++ ((s.size : Int) :: (nums s ++ qshort pl t) ++ R) := by simp
      have e2 : (tx ++ ((s.size : Int) :: nums s)).length = tx.length + 1 + s.size := by simp [nums_len]; omega
      rw [e1, e2] at ih
      have e3 : tx ++ ((s.size : Int) :: (nums s ++ qshort pl t) ++ R) = tx ++ ((s.size : Int) :: (nums s ++ (qshort pl t ++ R))) := by simp
      refine .label st _ s t _ hs ?_ ?_ ?_ ?_
      · simp [nums_len]; omega
      · rw [e3]; exact getD_here _ _ _
      · rw [e3]; exact qlab_here _ _ _ _
      · have : tx.length + ((s.size : Int) :: (nums s ++ qshort pl t)).length = tx.length + 1 + s.size + (qshort pl t).length := by simp [nums_len]; omega
        rw [this]; exact ih
theorem qfind_or {pl : List (ByteArray × Nat)} {k k' : ByteArray} {p : Nat} (x : ByteArray) : qfind ((k, p) :: pl) x = if k = x then some p else qfind pl x := rfl
/-- What is kept behind a name stands there, too. -/
theorem keep_inv (pl0 : List (ByteArray × Nat)) (R : List Int) : ∀ (t : List ByteArray) (tx : List Int) (pl : List (ByteArray × Nat)) (m : Nat), m ≤ qown pl0 t → QInv tx pl0 → labsOk t → nsz t ≤ 255 → QInv (tx ++ (qshort pl0 t ++ R)) pl →
    (∀ k p, (k, p) ∈ pl0 → p ≤ tx.length) → QInv (tx ++ (qshort pl0 t ++ R)) (qkeep pl tx.length m t)
  | [], tx, pl, m, _, _, _, _, hP, _ => by cases m <;> exact hP
  | s :: t, tx, pl, 0, _, _, _, _, hP, _ => hP
  | s :: t, tx, pl, m + 1, hm, hI, hl, hz, hP, hst => by
    unfold qkeep
    split
    · exact hP
    · next h16 =>
      have hlt : ∀ k p, (k, p) ∈ pl0 → p < tx.length := fun k p h => (hI k p h).1
      have hstand := short_stands pl0 (s :: t) tx R tx.length hI hl hlt
      have hs := chk_ok (hl s (by simp))
      have hP' : QInv (tx ++ (qshort pl0 (s :: t) ++ R)) (if (qfind pl (qkey (s :: t))).isSome then pl else (qkey (s :: t), tx.length) :: pl) := by
        split
        · exact hP
        · intro k p hk
          rcases List.mem_cons.1 hk with e | hk
          · cases e
            have := (qshort_len pl0 (s :: t) (fun x hx => (chk_ok (hl x hx)).1)).1
            exact ⟨by simp only [List.length_append]; omega, by omega, s :: t, _, rfl, nck_of hz hl, by simp, hstand⟩
          · exact hP k p hk
      unfold qown at hm
      split at hm
      · omega
      · next hf =>
        have e0 : qshort pl0 (s :: t) = (s.size : Int) :: (nums s ++ qshort pl0 t) := by
          rw [qshort, hf]
        have e1 : tx ++ ((s.size : Int) :: nums s) ++ (qshort pl0 t ++ R) = tx ++ (qshort pl0 (s :: t) ++ R) := by rw [e0]; simp
        have e2 : (tx ++ ((s.size : Int) :: nums s)).length = tx.length + 1 + s.size := by simp [nums_len]; omega
        have ih := keep_inv pl0 R t (tx ++ ((s.size : Int) :: nums s)) (if (qfind pl (qkey (s :: t))).isSome then pl else (qkey (s :: t), tx.length) :: pl) m (by omega) hI.more (fun x hx => hl x (List.mem_cons_of_mem _ hx)) (by simp only [nsz] at hz; omega) (by rw [e1]; exact hP') (fun k p h => by have := hst k p h; rw [e2]; omega)
        rw [e1, e2] at ih
        exact ih
end Go.Proofs.Ytfnpiknobmecbaa
