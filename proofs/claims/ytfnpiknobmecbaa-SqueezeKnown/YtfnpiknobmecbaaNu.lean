/- Names out of texts, as the document reads them. -/
import Derived.Test.YtfnpiknobmecbaaNt
namespace Go.Proofs.Ytfnpiknobmecbaa
open Go.ChangeShapes Go.WideShapes Go.ChangeAt Go.RowKit
set_option linter.unusedVariables false
set_option linter.unusedSimpArgs false


theorem go_le (l : List Int) (hb : ∀ z ∈ l, 0 ≤ z ∧ z ≤ 255) : ∀ (n p : Nat) (out o : List Int) (q : Nat), l.length - p ≤ n → p ≤ l.length → go l p out = some (o, q) → p ≤ q ∧ q ≤ l.length := by
  intro n
  induction n with
  | zero =>
    intro p out o q hn hp h
    rw [go_stop _ _ _ (by omega)] at h
    cases h
    omega
  | succ n ih =>
    intro p out o q hn hp h
    by_cases hs : p < l.length ∧ l.getD p 0 ≠ 46
    · by_cases hf : (fr (l.drop p)).2 ≤ 0
      · rw [go_bad _ _ _ hs hf] at h; cases h
      · rw [go_step _ _ _ hs hf] at h
        have hfb := fr_bd (l.drop p) (fun z hz => hb z (List.mem_of_mem_drop hz)) (by rw [List.length_drop]; omega)
        rw [List.length_drop] at hfb
        have := ih _ _ _ _ (by omega) (by omega) h
        omega
    · rw [go_stop _ _ _ hs] at h
      cases h
      omega
theorem pres_le (l : List Int) (hb : ∀ z ∈ l, 0 ≤ z ∧ z ≤ 255) (h : (pres l).2.2 = 0) : ∃ p : Nat, (pres l).2.1 = (p : Int) ∧ p ≤ l.length ∧ 1 ≤ (pres l).1.length ∧ (pres l).1.length ≤ 63 := by
  unfold pres at h ⊢
  cases hg : go l 0 [] with
  | none => rw [hg] at h; cases h
  | some r =>
    obtain ⟨o, q⟩ := r
    rw [hg] at h
    simp only at h ⊢
    split at h
    · rename_i h1
      rw [if_pos h1]
      exact ⟨q, rfl, (go_le l hb _ 0 [] o q (Nat.le_refl _) (Nat.zero_le _) hg).2, h1.1, h1.2⟩
    · cases h
theorem pres_err (l : List Int) : (pres l).2.2 = 0 ∨ (pres l).2.2 = 4 ∨ (pres l).2.2 = 120 := by
  unfold pres
  cases go l 0 [] with
  | none => simp
  | some r => simp only; split <;> simp
/-- A label out of bytes. -/
def lb (l : List Int) : ByteArray := ⟨(txt l).toArray⟩
theorem lb_size (l : List Int) : (lb l).size = l.length := txt_size l
/-- The labels of a text, up to its end; whether a . stands behind the last one; the error. -/
def lgo (l : List Int) (out : List ByteArray) : List ByteArray × Bool × Int :=
  if (pres l).2.2 = 0 then
    if (pres l).2.1 = (l.length : Int) then (out ++ [lb (pres l).1], false, 0)
    else if h : (l.drop ((pres l).2.1.toNat + 1)).length = 0 then (out ++ [lb (pres l).1], true, 0)
    else lgo (l.drop ((pres l).2.1.toNat + 1)) (out ++ [lb (pres l).1])
  else ([], false, (pres l).2.2)
termination_by l.length
decreasing_by
  simp only [List.length_drop] at h ⊢
  omega
def LPost (r : List ByteArray × Bool × Int) (w : World) (e : Ending) (w' : World) : Prop :=
  ∃ v ys, e = .returned (.tuple #[v, .bool r.2.1, .int .i64 r.2.2]) ∧ Hid (OwnT w.heap.size w' v r.1.length ys 1000000000000 ∧ ys.take r.1.length = r.1 ∧ Below w.heap.size w w')
theorem lgo_bd : ∀ (n : Nat) (l : List Int) (out : List ByteArray), l.length ≤ n → (∀ z ∈ l, 0 ≤ z ∧ z ≤ 255) → (∀ x ∈ out, x.size ≤ 63) → (∀ x ∈ (lgo l out).1, x.size ≤ 63) ∧ (lgo l out).1.length ≤ out.length + l.length + 1 := by
  intro n
  induction n with
  | zero =>
    intro l out hl hb ho
    have e : l = [] := List.eq_nil_of_length_eq_zero (by omega)
    subst e
    rw [lgo, if_neg]
    · simp
    · have : pres [] = ([], 0, 4) := (pres_no (l := []) (out := []) (p := 0) (go_stop _ _ _ (by simp)) (by decide)).1
      rw [this]
      decide
  | succ n ih =>
    intro l out hl hb ho
    rw [lgo]
    by_cases h0 : (pres l).2.2 = 0
    · rw [if_pos h0]
      obtain ⟨p, hp, hpl, hl1, hl2⟩ := pres_le l hb h0
      have ho2 : ∀ x ∈ out ++ [lb (pres l).1], x.size ≤ 63 := by
        intro x hx
        rcases List.mem_append.1 hx with hx | hx
        · exact ho x hx
        · simp at hx; subst hx; rw [lb_size]; exact hl2
      rw [hp, Int.toNat_natCast]
      split
      · exact ⟨ho2, by rw [List.length_append]; show out.length + 1 ≤ _; omega⟩
      · split
        · exact ⟨ho2, by rw [List.length_append]; show out.length + 1 ≤ _; omega⟩
        · rename_i h1 h2
          rw [List.length_drop] at h2
          have := ih (l.drop (p + 1)) (out ++ [lb (pres l).1]) (by rw [List.length_drop]; omega) (fun z hz => hb z (List.mem_of_mem_drop hz)) ho2
          refine ⟨this.1, Nat.le_trans this.2 ?_⟩
          rw [List.length_append, List.length_drop]
          show out.length + 1 + _ + 1 ≤ _
          omega
    · rw [if_neg h0]
      simp
theorem nsz_bd (l : List ByteArray) (h : ∀ x ∈ l, x.size ≤ 63) : nsz l ≤ 64 * l.length + 1 := by
  induction l with
  | nil => simp [nsz]
  | cons x l ih =>
    have := ih (fun y hy => h y (by simp [hy]))
    have := h x (by simp)
    simp only [nsz, List.length_cons]
    omega
theorem lgo_nsz (s : ByteArray) (hs : s.size ≤ 1000000000) : nsz (lgo (nums s) []).1 ≤ 1000000000000 := by
  have := lgo_bd _ (nums s) [] (Nat.le_refl _) (nums_all s) (by simp)
  have h2 := nsz_bd _ this.1
  rw [nums_len] at this
  simp at this
  omega
/-- What Parse answers. -/
def nparse (s : ByteArray) : List ByteArray × Int :=
  if s.toList = [46] then ([], 0)
  else if (lgo (nums s) []).2.2 = 0 then
    (if (lgo (nums s) []).2.1 then (if nck (lgo (nums s) []).1 = 0 then ((lgo (nums s) []).1, 0) else ([], nck (lgo (nums s) []).1)) else ([], 5))
  else ([], (lgo (nums s) []).2.2)
/-- What Relative answers. -/
def nrel (s : ByteArray) (og : List ByteArray) : List ByteArray × Int :=
  if nck og = 0 then
    (if s.toList = [64] then (og, 0) else if s.toList = [46] then ([], 0)
    else if (lgo (nums s) []).2.2 = 0 then (if (lgo (nums s) []).2.1 then nparse s else njoin (lgo (nums s) []).1 og) else ([], (lgo (nums s) []).2.2))
  else ([], nck og)
end Go.Proofs.Ytfnpiknobmecbaa
