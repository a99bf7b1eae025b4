/- A region that draws its order, only reads, guarded or not, and writes by its last operation. No text of the program is used here. -/
import Derived.Deep.QuietTactic
namespace Go.Proofs.Ytgdkeafjglcgaaa

set_option linter.unusedVariables false
set_option linter.unusedSimpArgs false
section
variable {P : Program} {ops : Array Oper} {C : World → Prop}
def wpAnyL (P : Program) (ops : Array Oper) (C : World → Prop) (m : Nat) (Q1 : Act → Prop) : Nat → Array Bool → Act → Prop
  | 0, _, _ => False
  | fuel + 1, listed, a => Region.ready .any ops listed ≠ [] ∧ ∀ i ∈ Region.ready .any ops listed, (i = m → Q1 a) ∧ (i ≠ m → qOp P ops C i (wpAnyL P ops C m Q1 fuel (listed.setIfInBounds i true)) a)
def ons (x : Oper) : List Nat := (x.after.toList.filter fun e => Region.binds .any e).map fun e => e.on
/-- What an operation waits for, and what that waits for. -/
def anc (ops : Array Oper) (o : Oper) : Nat → List Nat
  | 0 => ons o
  | n + 1 => (anc ops o n ++ (anc ops o n).flatMap fun i => match ops[i]? with | some x => ons x | none => []).eraseDups
/-- The last one waits for all. -/
structure LastOk (ops : Array Oper) (m : Nat) (o : Oper) : Prop where
  at_ : ops[m]? = some o
  gd : o.guard = none
  sz : ops.size = m + 1
  waits : ∀ j, j < m → j ∈ anc ops o 8
/-- What came up came up behind what it waits for. -/
def Clo (ops : Array Oper) (listed : Array Bool) : Prop := ∀ j x, listed.getD j false = true → ops[j]? = some x → ∀ e ∈ x.after, Region.binds .any e = true → listed.getD e.on false = true
theorem Clo.set {listed : Array Bool} (h : Clo ops listed) {i : Nat} (hi : i ∈ Region.ready .any ops listed) : Clo ops (listed.setIfInBounds i true) := by
  intro j x hj hx e he hb
  by_cases hji : j = i
  · subst hji
    obtain ⟨_, o, ho, hall⟩ := mem_ready.1 hi
    rw [hx] at ho; cases ho
    exact getD_set_true (hall e he hb)
  · rw [getD_set_ne false (Ne.symm hji)] at hj
    exact getD_set_true (h j x hj hx e he hb)
theorem Clo.start (n : Nat) : Clo ops (Array.replicate n false) := by
  intro j x hj
  exfalso
  by_cases h : j < n
  · simp [Array.getD, h] at hj
  · simp [Array.getD, h] at hj
def lexL (ops : Array Oper) : Nat → Nat → Array Bool → Bool
  | 0, k, listed => decide (Region.ready .any ops listed = [k])
  | fuel + 1, k, listed => (Region.ready .any ops listed).contains k && Region.free .any ops listed k && lexL ops fuel (k + 1) (listed.setIfInBounds k true)
theorem anc_listed {o : Oper} {listed : Array Bool} (hc : Clo ops listed) (hall : ∀ e ∈ o.after, Region.binds .any e = true → listed.getD e.on false = true) : ∀ n j, j ∈ anc ops o n → listed.getD j false = true := by
  intro n
  induction n with
  | zero =>
    intro j hj
    simp only [anc, ons, List.mem_map, List.mem_filter] at hj
    obtain ⟨e, ⟨he, hb⟩, rfl⟩ := hj
    exact hall e (by simpa using he) hb
  | succ n ih =>
    intro j hj
    simp only [anc, List.mem_eraseDups, List.mem_append, List.mem_flatMap] at hj
    rcases hj with hj | ⟨i, hi, hj⟩
    · exact ih j hj
    · split at hj
      · rename_i x hx
        simp only [ons, List.mem_map, List.mem_filter] at hj
        obtain ⟨e, ⟨he, hb⟩, rfl⟩ := hj
        exact hc i x (ih i hi) hx e (by simpa using he) hb
      · cases hj
theorem listed_of_last {m : Nat} {o : Oper} (hl : LastOk ops m o) {listed : Array Bool} (hc : Clo ops listed) (h : m ∈ Region.ready .any ops listed) (j : Nat) (hj : j < m) : listed.getD j false = true := by
  obtain ⟨_, o', ho', hall⟩ := mem_ready.1 h
  rw [hl.at_] at ho'
  cases ho'
  exact anc_listed hc hall 8 j (hl.waits j hj)
theorem wpAny_of_L {m : Nat} {o : Oper} {Q1 : Act → Prop} {Q : Exit → Act → World → Prop} (hl : LastOk ops m o) (hQ : ∀ a w, C w → Q1 a → o.wp P a w (fun a' w' => Q .normal a' w') Q) :
    ∀ (fuel : Nat) (listed : Array Bool) (a : Act) (w : World), listed.size = m + 1 → Clo ops listed → C w → wpAnyL P ops C m Q1 fuel listed a → wpAny P .any ops Q fuel listed a w
  | 0, _, _, _, _, _, _, h => h.elim
  | fuel + 1, listed, a, w, hsz, hcl, hC, h => by
    refine ⟨fun h0 => absurd h0 h.1, fun i hi => ?_⟩
    by_cases him : i = m
    · subst him
      have hq := (h.2 i hi).1 rfl
      unfold wpOp
      rw [hl.at_]
      have hw : Region.wanted o (yielded ops a.tmps) = true := by simp [Region.wanted, hl.gd]
      simp only [hw, if_true]
      refine .inl (Oper.wp_mono (fun a' w' h' => ?_) (hQ a w hC hq))
      have hr : Region.ready .any ops (listed.setIfInBounds i true) = [] := by
        cases hr : Region.ready .any ops (listed.setIfInBounds i true) with
        | nil => rfl
        | cons j r =>
          have hj : j ∈ Region.ready .any ops (listed.setIfInBounds i true) := by rw [hr]; simp
          obtain ⟨e1, x, hx, _⟩ := mem_ready.1 hj
          have hjs : j < ops.size := (Array.getElem?_eq_some_iff.1 hx).1
          rw [hl.sz] at hjs
          by_cases hji : j = i
          · subst hji
            have hlt : j < listed.size := by omega
            simp [Array.getD, hlt] at e1
          · have hlt : j < i := by omega
            have h1 := listed_of_last hl hcl hi j hlt
            rw [getD_set_ne true (Ne.symm hji)] at e1
            have hls : j < listed.size := by omega
            simp [Array.getD, hls] at e1 h1
            rw [e1] at h1; cases h1
      cases fuel with
      | zero => exact ⟨hr, h'⟩
      | succ fuel => exact ⟨fun _ => h', fun j hj => by rw [hr] at hj; cases hj⟩
    · exact wpOp_of_qOp hC (fun a' w' hC' hh => wpAny_of_L hl hQ fuel _ a' w' (by simpa using hsz) (hcl.set hi) hC' hh) ((h.2 i hi).2 him)
theorem wpAnyL_first {m : Nat} {o : Oper} {Q1 : Act → Prop} (hl : LastOk ops m o) {i : Nat} {oi : Oper} {v : Value} (hi : ops[i]? = some oi) (him : i < m) (hsel : ∀ (j : Nat) (o : Oper) cs b, ops[j]? = some o → o.op ≠ .select cs b) :
    ∀ (fuel : Nat) (listed : Array Bool) (a : Act), Clo ops listed →
      (∀ j oj, ops[j]? = some oj → j ≠ i → listed.getD j true = false → (∀ e ∈ oj.after, Region.binds .any e = true → e.on ≠ i) → oi.apart ops oj = true) →
      i ∈ Region.ready .any ops listed → YieldsIn P ops C oi v a →
      wpAnyL P ops C m Q1 fuel (listed.setIfInBounds i true) (a.put oi.dst v) → wpAnyL P ops C m Q1 (fuel + 1) listed a := by
  intro fuel
  induction fuel with
  | zero => intro listed a _ _ _ _ H; exact H.elim
  | succ fuel ih =>
    intro listed a hcl hfree hr hy H
    have hnl : ∀ x, listed.getD i x = true → False := fun x hx => by
      have h0 := (mem_ready.1 hr).1
      rcases Nat.lt_or_ge i listed.size with h' | h'
      · simp [Array.getD, h'] at h0 hx; rw [h0] at hx; cases hx
      · simp [Array.getD, Nat.not_lt.2 h'] at h0
    refine ⟨fun h => (by rw [h] at hr; cases hr), fun j hj => ⟨fun hjm => ?_, fun hjm => ?_⟩⟩
    · subst hjm
      exact (hnl _ (listed_of_last hl hcl hj i him)).elim
    · by_cases hji : j = i
      · subst hji; exact hy.qOp hi H
      · have h1 := (H.2 j (ready_mono hj hji)).2 hjm
        obtain ⟨hjun, oj, hoj, hall⟩ := mem_ready.1 hj
        have hnot : ∀ e ∈ oj.after, Region.binds .any e = true → e.on ≠ i := fun e he hb heq => by
          have h1 := hall e he hb
          rw [heq] at h1
          exact hnl _ h1
        have h2 := qOp_put hoj (hfree j oj hoj hji hjun hnot) (fun cs b => hsel i oi cs b hi) (fun cs b => hsel j oj cs b hoj) hy h1
        have hfree' : ∀ k ok, ops[k]? = some ok → k ≠ i → (listed.setIfInBounds j true).getD k true = false →
            (∀ e ∈ ok.after, Region.binds .any e = true → e.on ≠ i) → oi.apart ops ok = true := fun k ok hk hki hun hno => by
          refine hfree k ok hk hki ?_ hno
          by_cases hjk : j = k
          · subst hjk; exact hjun
          · rw [getD_set_ne true hjk] at hun; exact hun
        refine qOp_mono (fun a' h3 => ih (listed.setIfInBounds j true) a' (hcl.set hj) hfree' (ready_mono hr (Ne.symm hji)) h3.1 ?_) h2
        rw [Array.setIfInBounds_comm _ _ hji]
        exact h3.2
theorem wpAnyL_lex {m : Nat} {o : Oper} {Q1 : Act → Prop} (hl : LastOk ops m o) (hs : Region.noSelect ops = true) : ∀ (l : List Oper) (k : Nat) (listed : Array Bool) (a : Act), Clo ops listed → (∀ j, j < l.length → l[j]? = ops[k + j]?) → k + l.length = m →
    lexL ops l.length k listed = true → wpQuiet P ops C Q1 l a → wpAnyL P ops C m Q1 (l.length + 1) listed a
  | [], k, listed, a, _, _, hk, hB, h => by
    have hr : Region.ready .any ops listed = [k] := of_decide_eq_true hB
    simp at hk
    subst hk
    refine ⟨by rw [hr]; simp, fun i hi => ⟨fun _ => h, fun hne => ?_⟩⟩
    rw [hr] at hi
    exact absurd (List.mem_singleton.1 hi) hne
  | x :: l, k, listed, a, hcl, hll, hk, hB, h => by
    have h0 : ops[k]? = some x := by simpa using (hll 0 (by simp)).symm
    simp only [List.length_cons, lexL, Bool.and_eq_true] at hB
    obtain ⟨⟨hr, hf⟩, hB'⟩ := hB
    have hst : qOp P ops C k (wpQuiet P ops C Q1 l) a := by unfold qOp; simp only [h0]; exact h
    obtain ⟨v, hy, hK⟩ := yieldsIn_of_qOp h0 hst
    exact wpAnyL_first hl h0 (by simp at hk; omega) (Region.noSelect_spec hs) (l.length + 1) listed a hcl (Region.free_spec h0 hf) (by simpa using hr) hy
      (wpAnyL_lex hl hs l (k + 1) _ _ (hcl.set (by simpa using hr)) (fun j hj => by have := hll (j + 1) (by simp; omega); simpa [Nat.add_assoc, Nat.add_comm 1 j] using this) (by simp at hk; omega) hB' hK)
def lastQ (l : List Oper) (o : Oper) : Bool :=
  Region.noSelect (l ++ [o]).toArray && o.guard.isNone && (List.range l.length).all (fun j => (anc (l ++ [o]).toArray o 8).contains j) && lexL (l ++ [o]).toArray l.length 0 (Array.replicate (l.length + 1) false)
theorem wp_region_quiet_last {id : Nat} {Q : Exit → Act → World → Prop} {a : Act} {w : World} {l : List Oper} {o : Oper} (hm : P.follows .mixedOrders = true) (hB : lastQ l o = true)
    (h : wpQuiet P (l ++ [o]).toArray (fun w' => ∃ n, w' = w.drewN n) (fun a' => ∀ w', (∃ n, w' = w.drewN n) → o.wp P a' w' (fun a'' w'' => Q .normal a'' w'') Q) l a) : (Code.region id (l ++ [o]).toArray true).wp P Q a w := by
  simp only [lastQ, Bool.and_eq_true] at hB
  obtain ⟨⟨⟨h1, h2⟩, h3⟩, h4⟩ := hB
  have hl : LastOk (l ++ [o]).toArray l.length o := by
    refine ⟨by simp, by simpa using h2, by simp, fun j hj => ?_⟩
    have := List.all_eq_true.1 h3 j (List.mem_range.2 hj)
    simpa using this
  refine wp_region_any hm ?_
  have hx := wpAnyL_lex (P := P) (C := fun w' => ∃ n, w' = w.drewN n) hl h1 l 0 (Array.replicate (l.length + 1) false) a (Clo.start _) (fun j hj => by simp [List.getElem?_append_left hj]) (by simp) h4 h
  have := wpAny_of_L (C := fun w' => ∃ n, w' = w.drewN n) (Q := Q) hl (fun a' w' hC hq => hq w' hC) (l.length + 1) (Array.replicate (l.length + 1) false) a { w with drawn := w.drawn + 1 } (by simp) (Clo.start _) ⟨1, rfl⟩ hx
  simpa using this
theorem wp_region_last {id : Nat} {Q : Exit → Act → World → Prop} {a : Act} {w : World} {ops : Array Oper} {l : List Oper} {o : Oper} (hops : (l ++ [o]).toArray = ops) (hm : P.follows .mixedOrders = true) (hB : lastQ l o = true)
    (h : wpQuiet P ops (fun w' => ∃ n, w' = w.drewN n) (fun a' => ∀ w', (∃ n, w' = w.drewN n) → o.wp P a' w' (fun a'' w'' => Q .normal a'' w'') Q) l a) : (Code.region id ops true).wp P Q a w := by
  subst hops
  exact wp_region_quiet_last hm hB h
end
end Go.Proofs.Ytgdkeafjglcgaaa
