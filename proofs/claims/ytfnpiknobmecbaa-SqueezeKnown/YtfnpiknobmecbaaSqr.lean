/- A region that draws its order, only reads, and writes by its last operation, within a round of a range over a function. -/
import Derived.Test.YtfnpiknobmecbaaSqq
namespace Go.Proofs.Ytfnpiknobmecbaa
open Go.ChangeShapes Go.WideShapes Go.ChangeAt Go.RowKit Go.Shelf
set_option linter.unusedVariables false
set_option linter.unusedSimpArgs false

/-- Each waits for earlier ones alone; the last one waits for all; none is guarded. -/
def lastB (l : List Oper) (o : Oper) : Bool :=
  ((List.range l.length).all fun j => match l[j]? with
    | some x => x.guard.isNone && x.after.all (fun e => !Region.binds .any e || decide (e.on < j))
    | none => true) && o.guard.isNone && o.after.all (fun e => !Region.binds .any e || decide (e.on < l.length)) &&
  (List.range l.length).all (fun j => o.after.any (fun e => Region.binds .any e && e.on == j))
theorem lastB_spec {l : List Oper} {o : Oper} (h : lastB l o = true) :
    (∀ (j : Nat) (x : Oper), l[j]? = some x → x.guard = none ∧ ∀ e ∈ x.after, Region.binds .any e = true → e.on < j) ∧ o.guard = none ∧ (∀ e ∈ o.after, Region.binds .any e = true → e.on < l.length) ∧ (∀ j, j < l.length → ∃ e ∈ o.after, Region.binds .any e = true ∧ e.on = j) := by
  unfold lastB at h
  simp only [Bool.and_eq_true] at h
  obtain ⟨⟨⟨h1, h2⟩, h3⟩, h4⟩ := h
  refine ⟨fun j x hx => ?_, by simpa using h2, fun e he hb => ?_, fun j hj => ?_⟩
  · have hj : j < l.length := (List.getElem?_eq_some_iff.1 hx).1
    have := List.all_eq_true.1 h1 j (List.mem_range.2 hj)
    rw [hx] at this
    simp only [Bool.and_eq_true] at this
    refine ⟨by simpa using this.1, fun e he hb => ?_⟩
    have h5 := (Array.all_eq_true_iff_forall_mem.1 this.2) e he
    simpa [hb] using h5
  · have h5 := (Array.all_eq_true_iff_forall_mem.1 h3) e he
    simpa [hb] using h5
  · have := List.all_eq_true.1 h4 j (List.mem_range.2 hj)
    rw [Array.any_eq_true'] at this
    obtain ⟨e, he, h6⟩ := this
    simp only [Bool.and_eq_true, beq_iff_eq] at h6
    exact ⟨e, he, h6.1, h6.2⟩
theorem set_push_last {listed : Array Bool} {m : Nat} (hs : listed.size = m) : (listed.push false).setIfInBounds m true = listed.push true := by
  subst hs
  cases listed with
  | mk xs => simp [List.set_append]
theorem set_push_pre {listed : Array Bool} {i : Nat} (h : i < listed.size) : (listed.push false).setIfInBounds i true = (listed.setIfInBounds i true).push false := by
  cases listed with
  | mk xs =>
    have h' : i < xs.length := by simpa using h
    simp [List.set_append, h']
section
variable {l : List Oper} {o : Oper}
theorem at_pre {i : Nat} (hi : i < l.length) : (l ++ [o]).toArray[i]? = l.toArray[i]? := by simp [hi, List.getElem?_append_left]
theorem at_last : (l ++ [o]).toArray[l.length]? = some o := by simp
theorem push_getD {listed : Array Bool} {b d : Bool} {j m : Nat} (hs : listed.size = m) (hj : j < m) : (listed.push b).getD j d = listed.getD j d := by
  have h1 : j < listed.size := by omega
  have h2 : j < listed.size + 1 := by omega
  simp [Array.getD, h1, h2, Array.getElem_push_lt h1]
theorem push_last {listed : Array Bool} {b d : Bool} {m : Nat} (hs : listed.size = m) : (listed.push b).getD m d = b := by
  subst hs
  simp [Array.getD]
theorem ready_pre (hl : lastB l o = true) {listed : Array Bool} {b : Bool} (hs : listed.size = l.length) {i : Nat} (hi : i < l.length) : i ∈ Region.ready .any (l ++ [o]).toArray (listed.push b) ↔ i ∈ Region.ready .any l.toArray listed := by
  obtain ⟨h1, h2, h3, h4⟩ := lastB_spec hl
  rw [mem_ready, mem_ready, push_getD hs hi, at_pre hi]
  constructor
  · rintro ⟨e1, x, hx, e2⟩
    have hx' : l[i]? = some x := by simpa using hx
    exact ⟨e1, x, hx, fun e he hb => by have := e2 e he hb; rwa [push_getD hs (by have := (h1 i x hx').2 e he hb; omega)] at this⟩
  · rintro ⟨e1, x, hx, e2⟩
    have hx' : l[i]? = some x := by simpa using hx
    exact ⟨e1, x, hx, fun e he hb => by have := e2 e he hb; rwa [push_getD hs (by have := (h1 i x hx').2 e he hb; omega)]⟩
theorem ready_last (hl : lastB l o = true) {listed : Array Bool} (hs : listed.size = l.length) : l.length ∈ Region.ready .any (l ++ [o]).toArray (listed.push false) ↔ ∀ j, j < l.length → listed.getD j false = true := by
  obtain ⟨h1, h2, h3, h4⟩ := lastB_spec hl
  rw [mem_ready, push_last hs, at_last]
  constructor
  · rintro ⟨_, x, hx, e2⟩ j hj
    cases hx
    obtain ⟨e, he, hb, rfl⟩ := h4 j hj
    have := e2 e he hb
    rwa [push_getD hs hj] at this
  · intro h
    exact ⟨rfl, o, rfl, fun e he hb => by rw [push_getD hs (h3 e he hb)]; exact h _ (h3 e he hb)⟩
theorem all_listed (hl : lastB l o = true) {listed : Array Bool} (hs : listed.size = l.length) (h : Region.ready .any l.toArray listed = []) : ∀ j, j < l.length → listed.getD j false = true := by
  obtain ⟨h1, h2, h3, h4⟩ := lastB_spec hl
  intro j
  induction j using Nat.strongRecOn with
  | ind j ih =>
    intro hj
    by_cases e : listed.getD j false = true
    · exact e
    · have hjs : j < listed.size := by omega
      have e' : listed.getD j true = false := by simp [Array.getD, hjs] at e ⊢; exact e
      have : j ∈ Region.ready .any l.toArray listed := by
        rw [mem_ready]
        have hx : l[j]? = some l[j] := List.getElem?_eq_getElem hj
        exact ⟨e', l[j], by simp [hj], fun e he hb => ih _ ((h1 j _ hx).2 e he hb) (by have := (h1 j _ hx).2 e he hb; omega)⟩
      rw [h] at this
      cases this
theorem none_listed (hl : lastB l o = true) {listed : Array Bool} (hs : listed.size = l.length) (h : ∀ j, j < l.length → listed.getD j false = true) : Region.ready .any l.toArray listed = [] := by
  cases hr : Region.ready .any l.toArray listed with
  | nil => rfl
  | cons i r =>
    have hi : i ∈ Region.ready .any l.toArray listed := by rw [hr]; simp
    obtain ⟨e1, x, hx, _⟩ := mem_ready.1 hi
    have hil : i < l.length := by
      have : l[i]? = some x := by simpa using hx
      exact (List.getElem?_eq_some_iff.1 this).1
    have := h i hil
    have his : i < listed.size := by omega
    simp [Array.getD, his] at e1 this
    rw [e1] at this; cases this
theorem ready_cases (hl : lastB l o = true) {listed : Array Bool} {b : Bool} (hs : listed.size = l.length) {i : Nat} (hi : i ∈ Region.ready .any (l ++ [o]).toArray (listed.push b)) : (i < l.length ∧ i ∈ Region.ready .any l.toArray listed) ∨ (i = l.length ∧ b = false) := by
  obtain ⟨e1, x, hx, _⟩ := mem_ready.1 hi
  have hx' : (l ++ [o])[i]? = some x := by simpa using hx
  have hlt := (List.getElem?_eq_some_iff.1 hx').1
  simp at hlt
  by_cases e : i < l.length
  · exact .inl ⟨e, (ready_pre hl hs e).1 hi⟩
  · have : i = l.length := by omega
    subst this
    rw [push_last hs] at e1
    exact .inr ⟨rfl, e1⟩
theorem any_last {F : Fence} {n : Nat} {P : Program} {C : World → Prop} {Q1 : Act → Prop} {Q : Exit → Act → World → Prop} (hro : F.round = none) (hl : lastB l o = true)
    (hQ : ∀ a w, C w → Q1 a → o.wpIn F n P a w (fun a' w' => Q .normal a' w') Q) :
    ∀ (fuel : Nat) (listed : Array Bool) (a : Act) (w : World), listed.size = l.length → C w → wpAnyQIn F n P .any l.toArray C Q1 fuel listed a → wpAnyIn F n P .any (l ++ [o]).toArray Q (fuel + 1) (listed.push false) a w := by
  obtain ⟨h1, h2, h3, h4⟩ := lastB_spec hl
  have hend : ∀ (fuel : Nat) (listed : Array Bool) (a : Act) (w : World), listed.size = l.length → (∀ j, j < l.length → listed.getD j false = true) → Q .normal a w → wpAnyIn F n P .any (l ++ [o]).toArray Q fuel (listed.push true) a w := by
    intro fuel listed a w hs hall hq
    have hr : Region.ready .any (l ++ [o]).toArray (listed.push true) = [] := by
      cases hr : Region.ready .any (l ++ [o]).toArray (listed.push true) with
      | nil => rfl
      | cons i r =>
        have hi : i ∈ Region.ready .any (l ++ [o]).toArray (listed.push true) := by rw [hr]; simp
        rcases ready_cases hl hs hi with ⟨_, hi'⟩ | ⟨_, hb⟩
        · rw [none_listed hl hs hall] at hi'; cases hi'
        · cases hb
    cases fuel with
    | zero => exact ⟨hr, hq⟩
    | succ fuel => exact ⟨fun _ => hq, fun i hi => by rw [hr] at hi; cases hi⟩
  have hlast : ∀ (fuel : Nat) (listed : Array Bool) (a : Act) (w : World), listed.size = l.length → C w → Q1 a → (∀ j, j < l.length → listed.getD j false = true) → wpOpIn F n P (l ++ [o]).toArray Q l.length (wpAnyIn F n P .any (l ++ [o]).toArray Q fuel ((listed.push false).setIfInBounds l.length true)) a w := by
    intro fuel listed a w hs hC hq hall
    unfold wpOpIn
    rw [at_last]
    have hw : Region.wanted o (yielded (l ++ [o]).toArray a.tmps) = true := by simp [Region.wanted, h2]
    simp only [hw, if_true]
    refine Oper.wpIn_mono (fun a' w' h' => ?_) (hQ a w hC hq)
    have e : (listed.push false).setIfInBounds l.length true = listed.push true := set_push_last hs
    rw [e]
    exact hend fuel listed a' w' hs hall h'
  intro fuel
  induction fuel with
  | zero =>
    intro listed a w hs hC h
    have hall := all_listed hl hs h.1
    refine ⟨fun hr => ?_, fun i hi => ?_⟩
    · have := (ready_last hl hs).2 hall
      rw [hr] at this; cases this
    · rcases ready_cases hl hs hi with ⟨_, hi'⟩ | ⟨rfl, _⟩
      · rw [h.1] at hi'; cases hi'
      · exact hlast 0 listed a w hs hC h.2 hall
  | succ fuel ih =>
    intro listed a w hs hC h
    refine ⟨fun hr => ?_, fun i hi => ?_⟩
    · have hr' : Region.ready .any l.toArray listed = [] := by
        cases hr2 : Region.ready .any l.toArray listed with
        | nil => rfl
        | cons i r =>
          have hi : i ∈ Region.ready .any l.toArray listed := by rw [hr2]; simp
          obtain ⟨_, x, hx, _⟩ := mem_ready.1 hi
          have hil : i < l.length := by
            have : l[i]? = some x := by simpa using hx
            exact (List.getElem?_eq_some_iff.1 this).1
          have := (ready_pre (b := false) hl hs hil).2 hi
          rw [hr] at this; cases this
      have := (ready_last hl hs).2 (all_listed hl hs hr')
      rw [hr] at this; cases this
    · rcases ready_cases hl hs hi with ⟨hil, hi'⟩ | ⟨rfl, _⟩
      · have hx := h.2 i hi'
        unfold qOpIn at hx
        unfold wpOpIn
        rw [at_pre hil]
        have hxo : l.toArray[i]? = some l[i] := by simp [hil]
        rw [hxo] at hx ⊢
        simp only at hx ⊢
        have hgd := (h1 i l[i] (List.getElem?_eq_getElem hil)).1
        have hw1 : Region.wanted l[i] (yielded l.toArray a.tmps) = true := by simp [Region.wanted, hgd]
        have hw2 : Region.wanted l[i] (yielded (l ++ [o]).toArray a.tmps) = true := by simp [Region.wanted, hgd]
        simp only [hw1, if_true] at hx
        simp only [hw2, if_true]
        refine Oper.wpIn_of_quiet hro hC (fun a' w' hC' hK => ?_) hx.1 hx.2
        have e : (listed.push false).setIfInBounds i true = (listed.setIfInBounds i true).push false := set_push_pre (by omega)
        rw [e]
        exact ih (listed.setIfInBounds i true) a' w' (by simpa using hs) hC' hK
      · have hall := (ready_last hl hs).1 hi
        exact hlast (fuel + 1) listed a w hs hC (h.1 (none_listed hl hs hall)) hall
end
theorem region_round_last {F : Fence} {n r id : Nat} {P : Program} {Q : Exit → Act → World → Prop} {a : Act} {w : World} {l : List Oper} {o : Oper} (hro : F.round = none) (hl : lastB l o = true) (hd : (l ++ [o]).all noDefer = true) (hm : P.follows .mixedOrders = true) (hB : Region.lexB .any l.toArray = true)
    (h : wpQuietIn F n P l.toArray (fun w' => ∃ k, w' = w.drewN k) (fun a' => ∀ w', (∃ k, w' = w.drewN k) → o.wpIn F n P a' w' (fun a'' w'' => Q .normal a'' w'') Q) l a) : (Code.region id (l ++ [o]).toArray true).wpIn (F.inRound r) n P Q a w := by
  simp only [Region.lexB, Bool.and_eq_true] at hB
  refine wpIn_region_any hm (wpAny_round ?_ _ _ _ _ ?_)
  · intro i x ho
    have : (l ++ [o])[i]? = some x := by simpa using ho
    exact List.all_eq_true.1 hd x (List.mem_of_getElem? this)
  · have h1 := wpAnyQIn_lex (F := F) (n := n) (P := P) (C := fun w' => ∃ k, w' = w.drewN k) (md := .any) (ops := l.toArray) (Q := fun a' => ∀ w', (∃ k, w' = w.drewN k) → o.wpIn F n P a' w' (fun a'' w'' => Q .normal a'' w'') Q) hB.1 l 0 (Array.replicate l.toArray.size false) a (by simp) (by simpa using hB.2) h
    have h2 := any_last (F := F) (n := n) (P := P) (C := fun w' => ∃ k, w' = w.drewN k) (Q1 := fun a' => ∀ w', (∃ k, w' = w.drewN k) → o.wpIn F n P a' w' (fun a'' w'' => Q .normal a'' w'') Q) (Q := Q) hro hl (fun a w' hC hq => hq w' hC) l.length (Array.replicate l.length false) a { w with drawn := w.drawn + 1 } (by simp) ⟨1, rfl⟩ (by simpa using h1)
    have e : (Array.replicate l.length false).push false = Array.replicate (l ++ [o]).toArray.size false := by
      simp [Array.replicate_succ]
    rw [e] at h2
    simpa using h2
end Go.Proofs.Ytfnpiknobmecbaa
