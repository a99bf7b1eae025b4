/- The document's reading, piece by piece, against the machine. No text of the program is used here. -/
import Derived.Test.YtgdkeafjglcgaaaScc
namespace Go.Proofs.Ytgdkeafjglcgaaa
set_option linter.unusedVariables false
set_option linter.unusedSimpArgs false

def Er (r : Rt) : Prop := ∃ e l, r = .er e l
theorem er_mk (e l : Nat) : Er (.er e l) := ⟨e, l, rfl⟩
/-- Nothing more, or a byte that ends a word. -/
def Stop (r : List UInt8) : Prop := ∀ c t, r = c :: t → endsW c = true
theorem d_blank (L : Nat) (q : Cf) (c : UInt8) (r : List UInt8) (hq : q.st = 0) (hb : isB c = true) : goF L q (c :: r) = goF L q r := by
  have he : endsW c = true := by simp [endsW, hb]
  have hn : c ≠ 59 ∧ c ≠ 40 ∧ c ≠ 41 ∧ c ≠ 10 := by
    simp only [isB, Bool.or_eq_true, beq_iff_eq] at hb
    rcases hb with (rfl | rfl) | rfl <;> decide
  have hs : stepF q c r = .ok q := by
    simp only [stepF, hq, firstF, he, if_true, outR, outF, if_neg hn.1, if_neg hn.2.1, if_neg hn.2.2.1, if_neg hn.2.2.2]
    have : ({ q with st := 0 } : Cf) = q := by cases q; simp at hq ⊢; exact hq.symm
    simp [this]
  rw [goF, hs]
def nlF (q : Cf) (r : List UInt8) : Cf := if q.op = 0 then beginF (closeF { q with line := q.line + 1 }) r else { q with line := q.line + 1 }
theorem d_nl (L : Nat) (q : Cf) (r : List UInt8) (hq : q.st = 0) : goF L q (10 :: r) = goF L (nlF q r) r ∧ (nlF q r).st = 0 := by
  have hs : stepF q 10 r = .ok (nlF q r) := by
    simp only [stepF, hq, firstF, show endsW 10 = true from by decide, if_true, outR, outF]
    by_cases h : q.op = 0
    · simp [h, nlF, hq]
    · simp [h, nlF, hq]
  refine ⟨by rw [goF, hs], ?_⟩
  unfold nlF
  split
  · simp [beginF, closeF, hq]
  · exact hq
theorem d_open (L : Nat) (q : Cf) (r : List UInt8) (hq : q.st = 0) : goF L q (40 :: r) = goF L { q with op := q.op + 1 } r := by
  have hs : stepF q 40 r = .ok { q with op := q.op + 1 } := by
    simp [stepF, hq, firstF, show endsW 40 = true from by decide, outR, outF]
  rw [goF, hs]
theorem d_shut_no (L : Nat) (q : Cf) (r : List UInt8) (hq : q.st = 0) (ho : q.op = 0) : Er (goF L q (41 :: r)) := by
  have hs : stepF q 41 r = .er 230 := by
    simp [stepF, hq, firstF, show endsW 41 = true from by decide, outR, outF, ho]
  rw [goF, hs]; exact er_mk _ _
theorem d_shut (L : Nat) (q : Cf) (r : List UInt8) (hq : q.st = 0) (ho : ¬ q.op = 0) : goF L q (41 :: r) = goF L { q with op := q.op - 1 } r := by
  have hs : stepF q 41 r = .ok { q with op := q.op - 1 } := by
    simp [stepF, hq, firstF, show endsW 41 = true from by decide, outR, outF, ho]
  rw [goF, hs]
theorem d_rem (L : Nat) (q : Cf) (r : List UInt8) (hq : q.st = 0) : goF L q (59 :: r) = goF L { q with st := 6 } r := by
  have hs : stepF q 59 r = .ok { q with st := 6 } := by
    simp [stepF, hq, firstF, show endsW 59 = true from by decide, outR, outF]
  rw [goF, hs]
theorem d_rem_next (L : Nat) (q : Cf) (c : UInt8) (r : List UInt8) (hc : c ≠ 10) : goF L { q with st := 6 } (c :: r) = goF L { q with st := 6 } r := by
  have hs : stepF { q with st := 6 } c r = .ok { q with st := 6 } := by simp [stepF, hc]
  rw [goF, hs]
theorem d_rem_end (L : Nat) (q : Cf) (r : List UInt8) (hq : q.st = 0) (hr : ∀ c t, r = c :: t → c = 10) : goF L { q with st := 6 } r = goF L q r := by
  cases r with
  | nil =>
    simp [goF, finF, hq, closeF]
  | cons c t =>
    obtain rfl := hr c t rfl
    have h1 : stepF { q with st := 6 } 10 t = outR q 10 t := by
      have := outF_st q 6 10 t
      simp [stepF, outR, this]
    have h2 : stepF q 10 t = outR q 10 t := by
      simp [stepF, hq, firstF, show endsW 10 = true from by decide]
    rw [goF, goF, h1, h2]
/-- A word that is being read. -/
def inW (q : Cf) (u : List UInt8) : Cf := { q with st := 1, cur := u }
theorem w_first (L : Nat) (q : Cf) (c : UInt8) (r : List UInt8) (hq : q.st = 0) (he : endsW c = false) (h1 : c ≠ 34) (h2 : c ≠ 92) : goF L q (c :: r) = goF L (inW q [c]) r := by
  have hs : stepF q c r = .ok (inW q [c]) := by simp [stepF, hq, firstF, he, h1, h2, inW]
  rw [goF, hs]
theorem w_first92 (L : Nat) (q : Cf) (d : UInt8) (r : List UInt8) (hq : q.st = 0) (hd : d ≠ 10) : goF L q (92 :: d :: r) = goF L (inW q [92, d]) r := by
  have hs : stepF q 92 (d :: r) = .ok { q with st := 2, cur := [92] } := by simp [stepF, hq, firstF, show endsW 92 = false from by decide]
  have h2 : stepF { q with st := 2, cur := [92] } d r = .ok (inW q [92, d]) := by simp [stepF, hd, inW]
  rw [goF, hs]; simp only; rw [goF, h2]
theorem w_first92_no (L : Nat) (q : Cf) (r : List UInt8) (hq : q.st = 0) (hr : ∀ c t, r = c :: t → c = 10) : Er (goF L q (92 :: r)) := by
  have hs : stepF q 92 r = .ok { q with st := 2, cur := [92] } := by simp [stepF, hq, firstF, show endsW 92 = false from by decide]
  rw [goF, hs]; simp only
  cases r with
  | nil => rw [goF]; simp only [finF]; exact er_mk _ _
  | cons c t =>
    obtain rfl := hr c t rfl
    have h2 : stepF { q with st := 2, cur := [92] } 10 t = .er 230 := by simp [stepF]
    rw [goF, h2]; exact er_mk _ _
theorem w_next (L : Nat) (q : Cf) (u : List UInt8) (c : UInt8) (r : List UInt8) (he : endsW c = false) (h1 : c ≠ 34) (h2 : c ≠ 92) : goF L (inW q u) (c :: r) = goF L (inW q (u ++ [c])) r := by
  have hs : stepF (inW q u) c r = .ok (inW q (u ++ [c])) := by simp [stepF, nextF, he, h1, h2, inW]
  rw [goF, hs]
theorem w_next92 (L : Nat) (q : Cf) (u : List UInt8) (d : UInt8) (r : List UInt8) (hd : d ≠ 10) : goF L (inW q u) (92 :: d :: r) = goF L (inW q (u ++ [92, d])) r := by
  have hs : stepF (inW q u) 92 (d :: r) = .ok { q with st := 2, cur := u ++ [92] } := by simp [stepF, nextF, inW, show endsW 92 = false from by decide]
  have h2 : stepF { q with st := 2, cur := u ++ [92] } d r = .ok (inW q (u ++ [92, d])) := by simp [stepF, hd, inW]
  rw [goF, hs]; simp only; rw [goF, h2]
theorem w_next92_no (L : Nat) (q : Cf) (u r : List UInt8) (hr : ∀ c t, r = c :: t → c = 10) : Er (goF L (inW q u) (92 :: r)) := by
  have hs : stepF (inW q u) 92 r = .ok { q with st := 2, cur := u ++ [92] } := by simp [stepF, nextF, inW, show endsW 92 = false from by decide]
  rw [goF, hs]; simp only
  cases r with
  | nil => rw [goF]; simp only [finF]; exact er_mk _ _
  | cons c t =>
    obtain rfl := hr c t rfl
    have h2 : stepF { q with st := 2, cur := u ++ [92] } 10 t = .er 230 := by simp [stepF]
    rw [goF, h2]; exact er_mk _ _
theorem w_34 (L : Nat) (q : Cf) (u r : List UInt8) : Er (goF L (inW q u) (34 :: r)) := by
  have hs : stepF (inW q u) 34 r = .er 230 := by simp [stepF, nextF, inW, show endsW 34 = false from by decide]
  rw [goF, hs]; exact er_mk _ _
theorem addW_inW (q : Cf) (u : List UInt8) (hq : q.st = 0) : { addW (inW q u) (⟨u.toArray⟩, false) with st := 0 } = addW q (⟨u.toArray⟩, false) := by
  cases q; simp [addW, inW] at hq ⊢; exact hq.symm
theorem w_end_no (L : Nat) (q : Cf) (u r : List UInt8) (hr : Stop r) (h64 : q.ws.length = 64) : Er (goF L (inW q u) r) := by
  cases r with
  | nil => rw [goF]; simp [finF, inW, keepF, h64]; exact er_mk _ _
  | cons c t =>
    have hs : stepF (inW q u) c t = .er 3 := by simp [stepF, nextF, inW, hr c t rfl, keepF, h64]
    rw [goF, hs]; exact er_mk _ _
theorem w_end (L : Nat) (q : Cf) (u r : List UInt8) (hq : q.st = 0) (hr : Stop r) (h64 : ¬ q.ws.length = 64) : goF L (inW q u) r = goF L (addW q (⟨u.toArray⟩, false)) r := by
  have hk : keepF (inW q u) false = some { addW q (⟨u.toArray⟩, false) with st := 1 } := by
    simp [keepF, inW, h64, addW]
  cases r with
  | nil =>
    rw [goF, goF]
    have h0 : (addW q (⟨u.toArray⟩, false)).st = 0 := hq
    simp only [finF, show (inW q u).st = 1 from rfl, hk, h0]
    simp [closeF]
  | cons c t =>
    have he := hr c t rfl
    have h1 : stepF (inW q u) c t = outR (addW q (⟨u.toArray⟩, false)) c t := by
      have e := outF_st (addW q (⟨u.toArray⟩, false)) 1 c t
      simp only [stepF, show (inW q u).st = 1 from rfl, nextF, he, if_true, hk, outR, e]
      simp
    have h2 : stepF (addW q (⟨u.toArray⟩, false)) c t = outR (addW q (⟨u.toArray⟩, false)) c t := by
      have h0 : (addW q (⟨u.toArray⟩, false)).st = 0 := hq
      simp [stepF, h0, firstF, he]
    rw [goF, goF, h1, h2]
    rfl
/-- A word in quotes that is being read. -/
def inQ (q : Cf) (u : List UInt8) : Cf := { q with st := 3, cur := u }
theorem q_first (L : Nat) (q : Cf) (r : List UInt8) (hq : q.st = 0) : goF L q (34 :: r) = goF L (inQ q []) r := by
  have hs : stepF q 34 r = .ok (inQ q []) := by simp [stepF, hq, firstF, show endsW 34 = false from by decide, inQ]
  rw [goF, hs]
theorem q_next (L : Nat) (q : Cf) (u : List UInt8) (c : UInt8) (r : List UInt8) (h0 : c ≠ 10) (h1 : c ≠ 34) (h2 : c ≠ 92) : goF L (inQ q u) (c :: r) = goF L (inQ q (u ++ [c])) r := by
  have hs : stepF (inQ q u) c r = .ok (inQ q (u ++ [c])) := by simp [stepF, quotF, h0, h1, h2, inQ]
  rw [goF, hs]
theorem q_92 (L : Nat) (q : Cf) (u : List UInt8) (d : UInt8) (r : List UInt8) (hd : d ≠ 10) : goF L (inQ q u) (92 :: d :: r) = goF L (inQ q (u ++ [92, d])) r := by
  have hs : stepF (inQ q u) 92 (d :: r) = .ok { q with st := 4, cur := u ++ [92] } := by simp [stepF, quotF, inQ]
  have h2 : stepF { q with st := 4, cur := u ++ [92] } d r = .ok (inQ q (u ++ [92, d])) := by simp [stepF, hd, inQ]
  rw [goF, hs]; simp only; rw [goF, h2]
theorem q_92_no (L : Nat) (q : Cf) (u r : List UInt8) (hr : ∀ c t, r = c :: t → c = 10) : Er (goF L (inQ q u) (92 :: r)) := by
  have hs : stepF (inQ q u) 92 r = .ok { q with st := 4, cur := u ++ [92] } := by simp [stepF, quotF, inQ]
  rw [goF, hs]; simp only
  cases r with
  | nil => rw [goF]; simp only [finF]; exact er_mk _ _
  | cons c t =>
    obtain rfl := hr c t rfl
    have h2 : stepF { q with st := 4, cur := u ++ [92] } 10 t = .er 230 := by simp [stepF]
    rw [goF, h2]; exact er_mk _ _
theorem q_10 (L : Nat) (q : Cf) (u r : List UInt8) : Er (goF L (inQ q u) (10 :: r)) := by
  have hs : stepF (inQ q u) 10 r = .er 230 := by simp [stepF, inQ]
  rw [goF, hs]; exact er_mk _ _
theorem q_nil (L : Nat) (q : Cf) (u : List UInt8) : Er (goF L (inQ q u) []) := by
  rw [goF]; simp only [finF, inQ]; exact er_mk _ _
theorem q_close_64 (L : Nat) (q : Cf) (u r : List UInt8) (h64 : q.ws.length = 64) : Er (goF L (inQ q u) (34 :: r)) := by
  have hs : stepF (inQ q u) 34 r = .er 3 := by simp [stepF, quotF, inQ, keepF, h64]
  rw [goF, hs]; exact er_mk _ _
theorem q_close (L : Nat) (q : Cf) (u r : List UInt8) (hq : q.st = 0) (hr : Stop r) (h64 : ¬ q.ws.length = 64) : goF L (inQ q u) (34 :: r) = goF L (addW q (⟨u.toArray⟩, true)) r := by
  have hs : stepF (inQ q u) 34 r = .ok { addW q (⟨u.toArray⟩, true) with st := 5 } := by
    simp [stepF, quotF, inQ, keepF, h64, addW]
  rw [goF, hs]; simp only
  have h0 : (addW q (⟨u.toArray⟩, true)).st = 0 := hq
  cases r with
  | nil =>
    rw [goF, goF]
    simp [finF, h0, closeF]
  | cons c t =>
    have he := hr c t rfl
    have h1 : stepF { addW q (⟨u.toArray⟩, true) with st := 5 } c t = outR (addW q (⟨u.toArray⟩, true)) c t := by
      have e := outF_st (addW q (⟨u.toArray⟩, true)) 5 c t
      simp [stepF, he, outR, e]
    have h2 : stepF (addW q (⟨u.toArray⟩, true)) c t = outR (addW q (⟨u.toArray⟩, true)) c t := by
      simp [stepF, h0, firstF, he]
    rw [goF, goF, h1, h2]
theorem q_close_no (L : Nat) (q : Cf) (u : List UInt8) (c : UInt8) (r : List UInt8) (he : endsW c = false) : Er (goF L (inQ q u) (34 :: c :: r)) := by
  by_cases h64 : q.ws.length = 64
  · exact q_close_64 L q u _ h64
  · have hs : stepF (inQ q u) 34 (c :: r) = .ok { addW q (⟨u.toArray⟩, true) with st := 5 } := by
      simp [stepF, quotF, inQ, keepF, h64, addW]
    have h1 : stepF { addW q (⟨u.toArray⟩, true) with st := 5 } c r = .er 230 := by simp [stepF, he]
    rw [goF, hs]; simp only
    rw [goF, h1]; exact er_mk _ _
theorem d_fin (L : Nat) (q : Cf) (hq : q.st = 0) : goF L q [] = if 0 < q.op then .er 230 L else .ok (closeF q).es := by
  rw [goF]; simp [finF, hq]
end Go.Proofs.Ytgdkeafjglcgaaa
