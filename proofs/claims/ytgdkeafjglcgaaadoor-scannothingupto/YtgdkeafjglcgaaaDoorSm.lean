/- A text is read to its end, or to the first fault. -/
import Derived.Test.YtgdkeafjglcgaaaDoorSl
import Derived.WalkMore
namespace Go.Proofs.YtgdkeafjglcgaaaDoor
open Go.ChangeShapes Go.WideShapes Go.ChangeAt Go.RowKit
set_option linter.unusedVariables false
set_option linter.unusedSimpArgs false


theorem end52_any (B R : Nat) (w0 : Fx) (w : World) (s : ByteArray) (q : Cf) (start : Nat) (wv ev : Value) (wS : World) (k : Nat) (h : RS B R w0 w s q start wv ev wS) (hP : ∀ p ∈ w0.P, p.1 < w.heap.size) (hs : s.size ≤ 1000000) (hk : q.st = k) (hst : k ≤ 6) (hc : q.st = 1 → CurS s q start s.size) (hw : q.ws.length ≤ 64) (he : q.es.length ≤ 1000000) :
    Calls Tryd.prog 48 #[.pointer (some ⟨R, 0, none⟩), .int .u8 k] w (FnP B R w0 s (finF (linesF s.data.toList) q)) := by
  by_cases h1 : k = 3 ∨ k = 2 ∨ k = 4
  · exact end52_no B R w0 w s q start wv ev wS k h hP hs hk h1
  · by_cases h2 : k = 1
    · exact end52_word B R w0 w s q start wv ev wS k h hP hs hk h2 (hc (by omega)) hw he
    · exact end52_out B R w0 w s q start wv ev wS k h hP hs hk (by omega) he
/-- What is known of numbers. -/
structure Nb (q : Cf) (p : Nat) : Prop where
  st : q.st ≤ 6
  ln : q.line ≤ p + 1
  op : q.op ≤ p
  es : q.es.length ≤ p
  ws : q.ws.length ≤ 64
theorem keep_nb {q q' : Cf} {b : Bool} (h : keepF q b = some q') (hw : q.ws.length ≤ 64) : q'.ws.length ≤ 64 ∧ q'.op = q.op ∧ q'.line = q.line ∧ q'.es = q.es := by
  have h1 := keepF_es h
  have h2 := keep_line h
  unfold keepF at h
  split at h
  · cases h
  · refine ⟨?_, h1.2.1, h2, h1.1⟩
    rw [h1.2.2]; simp; omega
theorem close_nb (q : Cf) : (closeF q).es.length ≤ q.es.length + 1 := by
  unfold closeF; simp only; split <;> simp
theorem out_nb {q q' : Cf} {p : Nat} {c : UInt8} {r : List UInt8} (h : outF q c r = some q') (hl : q.line ≤ p + 1) (ho : q.op ≤ p) (he : q.es.length ≤ p) (hw : q.ws.length ≤ 64) : Nb q' (p + 1) := by
  unfold outF at h
  split at h
  · cases h; exact ⟨by simp, by simp; omega, by simp; omega, by simp; omega, hw⟩
  · split at h
    · cases h; exact ⟨by simp, by simp; omega, by simp; omega, by simp; omega, hw⟩
    · split at h
      · split at h
        · cases h
        · cases h; exact ⟨by simp, by simp; omega, by simp; omega, by simp; omega, hw⟩
      · split at h
        · split at h
          · cases h
            have := close_nb { q with st := 0, line := q.line + 1 }
            refine ⟨by simp [beginF, closeF], by simp [beginF, closeF]; omega, by simp [beginF, closeF]; omega, ?_, by simp [beginF]⟩
            show (closeF _).es.length ≤ p + 1
            simp only at this; omega
          · cases h; exact ⟨by simp, by simp; omega, by simp; omega, by simp; omega, hw⟩
        · cases h; exact ⟨by simp, by simp; omega, by simp; omega, by simp; omega, hw⟩
theorem Nb.step {q q' : Cf} {p : Nat} {c : UInt8} {r : List UInt8} (h : Nb q p) (hs : stepF q c r = .ok q') : Nb q' (p + 1) := by
  obtain ⟨h1, h2, h3, h4, h5⟩ := h
  have m : ∀ k cur, k ≤ 6 → Nb { q with st := k, cur := cur } (p + 1) := fun k cur hk => ⟨hk, by simp; omega, by simp; omega, by simp; omega, h5⟩
  unfold stepF at hs
  split at hs
  · cases hs
  · split at hs
    · unfold firstF at hs
      split at hs
      · exact out_nb (outR_ok hs) h2 h3 h4 h5
      · split at hs
        · cases hs; exact m 3 _ (by omega)
        · split at hs
          · cases hs; exact m 2 _ (by omega)
          · cases hs; exact m 1 _ (by omega)
    · split at hs
      · unfold nextF at hs
        split at hs
        · split at hs
          · cases hs
          · rename_i q1 hk
            obtain ⟨k1, k2, k3, k4⟩ := keep_nb hk h5
            exact out_nb (outR_ok hs) (by omega) (by omega) (by rw [k4]; exact h4) k1
        · split at hs
          · cases hs
          · split at hs
            · cases hs; exact m 2 _ (by omega)
            · cases hs; exact m 1 _ (by omega)
      · split at hs
        · cases hs; exact m 1 _ (by omega)
        · split at hs
          · unfold quotF at hs
            split at hs
            · split at hs
              · cases hs
              · rename_i q1 hk
                obtain ⟨k1, k2, k3, k4⟩ := keep_nb hk h5
                cases hs
                exact ⟨by simp, by simp; omega, by simp; omega, by simp [k4]; omega, k1⟩
            · split at hs
              · cases hs; exact m 4 _ (by omega)
              · cases hs; exact m 3 _ (by omega)
          · split at hs
            · cases hs; exact m 3 _ (by omega)
            · split at hs
              · split at hs
                · exact out_nb (outR_ok hs) h2 h3 h4 h5
                · cases hs
              · split at hs
                · exact out_nb (outR_ok hs) h2 h3 h4 h5
                · cases hs; exact ⟨h1, by omega, by omega, by omega, h5⟩
def Cu (s : ByteArray) (q : Cf) (start p : Nat) : Prop := (q.st = 1 ∨ q.st = 2 ∨ q.st = 3 ∨ q.st = 4) → CurS s q start p
theorem drop_at (s : ByteArray) (p : Nat) (h : p < s.size) : s.data.toList.drop p = s[p] :: s.data.toList.drop (p + 1) := by
  rw [List.drop_eq_getElem_cons (by simpa using h)]; rfl
end Go.Proofs.YtgdkeafjglcgaaaDoor
