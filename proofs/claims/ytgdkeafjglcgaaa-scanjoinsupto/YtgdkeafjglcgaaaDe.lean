/- The document's reading of words: what is read so far. No text of the program is used here. -/
import Derived.Test.YtgdkeafjglcgaaaDa
import Derived.Test.YtgdkeafjglcgaaaSi
namespace Go.Proofs.Ytgdkeafjglcgaaa
open Go.ChangeShapes Go.WideShapes Go.ChangeAt Go.RowKit
set_option linter.unusedVariables false
set_option linter.unusedSimpArgs false

def rst (s : ByteArray) (p : Nat) : List UInt8 := s.data.toList.drop p
def seg (s : ByteArray) (f p : Nat) : List UInt8 := (s.data.toList.take p).drop f
theorem rst_cons {s : ByteArray} {p : Nat} (h : p < s.size) : rst s p = s[p] :: rst s (p + 1) := by
  unfold rst
  rw [List.drop_eq_getElem_cons (by simpa using h)]
  rfl
theorem rst_nil {s : ByteArray} {p : Nat} (h : ¬ p < s.size) : rst s p = [] := by
  unfold rst
  rw [List.drop_of_length_le (by simp; omega)]
theorem seg_snoc {s : ByteArray} {f p : Nat} (hf : f ≤ p) (h : p < s.size) : seg s f (p + 1) = seg s f p ++ [s[p]] := by
  unfold seg
  have hl : p < s.data.toList.length := by simpa using h
  rw [List.take_succ_eq_append_getElem hl, List.drop_append_of_le_length (by simp; omega)]
  rfl
theorem seg_self (s : ByteArray) (f : Nat) : seg s f f = [] := by
  unfold seg
  rw [List.drop_of_length_le (by simp; omega)]
theorem seg_text {s : ByteArray} {f p : Nat} (hf : f ≤ p) (hp : p ≤ s.size) : (⟨(seg s f p).toArray⟩ : ByteArray) = s.extract f p := by
  have := cur_text (s := s) (q := ⟨0, 0, 0, seg s f p, 0, false, [], []⟩) (start := f) (p := p) ⟨hf, hp, rfl⟩
  exact this
theorem stop_rst {s : ByteArray} {p : Nat} (h : ∀ h : p < s.size, endsW s[p] = true) : Stop (rst s p) := by
  intro c t e
  by_cases hp : p < s.size
  · rw [rst_cons hp] at e
    injection e with e1 _
    rw [← e1]; exact h hp
  · rw [rst_nil hp] at e; cases e
theorem ten_rst {s : ByteArray} {p : Nat} (h : ∀ h : p < s.size, s[p] = 10) : ∀ c t, rst s p = c :: t → c = 10 := by
  intro c t e
  by_cases hp : p < s.size
  · rw [rst_cons hp] at e
    injection e with e1 _
    rw [← e1]; exact h hp
  · rw [rst_nil hp] at e; cases e
/-- A word, read from p0 up to p. -/
def GW (L : Nat) (s : ByteArray) (q : Cf) (p0 p : Nat) : Prop := p = p0 ∨ (p0 < p ∧ goF L q (rst s p0) = goF L (inW q (seg s p0 p)) (rst s p))
section
variable {L : Nat} {s : ByteArray} {q : Cf} {p0 p : Nat}
theorem GW.next (h : GW L s q p0 p) (hq : q.st = 0) (hp : p < s.size) (he : endsW s[p] = false) (h1 : s[p] ≠ 34) (h2 : s[p] ≠ 92) : GW L s q p0 (p + 1) := by
  rcases h with rfl | ⟨hl, h⟩
  · refine .inr ⟨by omega, ?_⟩
    rw [rst_cons hp, w_first L q _ _ hq he h1 h2, seg_snoc (Nat.le_refl _) hp, seg_self]; rfl
  · refine .inr ⟨by omega, ?_⟩
    rw [h, rst_cons hp, w_next L q _ _ _ he h1 h2, seg_snoc (by omega) hp]
theorem GW.pair (h : GW L s q p0 p) (hq : q.st = 0) (hp : p + 1 < s.size) (h92 : s[p] = 92) (h10 : s[p + 1] ≠ 10) : GW L s q p0 (p + 2) := by
  have hr : rst s p = 92 :: s[p + 1] :: rst s (p + 2) := by rw [rst_cons (by omega), rst_cons hp, h92]
  have hs : p0 ≤ p → seg s p0 (p + 2) = seg s p0 p ++ [92, s[p + 1]] := fun hle => by
    rw [show p + 2 = p + 1 + 1 from rfl, seg_snoc (by omega) hp, seg_snoc hle (by omega), h92]; simp
  rcases h with rfl | ⟨hl, h⟩
  · refine .inr ⟨by omega, ?_⟩
    rw [hr, w_first92 L q _ _ hq h10, hs (Nat.le_refl _), seg_self]; rfl
  · refine .inr ⟨by omega, ?_⟩
    rw [h, hr, w_next92 L q _ _ _ h10, hs (by omega)]
theorem GW.pair_no (h : GW L s q p0 p) (hq : q.st = 0) (hp : p < s.size) (h92 : s[p] = 92) (hno : ∀ h : p + 1 < s.size, s[p + 1] = 10) : Er (goF L q (rst s p0)) := by
  have hr : rst s p = 92 :: rst s (p + 1) := by rw [rst_cons hp, h92]
  rcases h with rfl | ⟨hl, h⟩
  · rw [hr]; exact w_first92_no L q _ hq (ten_rst hno)
  · rw [h, hr]; exact w_next92_no L q _ _ (ten_rst hno)
theorem GW.q34 (h : GW L s q p0 p) (hl : p0 < p) (hp : p < s.size) (h34 : s[p] = 34) : Er (goF L q (rst s p0)) := by
  rcases h with rfl | ⟨_, h⟩
  · omega
  · rw [h, rst_cons hp, h34]; exact w_34 L q _ _
theorem GW.end_no (h : GW L s q p0 p) (hl : p0 < p) (hst : ∀ h : p < s.size, endsW s[p] = true) (h64 : q.ws.length = 64) : Er (goF L q (rst s p0)) := by
  rcases h with rfl | ⟨_, h⟩
  · omega
  · rw [h]; exact w_end_no L q _ _ (stop_rst hst) h64
theorem GW.end_ (h : GW L s q p0 p) (hq : q.st = 0) (hl : p0 < p) (hps : p ≤ s.size) (hst : ∀ h : p < s.size, endsW s[p] = true) (h64 : ¬ q.ws.length = 64) : goF L q (rst s p0) = goF L (addW q (s.extract p0 p, false)) (rst s p) := by
  rcases h with rfl | ⟨_, h⟩
  · omega
  · rw [h, w_end L q _ _ hq (stop_rst hst) h64, seg_text (by omega) hps]
/-- A word in quotes, read from f up to p. -/
def GQ (L : Nat) (s : ByteArray) (q : Cf) (f p : Nat) (G : Rt) : Prop := f ≤ p ∧ G = goF L (inQ q (seg s f p)) (rst s p)
variable {f : Nat} {G : Rt}
theorem GQ.next (h : GQ L s q f p G) (hp : p < s.size) (h0 : s[p] ≠ 10) (h1 : s[p] ≠ 34) (h2 : s[p] ≠ 92) : GQ L s q f (p + 1) G :=
  ⟨by have := h.1; omega, by rw [h.2, rst_cons hp, q_next L q _ _ _ h0 h1 h2, seg_snoc h.1 hp]⟩
theorem GQ.pair (h : GQ L s q f p G) (hp : p + 1 < s.size) (h92 : s[p] = 92) (h10 : s[p + 1] ≠ 10) : GQ L s q f (p + 2) G := by
  have hr : rst s p = 92 :: s[p + 1] :: rst s (p + 2) := by rw [rst_cons (by omega), rst_cons hp, h92]
  have hs : seg s f (p + 2) = seg s f p ++ [92, s[p + 1]] := by
    rw [show p + 2 = p + 1 + 1 from rfl, seg_snoc (by have := h.1; omega) hp, seg_snoc h.1 (by omega), h92]; simp
  exact ⟨by have := h.1; omega, by rw [h.2, hr, q_92 L q _ _ _ h10, hs]⟩
theorem GQ.pair_no (h : GQ L s q f p G) (hp : p < s.size) (h92 : s[p] = 92) (hno : ∀ h : p + 1 < s.size, s[p + 1] = 10) : Er G := by
  rw [h.2, rst_cons hp, h92]; exact q_92_no L q _ _ (ten_rst hno)
theorem GQ.q10 (h : GQ L s q f p G) (hp : p < s.size) (h10 : s[p] = 10) : Er G := by
  rw [h.2, rst_cons hp, h10]; exact q_10 L q _ _
theorem GQ.end_ (h : GQ L s q f p G) (hp : ¬ p < s.size) : Er G := by
  rw [h.2, rst_nil hp]; exact q_nil L q _
theorem GQ.shut_no (h : GQ L s q f p G) (hp : p < s.size) (h34 : s[p] = 34) (hq : p + 1 < s.size) (he : endsW s[p + 1] = false) : Er G := by
  rw [h.2, rst_cons hp, h34, rst_cons hq]; exact q_close_no L q _ _ _ he
theorem GQ.shut_64 (h : GQ L s q f p G) (hp : p < s.size) (h34 : s[p] = 34) (h64 : q.ws.length = 64) : Er G := by
  rw [h.2, rst_cons hp, h34]; exact q_close_64 L q _ _ h64
theorem GQ.shut (h : GQ L s q f p G) (hs : q.st = 0) (hp : p < s.size) (h34 : s[p] = 34) (hst : ∀ h : p + 1 < s.size, endsW s[p + 1] = true) (h64 : ¬ q.ws.length = 64) : G = goF L (addW q (s.extract f p, true)) (rst s (p + 1)) := by
  rw [h.2, rst_cons hp, h34, q_close L q _ _ hs (stop_rst hst) h64, seg_text h.1 (by omega)]
end
end Go.Proofs.Ytgdkeafjglcgaaa
