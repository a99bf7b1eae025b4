/- Which of a name's tails is kept; what is written then. -/
import Derived.Test.YtfnpiknobmecbaaSqh
namespace Go.Proofs.Ytfnpiknobmecbaa
set_option linter.unusedVariables false
set_option linter.unusedSimpArgs false

theorem short_at (pl : List (ByteArray × Nat)) : ∀ (ss : List ByteArray) (k p : Nat), k < ss.length → (∀ j, j < k → qfind pl (qkey (ss.drop j)) = none) → qfind pl (qkey (ss.drop k)) = some p →
    qown pl ss = k ∧ qshort pl ss = nby (ss.take k) ++ [192 + (p : Int) / 256, (p : Int) % 256]
  | [], k, p, hk, _, _ => by simp at hk
  | s :: t, 0, p, _, _, hf => by
    rw [List.drop_zero] at hf
    constructor
    · rw [qown, hf]
    · rw [qshort, hf]; simp [nby]
  | s :: t, k + 1, p, hk, hn, hf => by
    have h0 := hn 0 (by omega)
    rw [List.drop_zero] at h0
    have ih := short_at pl t k p (by simpa using hk) (fun j hj => by have := hn (j + 1) (by omega); simpa using this) (by simpa using hf)
    constructor
    · rw [qown, h0]; simp [ih.1]
    · rw [qshort, h0]
      simp only
      rw [ih.2]
      simp [nby]
theorem short_none (pl : List (ByteArray × Nat)) : ∀ (ss : List ByteArray), (∀ j, j < ss.length → qfind pl (qkey (ss.drop j)) = none) → qown pl ss = ss.length ∧ qshort pl ss = nby ss ++ [0]
  | [], _ => by simp [qown, qshort, nby]
  | s :: t, hn => by
    have h0 := hn 0 (by simp)
    rw [List.drop_zero] at h0
    have ih := short_none pl t (fun j hj => by have := hn (j + 1) (by simpa using hj); simpa using this)
    constructor
    · rw [qown, h0]; simp [ih.1]
    · rw [qshort, h0]
      simp only
      rw [ih.2]
      simp [nby]
/-- How many bytes stand ahead of a pointer, or all. -/
def qob (pl : List (ByteArray × Nat)) (ss : List ByteArray) : Nat := if qown pl ss < ss.length then offs ss (qown pl ss) else nsz ss
theorem qown_le (pl : List (ByteArray × Nat)) : ∀ ss : List ByteArray, qown pl ss ≤ ss.length
  | [] => by simp [qown]
  | s :: t => by
    have ih := qown_le pl t
    unfold qown
    split
    · omega
    · simp; omega
theorem qown_nil : ∀ ss : List ByteArray, qown [] ss = ss.length := fun ss => (short_none [] ss (fun _ _ => rfl)).1
theorem qshort_nil : ∀ ss : List ByteArray, qshort [] ss = nby ss ++ [0] := fun ss => (short_none [] ss (fun _ _ => rfl)).2
theorem offs_lt {ss : List ByteArray} {j k : Nat} (h : j < k) (hk : k ≤ ss.length) : offs ss j < offs ss k := by
  induction k with
  | zero => omega
  | succ k ih =>
    rw [offs_succ ss k (by omega)]
    by_cases e : j = k
    · subst e; omega
    · have := ih (by omega) (by omega); omega
/-- The labels that stand ahead are those whose places lie below. -/
theorem own_iff (pl : List (ByteArray × Nat)) (ss : List ByteArray) (k : Nat) (hk : k < ss.length) : k < qown pl ss ↔ offs ss k < qob pl ss := by
  have hle := qown_le pl ss
  unfold qob
  split
  · next h =>
    constructor
    · intro h1; exact offs_lt h1 hle
    · intro h1
      by_cases e : k < qown pl ss
      · exact e
      · by_cases e2 : k = qown pl ss
        · rw [e2] at h1; omega
        · have := offs_lt (ss := ss) (show qown pl ss < k by omega) (by omega); omega
  · next h =>
    have e : qown pl ss = ss.length := by omega
    rw [e]
    have := offs_le ss k
    omega
/-- What is kept of the first k labels. -/
theorem keep_len (pl : List (ByteArray × Nat)) (start m : Nat) (ss : List ByteArray) : (qkeep pl start m ss).length ≤ pl.length + m := by
  induction m generalizing pl start ss with
  | zero => simp [qkeep]
  | succ m ih =>
    cases ss with
    | nil => simp [qkeep]
    | cons s t =>
      unfold qkeep
      split
      · omega
      · refine Nat.le_trans (ih _ _ _) ?_
        split <;> simp <;> omega
theorem keep_snoc (pl : List (ByteArray × Nat)) (start : Nat) : ∀ (m : Nat) (ss : List ByteArray) (h : m < ss.length), qkeep pl start (m + 1) ss = (if 16384 ≤ start + offs ss m then qkeep pl start m ss else if (qfind (qkeep pl start m ss) (qkey (ss.drop m))).isSome then qkeep pl start m ss else (qkey (ss.drop m), start + offs ss m) :: qkeep pl start m ss) := by
  intro m
  induction m generalizing pl start with
  | zero =>
    intro ss h
    cases ss with
    | nil => simp at h
    | cons s t => simp [qkeep, offs_zero]
  | succ m ih =>
    intro ss h
    cases ss with
    | nil => simp at h
    | cons s t =>
      have ho : offs (s :: t) (m + 1) = 1 + s.size + offs t m := by
        unfold offs
        simp [nby, nums_len]
        omega
      by_cases h16 : 16384 ≤ start
      · have e1 : ∀ k, qkeep pl start k (s :: t) = pl := by
          intro k
          cases k with
          | zero => rfl
          | succ k => simp [qkeep, h16]
        rw [e1, e1, if_pos (by omega)]
      · rw [qkeep, if_neg h16, ih _ _ t (by simpa using h), qkeep, if_neg h16, ho]
        simp only [List.drop_succ_cons]
        rw [show start + 1 + s.size + offs t m = start + (1 + s.size + offs t m) by omega]
end Go.Proofs.Ytfnpiknobmecbaa
