/- What keep keeps, step by step. -/
import Derived.Test.YtfnpiknobmecbaaSqb2
import Derived.Test.YtfnpiknobmecbaaSqi
namespace Go.Proofs.Ytfnpiknobmecbaa
set_option linter.unusedVariables false
set_option linter.unusedSimpArgs false

theorem iup_mem0 {n : Nat} : ∀ {k j : Nat}, j < k → k ≤ n → ∀ h : j < n, (⟨j, h⟩ : Ix n) ∈ iup n k
  | 0, _, h, _, _ => by omega
  | k + 1, j, hj, hk, h => by
    rw [iup_succ (by omega)]
    by_cases e : j = k
    · subst e; simp
    · exact List.mem_append_left _ (iup_mem0 (by omega) (by omega) h)
/-- One tail more. -/
def kstep (start : Nat) (ss : List ByteArray) (P : List (ByteArray × Nat)) (x : Nat) : List (ByteArray × Nat) :=
  if (qfind P (qkey (ss.drop x))).isSome then P else (qkey (ss.drop x), start + offs ss x) :: P
def kf (pl : List (ByteArray × Nat)) (start : Nat) (ss : List ByteArray) (pre : List (Ix ss.length)) : List (ByteArray × Nat) := pre.foldl (fun P x => kstep start ss P x.1) pl
theorem kf_snoc (pl : List (ByteArray × Nat)) (start : Nat) (ss : List ByteArray) (pre : List (Ix ss.length)) (x : Ix ss.length) : kf pl start ss (pre ++ [x]) = kstep start ss (kf pl start ss pre) x.1 := by simp [kf]
theorem kf_len (pl : List (ByteArray × Nat)) (start : Nat) (ss : List ByteArray) (pre : List (Ix ss.length)) : (kf pl start ss pre).length ≤ pl.length + pre.length := by
  unfold kf
  induction pre generalizing pl with
  | nil => simp
  | cons x r ih =>
    rw [List.foldl_cons]
    refine Nat.le_trans (ih _) ?_
    unfold kstep
    split <;> simp <;> omega
theorem kf_iup (pl : List (ByteArray × Nat)) (start : Nat) (ss : List ByteArray) : ∀ k, k ≤ ss.length → (∀ j, j < k → start + offs ss j < 16384) → kf pl start ss (iup ss.length k) = qkeep pl start k ss
  | 0, _, _ => by simp [iup, kf, qkeep]
  | k + 1, hk, h => by
    have hkl : k < ss.length := hk
    rw [iup_succ hkl, kf_snoc, kf_iup pl start ss k (by omega) (fun j hj => h j (by omega)), keep_snoc pl start k ss hkl, if_neg (by have := h k (by omega); omega)]
    rfl
theorem keep_stop (pl : List (ByteArray × Nat)) (start : Nat) (ss : List ByteArray) (j : Nat) (h : 16384 ≤ start + offs ss j) : ∀ d, j + d ≤ ss.length → qkeep pl start (j + d) ss = qkeep pl start j ss
  | 0, _ => rfl
  | d + 1, hd => by
    have hlt : offs ss j ≤ offs ss (j + d) := by
      by_cases e : d = 0
      · subst e; exact Nat.le_refl _
      · exact Nat.le_of_lt (offs_lt (by omega) (by omega))
    rw [← Nat.add_assoc, keep_snoc pl start (j + d) ss (by omega), if_pos (by omega)]
    exact keep_stop pl start ss j h d (by omega)
/-- At the end: all tails, or up to the first that doesn't count. -/
theorem kf_all (pl : List (ByteArray × Nat)) (start m own : Nat) (ss : List ByteArray) (hm : m ≤ ss.length) (hown : ∀ k, k < ss.length → (k < m ↔ offs ss k < own)) (h : ∀ z ∈ iup ss.length ss.length, offs ss z.1 < own ∧ start + offs ss z.1 < 16384) : kf pl start ss (iup ss.length ss.length) = qkeep pl start m ss := by
  have hz : ∀ j, j < ss.length → offs ss j < own ∧ start + offs ss j < 16384 := fun j hj => h ⟨j, hj⟩ (iup_mem0 hj (Nat.le_refl _) hj)
  have e : m = ss.length := by
    by_cases e : m < ss.length
    · have := (hown m e).2 (hz m e).1; omega
    · omega
  rw [kf_iup pl start ss _ (Nat.le_refl _) (fun j hj => (hz j hj).2), e]
theorem kf_part (pl : List (ByteArray × Nat)) (start m own : Nat) (ss : List ByteArray) (hm : m ≤ ss.length) (hown : ∀ k, k < ss.length → (k < m ↔ offs ss k < own)) (k : Nat) (hk : k < ss.length) (h : ∀ z ∈ iup ss.length k, offs ss z.1 < own ∧ start + offs ss z.1 < 16384) (hx : own ≤ offs ss k ∨ 16384 ≤ start + offs ss k) : kf pl start ss (iup ss.length k) = qkeep pl start m ss := by
  have hz : ∀ j, j < k → offs ss j < own ∧ start + offs ss j < 16384 := fun j hj => h ⟨j, by omega⟩ (iup_mem0 hj (by omega) (by omega))
  rw [kf_iup pl start ss k (by omega) (fun j hj => (hz j hj).2)]
  have hkm : k ≤ m := by
    by_cases e : m < k
    · have := (hown m (by omega)).2 (hz m e).1; omega
    · omega
  rcases hx with hx | hx
  · have : ¬ k < m := fun h' => by have := (hown k hk).1 h'; omega
    have e : k = m := by omega
    rw [e]
  · have := keep_stop pl start ss k hx (m - k) (by omega)
    rw [show k + (m - k) = m by omega] at this
    exact this.symm
end Go.Proofs.Ytfnpiknobmecbaa
