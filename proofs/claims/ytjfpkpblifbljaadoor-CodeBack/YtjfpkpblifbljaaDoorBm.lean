/- What is told of a number is read as it, whichever letters are great. -/
import Derived.Test.YtjfpkpblifbljaaDoorKn
import Derived.Lib.Case
namespace Go.Proofs.YtjfpkpblifbljaaDoor
open Go.ChangeShapes Go.WideShapes Go.ChangeAt Go.RowKit
set_option linter.unusedVariables false
set_option linter.unusedSimpArgs false

/-- A byte made great. -/
def ub (b : UInt8) : UInt8 := UInt8.ofNat (uz (b.toNat : Int)).toNat
theorem up_map (l : List UInt8) : (up ⟨l.toArray⟩).data.toList = l.map ub := by
  simp only [up, nums, txt, List.map_map]
  rfl
/-- A digit or a great letter. -/
def gb (b : UInt8) : Bool := (decide (48 ≤ b.toNat) && decide (b.toNat ≤ 57)) || (decide (65 ≤ b.toNat) && decide (b.toNat ≤ 90))
theorem gb_all : ∀ n : Fin 256, gb (UInt8.ofNat n.val) = true → ub (UInt8.ofNat n.val) = UInt8.ofNat n.val ∧ ub (Lib.lowerB (UInt8.ofNat n.val)) = UInt8.ofNat n.val ∧ (UInt8.ofNat n.val).toNat < 128 := by decide +kernel
theorem gb_at (b : UInt8) (h : gb b = true) : ub b = b ∧ ub (Lib.lowerB b) = b ∧ b.toNat < 128 := by
  have := gb_all ⟨b.toNat, b.toNat_lt⟩
  simp only [UInt8.ofNat_toNat] at this
  exact this h
/-- A word of digits and great letters. -/
def GB (l : List UInt8) : Prop := ∀ b ∈ l, gb b = true
theorem GB.up {l : List UInt8} (h : GB l) : l.map ub = l := by
  conv => rhs; rw [← List.map_id l]
  exact List.map_congr_left fun b hb => (gb_at b (h b hb)).1
theorem GB.low {l : List UInt8} (h : GB l) : (Lib.toLowerA l).map ub = l := by
  unfold Lib.toLowerA
  rw [List.map_map]
  conv => rhs; rw [← List.map_id l]
  exact List.map_congr_left fun b hb => (gb_at b (h b hb)).2.1
theorem GB.ascii {l : List UInt8} (h : GB l) : ∀ (j : Nat) (b : UInt8), (⟨l.toArray⟩ : ByteArray).data.toList[j]? = some b → b.toNat < 128 := by
  intro j b hb
  exact (gb_at b (h b (List.mem_of_getElem? hb))).2.2
/-- A kind whose words are apart. -/
structure KGood (ps : Own4) (pre : List UInt8) : Prop where
  gp : GB pre
  gw : ∀ p ∈ ps, GB p.1
  one : ∀ p ∈ ps, ps.find? (fun q => q.1 == p.1) = some p
  no : ∀ p ∈ ps, pre.isPrefixOf p.1 = false
  len : pre.length ≤ 100 ∧ ∀ p ∈ ps, p.1.length ≤ 100
theorem tell_gb {ps : Own4} {pre : List UInt8} (h : KGood ps pre) (n : Nat) : GB (tellF ps pre n) := by
  unfold tellF
  split
  · rename_i p hf
    exact h.gw p (List.mem_of_find?_eq_some hf)
  · intro b hb
    simp only [List.mem_append] at hb
    rcases hb with hb | hb
    · exact h.gp b hb
    · have := dec_digit n b hb
      simp [gb, this]
theorem tell_len {ps : Own4} {pre : List UInt8} (h : KGood ps pre) (n : Nat) (hn : n < 65536) : (tellF ps pre n).length ≤ 200 := by
  unfold tellF
  split
  · rename_i p hf
    have := h.len.2 p (List.mem_of_find?_eq_some hf)
    omega
  · have := h.len.1
    have := dec_len n (by omega)
    simp; omega
theorem tell_read {ps : Own4} {pre : List UInt8} (h : KGood ps pre) (n below : Nat) (hn : n < below) : readF ps pre below (tellF ps pre n) = some n := by
  cases hf : ps.find? (fun p => p.2 == n) with
  | some p =>
    rw [tellF_own _ _ _ p hf]
    have hp := List.mem_of_find?_eq_some hf
    have e : p.2 = n := by simpa using List.find?_some hf
    rw [readF_own ps pre below p.1 p (h.one p hp) (by omega), e]
  | none =>
    rw [tellF_pre _ _ _ hf, readF_pre]
    · exact numF_dec n below hn
    · refine List.find?_eq_none.2 fun p hp he => ?_
      have e := eq_of_beq he
      have := h.no p hp
      rw [e, List.isPrefixOf_iff_prefix.2 (List.prefix_append _ _)] at this
      cases this
theorem tell_inj {ps : Own4} {pre : List UInt8} (h : KGood ps pre) {m n : Nat} (hm : m < 65536) (hn : n < 65536) (he : tellF ps pre m = tellF ps pre n) : m = n := by
  have h1 := tell_read h m 65536 hm
  rw [he, tell_read h n 65536 hn] at h1
  exact (Option.some.inj h1).symm
theorem kg {ps : Own4} {pre : List UInt8} (h1 : pre.all gb = true) (h2 : (ps.all fun p => p.1.all gb) = true) (h3 : (ps.all fun p => decide (ps.find? (fun q => q.1 == p.1) = some p)) = true) (h4 : (ps.all fun p => !pre.isPrefixOf p.1) = true) (h5 : (decide (pre.length ≤ 100) && ps.all fun p => decide (p.1.length ≤ 100)) = true) : KGood ps pre := by
  simp only [List.all_eq_true, decide_eq_true_eq, Bool.not_eq_true', Bool.and_eq_true] at *
  exact ⟨h1, h2, h3, h4, h5⟩
theorem types_good : KGood typesW typesP.data.toList := kg (by decide +kernel) (by decide +kernel) (by decide +kernel) (by decide +kernel) (by decide +kernel)
theorem classes_good : KGood classesW classesP.data.toList := kg (by decide +kernel) (by decide +kernel) (by decide +kernel) (by decide +kernel) (by decide +kernel)
theorem rcodes_good : KGood rcodesW rcodesP.data.toList := kg (by decide +kernel) (by decide +kernel) (by decide +kernel) (by decide +kernel) (by decide +kernel)
/-- The text of a told word, and its letters small: both are read as the number. -/
theorem back_up {ps : Own4} {pre : List UInt8} (h : KGood ps pre) (n below : Nat) (hn : n < below) : readF ps pre below (up ⟨(tellF ps pre n).toArray⟩).data.toList = some n := by
  rw [up_map, (tell_gb h n).up]; exact tell_read h n below hn
theorem back_low {ps : Own4} {pre : List UInt8} (h : KGood ps pre) (n below : Nat) (hn : n < below) : readF ps pre below (up ⟨(Lib.toLowerA (tellF ps pre n)).toArray⟩).data.toList = some n := by
  rw [up_map, (tell_gb h n).low]; exact tell_read h n below hn
end Go.Proofs.YtjfpkpblifbljaaDoor
