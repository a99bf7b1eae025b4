/- The statement about words of numbers: its walk. -/
import Derived.Test.YtjfpkpblifbljaaDoorRq
namespace Go.Proofs.YtjfpkpblifbljaaDoor
open Go.ChangeShapes Go.WideShapes Go.ChangeAt Go.RowKit
set_option linter.unusedVariables false
set_option linter.unusedSimpArgs false

set_option maxRecDepth 100000 in
set_option maxHeartbeats 1000000 in
theorem told_any (b1 b2 N : Nat) (pre : ByteArray) (many : Int) (most : Nat) (hmany : many = (most : Int) + 1) (hm : most < 65536) (ps : Own4) (hN : ps.length = N) (hN2 : N ≤ 1000) (hpre : pre.size ≤ 100) (n : Int) (l : List UInt8) (y : Int) (hT : Told ps pre.data.toList most n l y) (w : World) (hR : RK w b1 b2 ps) :
    Calls Tryd.prog 18 #[.string ⟨l.toArray⟩, .int .i64 y, .agg #[.slice (some ⟨b1, 0, none⟩) N N, .slice (some ⟨b2, 0, none⟩) N N, .string pre, .int .i64 many], .int .i64 n] w fun e w' => e = .returned (.bool true) ∧ Hid (Below w.heap.size w w') := by
  have HB : Hid (Below w.heap.size w (w.alloc (.cells #[.slice (some ⟨b1, 0, none⟩) N N, .slice (some ⟨b2, 0, none⟩) N N, .string pre, .int .i64 many] 37))) := (Below.refl _ _).alloc (Nat.le_refl _) _
  have HX : Hid (RBox (w.alloc (.cells #[.slice (some ⟨b1, 0, none⟩) N N, .slice (some ⟨b2, 0, none⟩) N N, .string pre, .int .i64 many] 37)) w.heap.size b1 b2 N pre many) := RBox.new w b1 b2 N pre many
  have HR : Hid (RK (w.alloc (.cells #[.slice (some ⟨b1, 0, none⟩) N N, .slice (some ⟨b2, 0, none⟩) N N, .string pre, .int .i64 many] 37)) b1 b2 ps) := hR.below HB.out
  have HM : Hid (many = (most : Int) + 1) := hmany
  have HT : Hid (Told ps pre.data.toList most n l y) := hT
  have HN : Hid (ps.length = N) := hN
  clear hR hmany hT hN
  go_enter Tryd.func18, Tryd.ntmps18
  go_upto_region 1 with fail
  generalize (w.alloc (.cells #[.slice (some ⟨b1, 0, none⟩) N N, .slice (some ⟨b2, 0, none⟩) N N, .string pre, .int .i64 many] 37)) = W1 at *
  have c0 := HX.out.1
  have c1 := HX.out.2.1
  have c2 := HX.out.2.2.1
  have c3 := HX.out.2.2.2.1
  by_cases h1 : n < 0
  · obtain ⟨rfl, rfl⟩ := HT.out.2 (.inl h1)
    clear HT HM
    go_wp2_with fail
    go_ret
    exact ⟨rfl, HB.out⟩
  · by_cases h2 : n < many
    · obtain ⟨k, rfl⟩ : ∃ k : Nat, n = (k : Int) := ⟨n.toNat, by omega⟩
      have hk : k < 65536 := by have := HM.out; omega
      obtain ⟨rfl, rfl⟩ := HT.out.1 (by omega) (by have := HM.out; omega)
      clear HT HM
      rw [Int.toNat_natCast]
      go_wp2_with fail
      refine (rtell_any b1 b2 N pre many ps k hk HN.out hN2 hpre W1 HR.out).mono ?_
      rintro e W2 ⟨rfl, H2⟩
      have HB2 : Hid (Below w.heap.size w W2) := HB.out.trans (H2.out.mono HB.out.size)
      clear HB H2 HX HR
      generalize tellF ps pre.data.toList k = lw
      have hq : (lw == lw) = true := by simp
      go_wp2_with fail
      go_ret
      exact ⟨rfl, HB2.out⟩
    · have h2' : many ≤ n := by omega
      obtain ⟨rfl, rfl⟩ := HT.out.2 (.inr (by have := HM.out; omega))
      clear HT HM
      go_wp2_with fail
      go_ret
      exact ⟨rfl, HB.out⟩
set_option maxRecDepth 100000 in
set_option maxHeartbeats 1000000 in
theorem rstored_any (t : Int) (w : World) : Calls Tryd.prog 25 #[.int .u16 t] w fun e w' => e = .returned (.bool (storedF t)) ∧ w' = w := by
  go_enter Tryd.func25, Tryd.ntmps25
  by_cases h0 : t = 0
  · subst h0
    go_wp2_with fail
    go_ret
    exact ⟨ret_bool (by decide), rfl⟩
  · by_cases h1 : t = 41
    · subst h1
      go_wp2_with fail
      go_ret
      exact ⟨ret_bool (by decide), rfl⟩
    · have q0 : (t != 0) = true := by simp [h0]
      have q1 : (t != 41) = true := by simp [h1]
      by_cases h2 : t < 128
      · go_wp2_with fail
        go_ret
        refine ⟨ret_bool ?_, rfl⟩
        simp [storedF, h0, h1, h2]
      · go_wp2_with fail
        all_goals
          go_ret
          refine ⟨ret_bool ?_, rfl⟩
          simp_all [storedF]
          try omega
/-- A type's own word begins as no other's. -/
theorem known_word (t : Nat) (ht : t < 65536) : (decide (t ≠ 41) && decide (t ≠ 255) && !(tellF typesW typesP.data.toList t == typesP.data.toList ++ Lib.decDigits t)) = knownF (t : Int) := by
  cases hf : typesW.find? (fun p => p.2 == t) with
  | some p =>
    rw [tellF_own _ _ _ p hf]
    have hp := List.mem_of_find?_eq_some hf
    have e : p.2 = t := by simpa using List.find?_some hf
    have hno : (typesW.all fun p => !typesP.data.toList.isPrefixOf p.1) = true := by decide +kernel
    have hb : (p.1 == typesP.data.toList ++ Lib.decDigits t) = false := by
      cases hq : p.1 == typesP.data.toList ++ Lib.decDigits t with
      | false => rfl
      | true =>
        have := List.all_eq_true.1 hno p hp
        rw [eq_of_beq hq, List.isPrefixOf_iff_prefix.2 (List.prefix_append _ _)] at this
        cases this
    rw [hb]
    subst e
    have hall : (typesW.all fun p => (decide (p.2 ≠ 41) && decide (p.2 ≠ 255) && !false) == knownF (p.2 : Int)) = true := by decide +kernel
    exact eq_of_beq (List.all_eq_true.1 hall p hp)
  | none =>
    rw [tellF_pre _ _ _ hf]
    have hn : ∀ k ∈ ([1, 2, 5, 6, 12, 15, 16, 28, 33, 257] : List Nat), t ≠ k := by
      intro k hk e
      subst e
      have hall : ∀ k ∈ ([1, 2, 5, 6, 12, 15, 16, 28, 33, 257] : List Nat), (typesW.find? (fun p => p.2 == k)).isSome = true := by decide +kernel
      have := hall t hk
      rw [hf] at this
      cases this
    have hk : knownF (t : Int) = false := by
      simp only [List.mem_cons, List.not_mem_nil, or_false, forall_eq_or_imp, forall_eq] at hn
      simp [knownF]
      omega
    rw [hk]
    simp
set_option maxRecDepth 100000 in
set_option maxHeartbeats 1000000 in
theorem rknown_any (t : Nat) (ht : t < 65536) (w : World) : Calls Tryd.prog 23 #[.int .u16 t] w fun e w' => e = .returned (.bool (knownF t)) ∧ Hid (Below w.heap.size w w') := by
  have HK : Hid ((decide (t ≠ 41) && decide (t ≠ 255) && !(tellF typesW typesP.data.toList t == typesP.data.toList ++ Lib.decDigits t)) = knownF (t : Int)) := known_word t ht
  go_enter Tryd.func23, Tryd.ntmps23
  by_cases h0 : t = 41
  · subst h0
    go_wp2_with fail
    go_ret
    exact ⟨ret_bool (by decide), Below.refl _ _⟩
  · by_cases h1 : t = 255
    · subst h1
      go_wp2_with fail
      go_ret
      exact ⟨ret_bool (by decide), Below.refl _ _⟩
    · have q0 : ((t : Int) != 41) = true := by simp; omega
      have q1 : ((t : Int) != 255) = true := by simp; omega
      have hw : IntKind.i64.wrap (t : Int) = (t : Int) := by rw [IntKind.wrap_i64]; omega
      go_wp2_with fail
      refine (rtypes_any w).mono ?_
      rintro e W1 ⟨b1, b2, rfl, HR, H1⟩
      go_wp2_with fail
      refine (rtell_any b1 b2 12 typesP _ typesW t ht rfl (by decide) (by decide +kernel) W1 HR.out).mono ?_
      rintro e W2 ⟨rfl, H2⟩
      have HB2 : Hid (Below w.heap.size w W2) := H1.out.trans (H2.out.mono H1.out.size)
      clear HR H1 H2
      go_wp2_with fail
      refine (decimal_any t ht W2).mono ?_
      rintro e W3 ⟨rfl, H3⟩
      have HB3 : Hid (Below w.heap.size w W3) := HB2.out.trans (H3.out.mono HB2.out.size)
      have hcat : ¬ 9223372036854775807 < 4 + (Lib.decDigits t).length := by
        have := dec_len t (by omega)
        omega
      clear HB2 H3
      have HK2 : Hid ((!(tellF typesW typesP.data.toList t == typesP.data.toList ++ Lib.decDigits t)) = knownF (t : Int)) := by
        have := HK.out
        rw [decide_eq_true h0, decide_eq_true h1] at this
        exact this
      clear HK
      generalize tellF typesW typesP.data.toList t = lw at *
      go_wp2_with fail
      go_ret
      refine ⟨ret_bool ?_, HB3.out⟩
      rw [← HK2.out]
      have e : ((⟨#[84, 89, 80, 69]⟩ : ByteArray) ++ (⟨(Lib.decDigits t).toArray⟩ : ByteArray)).toList = typesP.data.toList ++ Lib.decDigits t := by rw [cat_txt, ByteArray.toList_eq]; rfl
      rw [e]
end Go.Proofs.YtjfpkpblifbljaaDoor
