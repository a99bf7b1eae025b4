/- The statement that what is told is read: its walk. -/
import Derived.Test.YtjfpkpblifbljaaDoorBm
import Derived.Test.YtjfpkpblifbljaaDoorKnw
import Derived.Test.YtjfpkpblifbljaaDoorShl
namespace Go.Proofs.YtjfpkpblifbljaaDoor
open Go.ChangeShapes Go.WideShapes Go.ChangeAt Go.RowKit
set_option linter.unusedVariables false
set_option linter.unusedSimpArgs false

theorem lower_any (l : List UInt8) (hg : GB l) (hl : l.length ≤ 200) (w : World) : Calls Tryd.prog 27 #[.string ⟨l.toArray⟩] w fun e w' => e = .returned (.string ⟨(Lib.toLowerA l).toArray⟩) ∧ Hid (Below w.heap.size w w') :=
  Tryd.strings_ToLower_ascii ⟨l.toArray⟩ w (by show l.toArray.size ≤ _; rw [List.size_toArray]; omega) hg.ascii
theorem tsize (l : List UInt8) (h : l.length ≤ 200) : (⟨l.toArray⟩ : ByteArray).size ≤ 140737488355000 := by
  show l.toArray.size ≤ _; rw [List.size_toArray]; omega
theorem low_len (l : List UInt8) : (Lib.toLowerA l).length = l.length := by simp [Lib.toLowerA]

set_option maxRecDepth 100000 in
set_option maxHeartbeats 4000000 in
theorem back_any (t u c : Nat) (n : Int) (ht : t < 65536) (hu : u < 65536) (hc : c < 65536) (w : World) (hL : LayT w ∧ LayE w) : Calls Tryd.prog 5 #[.int .u16 t, .int .u16 u, .int .u16 c, .int .i64 n] w fun e w' => e = .returned (.bool true) ∧ Below w.heap.size w w' := by
  have H : Hid (At w w) := ⟨hL, Below.refl _ _⟩
  clear hL
  -- the words
  have GT : Hid (GB (tellF typesW typesP.data.toList t) ∧ (tellF typesW typesP.data.toList t).length ≤ 200) := ⟨tell_gb types_good t, tell_len types_good t ht⟩
  have GC : Hid (GB (tellF classesW classesP.data.toList c) ∧ (tellF classesW classesP.data.toList c).length ≤ 200) := ⟨tell_gb classes_good c, tell_len classes_good c hc⟩
  have KT : Hid (∀ W, Lay W → Calls Tryd.prog 19 #[.int .u16 t] W fun e w' => e = .returned (.string ⟨(tellF typesW typesP.data.toList t).toArray⟩) ∧ Hid (Below W.heap.size W w')) := fun W h => type_any t ht W h.1
  have KU : Hid (∀ W, Lay W → Calls Tryd.prog 19 #[.int .u16 u] W fun e w' => e = .returned (.string ⟨(tellF typesW typesP.data.toList u).toArray⟩) ∧ Hid (Below W.heap.size W w')) := fun W h => type_any u hu W h.1
  have KC : Hid (∀ W, Lay W → Calls Tryd.prog 20 #[.int .u16 c] W fun e w' => e = .returned (.string ⟨(tellF classesW classesP.data.toList c).toArray⟩) ∧ Hid (Below W.heap.size W w')) := fun W h => class_any c hc W h.1
  have KP : Hid (∀ W, Lay W → Calls Tryd.prog 8 #[.string ⟨(tellF typesW typesP.data.toList t).toArray⟩] W fun e w' => e = .returned (.tuple #[.int .u16 t, .int .i64 0]) ∧ Hid (Below W.heap.size W w')) := by
    intro W h
    refine (ptype_any _ (tsize _ GT.out.2) W h.1 h.2).mono ?_
    rintro e W' ⟨x, y, rfl, HR, HB⟩
    obtain ⟨rfl, rfl⟩ := HR.out.1 t (back_up types_good t 65536 ht)
    exact ⟨rfl, HB⟩
  have KQ : Hid (∀ W, Lay W → Calls Tryd.prog 8 #[.string ⟨(Lib.toLowerA (tellF typesW typesP.data.toList t)).toArray⟩] W fun e w' => e = .returned (.tuple #[.int .u16 t, .int .i64 0]) ∧ Hid (Below W.heap.size W w')) := by
    intro W h
    refine (ptype_any _ (tsize _ (by rw [low_len]; exact GT.out.2)) W h.1 h.2).mono ?_
    rintro e W' ⟨x, y, rfl, HR, HB⟩
    obtain ⟨rfl, rfl⟩ := HR.out.1 t (back_low types_good t 65536 ht)
    exact ⟨rfl, HB⟩
  have KR : Hid (∀ W, Lay W → Calls Tryd.prog 9 #[.string ⟨(Lib.toLowerA (tellF classesW classesP.data.toList c)).toArray⟩] W fun e w' => e = .returned (.tuple #[.int .u16 c, .int .i64 0]) ∧ Hid (Below W.heap.size W w')) := by
    intro W h
    refine (pclass_any _ (tsize _ (by rw [low_len]; exact GC.out.2)) W h.1 h.2).mono ?_
    rintro e W' ⟨x, y, rfl, HR, HB⟩
    obtain ⟨rfl, rfl⟩ := HR.out.1 c (back_low classes_good c 65536 hc)
    exact ⟨rfl, HB⟩
  have HQ : Hid ((tellF typesW typesP.data.toList u == tellF typesW typesP.data.toList t) = decide (u = t)) := by
    show _ = _
    by_cases e : u = t
    · subst e; simp
    · rw [decide_eq_false e]
      cases hb : tellF typesW typesP.data.toList u == tellF typesW typesP.data.toList t with
      | false => rfl
      | true => exact absurd (tell_inj types_good hu ht (eq_of_beq hb)) e
  generalize tellF typesW typesP.data.toList t = lt at *
  generalize tellF typesW typesP.data.toList u = lu at *
  generalize tellF classesW classesP.data.toList c = lc at *
  go_enter Tryd.func5, Tryd.ntmps5
  go_wp2_with fail
  refine (awake_any w H.out.1.1 H.out.1.2).mono ?_
  rintro e W1 ⟨rfl, HN⟩
  replace H : Hid (At w W1) := H.out.go HN.out
  clear HN
  go_wp2_with fail
  refine (KT.out W1 H.out.1).mono ?_
  rintro e W2 ⟨rfl, HN⟩
  replace H : Hid (At w W2) := H.out.go HN.out
  clear HN
  go_wp2_with fail
  refine (KP.out W2 H.out.1).mono ?_
  rintro e W3 ⟨rfl, HN⟩
  replace H : Hid (At w W3) := H.out.go HN.out
  clear HN
  go_wp2_with fail
  refine (lower_any lt GT.out.1 GT.out.2 W3).mono ?_
  rintro e W4 ⟨rfl, HN⟩
  replace H : Hid (At w W4) := H.out.go HN.out
  clear HN
  go_wp2_with fail
  refine (KQ.out W4 H.out.1).mono ?_
  rintro e W5 ⟨rfl, HN⟩
  replace H : Hid (At w W5) := H.out.go HN.out
  clear HN
  go_wp2_with fail
  refine (KC.out W5 H.out.1).mono ?_
  rintro e W6 ⟨rfl, HN⟩
  replace H : Hid (At w W6) := H.out.go HN.out
  clear HN
  go_wp2_with fail
  refine (lower_any lc GC.out.1 GC.out.2 W6).mono ?_
  rintro e W7 ⟨rfl, HN⟩
  replace H : Hid (At w W7) := H.out.go HN.out
  clear HN
  go_wp2_with fail
  refine (KR.out W7 H.out.1).mono ?_
  rintro e W8 ⟨rfl, HN⟩
  replace H : Hid (At w W8) := H.out.go HN.out
  clear HN
  go_wp2_with fail
  refine (KU.out W8 H.out.1).mono ?_
  rintro e W9 ⟨rfl, HN⟩
  replace H : Hid (At w W9) := H.out.go HN.out
  clear HN
  have hq := HQ.out
  clear HQ KT KU KC KP KQ KR
  have HR : Hid (∀ (k : Nat), k < 4096 → GB (tellF rcodesW rcodesP.data.toList k) ∧ (tellF rcodesW rcodesP.data.toList k).length ≤ 200 ∧ ∀ W, Lay W → Calls Tryd.prog 10 #[.string ⟨(Lib.toLowerA (tellF rcodesW rcodesP.data.toList k)).toArray⟩] W fun e w' => e = .returned (.tuple #[.int .i64 k, .int .i64 0]) ∧ Hid (Below W.heap.size W w')) := by
    intro k hk
    refine ⟨tell_gb rcodes_good k, tell_len rcodes_good k (by omega), fun W h => ?_⟩
    refine (prcode_any _ (tsize _ (by rw [low_len]; exact tell_len rcodes_good k (by omega))) W h.1 h.2).mono ?_
    rintro e W' ⟨x, y, rfl, HR, HB⟩
    obtain ⟨rfl, rfl⟩ := HR.out.1 k (back_low rcodes_good k 4096 hk)
    exact ⟨rfl, HB⟩
  have hcase : ((lu == lt) = true ∧ u = t) ∨ ((lu == lt) = false ∧ ((u : Int) == (t : Int)) = false) := by
    by_cases hut : u = t
    · exact .inl ⟨by rw [hq]; simp [hut], hut⟩
    · refine .inr ⟨by rw [hq]; simp [hut], ?_⟩
      simp; omega
  clear hq GT GC
  rcases hcase with ⟨hq1, hq2⟩ | ⟨hq1, hq2⟩
  · subst hq2
    go_wp2_with fail
    refine (rcode_any n W9 H.out.1.1).mono ?_
    rintro e W10 ⟨l, y, rfl, HT, HN⟩
    replace H : Hid (At w W10) := H.out.go HN.out
    clear HN
    by_cases hr : 0 ≤ n ∧ n ≤ 4095
    · obtain ⟨k, rfl⟩ : ∃ k : Nat, n = (k : Int) := ⟨n.toNat, by omega⟩
      obtain ⟨rfl, rfl⟩ := HT.out.1 hr.1 hr.2
      rw [Int.toNat_natCast]
      obtain ⟨g1, g2, g3⟩ := HR.out k (by omega)
      have HG : Hid (GB (tellF rcodesW rcodesP.data.toList k) ∧ (tellF rcodesW rcodesP.data.toList k).length ≤ 200) := ⟨g1, g2⟩
      have HP : Hid (∀ W, Lay W → Calls Tryd.prog 10 #[.string ⟨(Lib.toLowerA (tellF rcodesW rcodesP.data.toList k)).toArray⟩] W fun e w' => e = .returned (.tuple #[.int .i64 k, .int .i64 0]) ∧ Hid (Below W.heap.size W w')) := g3
      clear g1 g2 g3 HR HT
      generalize tellF rcodesW rcodesP.data.toList k = lr at *
      go_wp2_with fail
      refine (lower_any lr HG.out.1 HG.out.2 W10).mono ?_
      rintro e W11 ⟨rfl, HN⟩
      replace H : Hid (At w W11) := H.out.go HN.out
      clear HN
      go_wp2_with fail
      refine (HP.out W11 H.out.1).mono ?_
      rintro e W12 ⟨rfl, HN⟩
      replace H : Hid (At w W12) := H.out.go HN.out
      clear HN
      go_wp2_with fail
      go_ret
      exact ⟨rfl, H.out.2⟩
    · have hor : n < 0 ∨ (¬ n < 0 ∧ 4095 < n) := by omega
      obtain ⟨rfl, rfl⟩ := HT.out.2 (by omega)
      clear HT HR hr
      rcases hor with h1 | ⟨h1, h2⟩
      all_goals
        go_wp2_with fail
        go_ret
        exact ⟨rfl, H.out.2⟩
  · go_wp2_with fail
    refine (rcode_any n W9 H.out.1.1).mono ?_
    rintro e W10 ⟨l, y, rfl, HT, HN⟩
    replace H : Hid (At w W10) := H.out.go HN.out
    clear HN
    by_cases hr : 0 ≤ n ∧ n ≤ 4095
    · obtain ⟨k, rfl⟩ : ∃ k : Nat, n = (k : Int) := ⟨n.toNat, by omega⟩
      obtain ⟨rfl, rfl⟩ := HT.out.1 hr.1 hr.2
      rw [Int.toNat_natCast]
      obtain ⟨g1, g2, g3⟩ := HR.out k (by omega)
      have HG : Hid (GB (tellF rcodesW rcodesP.data.toList k) ∧ (tellF rcodesW rcodesP.data.toList k).length ≤ 200) := ⟨g1, g2⟩
      have HP : Hid (∀ W, Lay W → Calls Tryd.prog 10 #[.string ⟨(Lib.toLowerA (tellF rcodesW rcodesP.data.toList k)).toArray⟩] W fun e w' => e = .returned (.tuple #[.int .i64 k, .int .i64 0]) ∧ Hid (Below W.heap.size W w')) := g3
      clear g1 g2 g3 HR HT
      generalize tellF rcodesW rcodesP.data.toList k = lr at *
      go_wp2_with fail
      refine (lower_any lr HG.out.1 HG.out.2 W10).mono ?_
      rintro e W11 ⟨rfl, HN⟩
      replace H : Hid (At w W11) := H.out.go HN.out
      clear HN
      go_wp2_with fail
      refine (HP.out W11 H.out.1).mono ?_
      rintro e W12 ⟨rfl, HN⟩
      replace H : Hid (At w W12) := H.out.go HN.out
      clear HN
      go_wp2_with fail
      go_ret
      exact ⟨rfl, H.out.2⟩
    · have hor : n < 0 ∨ (¬ n < 0 ∧ 4095 < n) := by omega
      obtain ⟨rfl, rfl⟩ := HT.out.2 (by omega)
      clear HT HR hr
      rcases hor with h1 | ⟨h1, h2⟩
      all_goals
        go_wp2_with fail
        go_ret
        exact ⟨rfl, H.out.2⟩

theorem back_walk (t : Int) (ht : (Lit.int .u16 t).wf = true) (u : Int) (hu : (Lit.int .u16 u).wf = true) (c : Int) (hc : (Lit.int .u16 c).wf = true) (n : Int) (hn : (Lit.int .i64 n).wf = true) (w : World) (hL : LayT w ∧ LayE w) : Calls Tryd.prog 5 #[.int .u16 t, .int .u16 u, .int .u16 c, .int .i64 n] w fun e w' => e = .returned (.bool true) ∧ Below w.heap.size w w' := by
  obtain ⟨t', rfl⟩ : ∃ k : Nat, t = (k : Int) := ⟨t.toNat, by have := u16_bd ht; omega⟩
  obtain ⟨u', rfl⟩ : ∃ k : Nat, u = (k : Int) := ⟨u.toNat, by have := u16_bd hu; omega⟩
  obtain ⟨c', rfl⟩ : ∃ k : Nat, c = (k : Int) := ⟨c.toNat, by have := u16_bd hc; omega⟩
  exact back_any t' u' c' n (by have := u16_bd ht; omega) (by have := u16_bd hu; omega) (by have := u16_bd hc; omega) w hL
end Go.Proofs.YtjfpkpblifbljaaDoor
