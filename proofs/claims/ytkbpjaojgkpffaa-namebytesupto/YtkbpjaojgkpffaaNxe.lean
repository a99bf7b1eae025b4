/- The program's names: how two stand. -/
import Derived.Test.YtkbpjaojgkpffaaNxd
namespace Go.Proofs.Ytkbpjaojgkpffaa
open Go.ChangeShapes Go.WideShapes Go.ChangeAt Go.RowKit
set_option linter.unusedVariables false
set_option linter.unusedSimpArgs false

set_option maxRecDepth 100000 in
set_option maxHeartbeats 1000000 in
theorem punder_any (a b : Option Addr) (n m c d : Nat) (ss ts : List ByteArray) (w : World) (h : Nm w a n ss) (h' : Nm w b m ts) :
    Calls Try.prog 19 #[.slice a n c, .slice b m d] w fun e w' => e = .returned (.bool (nunder ss ts)) ∧ Hid (Below w.heap.size w w') := by
  have KM : Hid (Calls Try.prog 21 #[.slice a n c, .slice b m d] w fun e w' => e = .returned (.int .i64 (ncom ss ts)) ∧ Hid (Below w.heap.size w w')) := pcommon_any a b n m c d ss ts w h h'
  have hn := h.n63
  have hm := h'.n63
  have HE : Hid (nunder ss ts = (ncom ss ts == m)) := by show _ = _; unfold nunder; rw [h'.len]
  clear h h'
  generalize ncom ss ts = k at *
  go_enter Try.func19, Try.ntmps19
  go_wp2_with fail
  refine KM.out.mono ?_
  rintro e w1 ⟨rfl, H1⟩
  go_wp2
  go_ret
  refine ⟨?_, H1⟩
  rw [HE.out]
  exact ret_bool (beq_nat _ _)

set_option maxRecDepth 100000 in
set_option maxHeartbeats 1000000 in
theorem psame_any (a b : Option Addr) (n m c d : Nat) (ss ts : List ByteArray) (w : World) (h : Nm w a n ss) (h' : Nm w b m ts) :
    Calls Try.prog 15 #[.slice a n c, .slice b m d] w fun e w' => e = .returned (.bool (nsame ss ts)) ∧ Hid (Below w.heap.size w w') := by
  have KM : Hid (Calls Try.prog 19 #[.slice a n c, .slice b m d] w fun e w' => e = .returned (.bool (nunder ss ts)) ∧ Hid (Below w.heap.size w w')) := punder_any a b n m c d ss ts w h h'
  have hn := h.n63
  have hm := h'.n63
  have HE : Hid (nsame ss ts = (n == m && nunder ss ts)) := by
    show _ = _
    unfold nsame nunder
    rw [h.len, h'.len]
    by_cases hq : n = m
    · rw [hq]
    · rw [show (n == m) = false from beq_eq_false_iff_ne.2 hq, Bool.false_and, Bool.false_and]
  clear h h'
  generalize nunder ss ts = k at *
  by_cases hq : n = m
  · subst hq
    go_enter Try.func15, Try.ntmps15
    go_wp2_with fail
    refine KM.out.mono ?_
    rintro e w1 ⟨rfl, H1⟩
    go_wp2
    go_ret
    refine ⟨?_, H1⟩
    rw [HE.out]
    exact ret_bool (by simp)
  · have hq' : ((n : Int) == (m : Int)) = false := by simp; omega
    have HF : Hid (nsame ss ts = false) := by show _ = _; rw [HE.out]; simp [hq]
    go_enter Try.func15, Try.ntmps15
    go_wp2
    go_ret
    exact ⟨by rw [HF.out]; rfl, Below.refl _ _⟩
set_option maxRecDepth 100000 in
theorem isnan_any (x : Int) (w : World) : Calls Try.prog 81 #[.int .i64 x] w fun e w' => e = .returned (.bool false) ∧ w' = w := by
  go_enter Try.func81, Try.ntmps81
  go_wp2
  go_ret
  exact ⟨by simp, rfl⟩
set_option maxRecDepth 100000 in
theorem cmpint_any (x y : Int) (w : World) : Calls Try.prog 56 #[.int .i64 x, .int .i64 y] w fun e w' => e = .returned (.int .i64 (if x < y then -1 else if y < x then 1 else 0)) ∧ w' = w := by
  have KN : Hid (∀ z W, Calls Try.prog 81 #[.int .i64 z] W fun e w' => e = .returned (.bool false) ∧ w' = W) := fun z W => isnan_any z W
  have H0 : Hid ((if x < y then (-1 : Int) else if y < x then 1 else 0) = if x < y then -1 else if y < x then 1 else 0) := rfl
  by_cases h1 : x < y
  · have HQ : Hid ((if x < y then (-1 : Int) else if y < x then 1 else 0) = -1) := by show _ = _; rw [if_pos h1]
    rw [HQ.out]
    clear HQ H0
    go_enter Try.func56, Try.ntmps56
    go_wp2_with fail
    refine (KN.out _ _).mono ?_
    rintro e w1 ⟨rfl, rfl⟩
    go_wp2_with fail
    refine (KN.out _ _).mono ?_
    rintro e w1 ⟨rfl, rfl⟩
    go_wp2
    go_ret
    exact ⟨rfl, rfl⟩
  · by_cases h2 : y < x
    · have HQ : Hid ((if x < y then (-1 : Int) else if y < x then 1 else 0) = 1) := by show _ = _; rw [if_neg h1, if_pos h2]
      rw [HQ.out]
      clear HQ H0
      go_enter Try.func56, Try.ntmps56
      go_wp2_with fail
      refine (KN.out _ _).mono ?_
      rintro e w1 ⟨rfl, rfl⟩
      go_wp2_with fail
      refine (KN.out _ _).mono ?_
      rintro e w1 ⟨rfl, rfl⟩
      go_wp2
      go_ret
      exact ⟨rfl, rfl⟩
    · have HQ : Hid ((if x < y then (-1 : Int) else if y < x then 1 else 0) = 0) := by show _ = _; rw [if_neg h1, if_neg h2]
      rw [HQ.out]
      clear HQ H0
      go_enter Try.func56, Try.ntmps56
      go_wp2_with fail
      refine (KN.out _ _).mono ?_
      rintro e w1 ⟨rfl, rfl⟩
      go_wp2_with fail
      refine (KN.out _ _).mono ?_
      rintro e w1 ⟨rfl, rfl⟩
      go_wp2
      go_ret
      exact ⟨rfl, rfl⟩
set_option maxRecDepth 100000 in
set_option maxHeartbeats 2000000 in
theorem pcompare_any (a b : Option Addr) (n m c d : Nat) (ss ts : List ByteArray) (w : World) (h : Nm w a n ss) (h' : Nm w b m ts) :
    Calls Try.prog 17 #[.slice a n c, .slice b m d] w fun e w' => e = .returned (.int .i64 (ncmp ss ts)) ∧ Hid (Below w.heap.size w w') := by
  have hr := h.rd
  have hr' := h'.rd
  have hn := h.len
  have hm := h'.len
  have hn63 := h.n63
  have hm63 := h'.n63
  have hs : ∀ s ∈ ss, s.size ≤ 140737488355000 := fun s hs => by have := h.mem s hs; omega
  have ht : ∀ s ∈ ts, s.size ≤ 140737488355000 := fun s hs => by have := h'.mem s hs; omega
  have HR : Hid (RdT w a ss ∧ RdT w b ts ∧ (∀ s ∈ ss, s.size ≤ 140737488355000) ∧ ∀ s ∈ ts, s.size ≤ 140737488355000) := ⟨hr, hr', hs, ht⟩
  have HL : Hid (ss.length = n ∧ ts.length = m) := ⟨hn, hm⟩
  have KM : Hid (Calls Try.prog 21 #[.slice a n c, .slice b m d] w fun e w' => e = .returned (.int .i64 (ncom ss ts)) ∧ Hid (Below w.heap.size w w')) := pcommon_any a b n m c d ss ts w h h'
  clear h h'
  have hle := ncom_le ss ts
  rw [hn, hm] at hle
  have HE : Hid (ncmp ss ts = if ncom ss ts = n ∧ ncom ss ts = m then 0 else if ncom ss ts = n then -1 else if ncom ss ts = m then 1 else cmp (ss.reverse.getD (ncom ss ts) ⟨#[]⟩) (ts.reverse.getD (ncom ss ts) ⟨#[]⟩)) := by
    have := cmpR_com ss.reverse ts.reverse
    rw [List.length_reverse, List.length_reverse, hn, hm] at this
    exact this
  generalize ncom ss ts = k at *
  clear hr hr' hn hm hs ht
  have hk1 : k ≤ 1000000000000 := by omega
  go_enter Try.func17, Try.ntmps17
  go_wp2_with fail
  refine KM.out.mono ?_
  rintro e w1 ⟨rfl, H1⟩
  by_cases h1 : k = n
  · have HF : Hid (ncmp ss ts = if (n : Int) < (m : Int) then -1 else if (m : Int) < (n : Int) then 1 else 0) := by
      show _ = _
      rw [HE.out]
      by_cases h2 : k = m
      · rw [if_pos ⟨h1, h2⟩, if_neg (by omega), if_neg (by omega)]
      · rw [if_neg (by omega), if_pos h1, if_pos (by omega)]
    clear HE KM
    have K5 : Hid (∀ W, Calls Try.prog 56 #[.int .i64 n, .int .i64 m] W fun e w' => e = .returned (.int .i64 (if (n : Int) < (m : Int) then -1 else if (m : Int) < (n : Int) then 1 else 0)) ∧ w' = W) := fun W => cmpint_any _ _ W
    generalize (if (n : Int) < (m : Int) then (-1 : Int) else if (m : Int) < (n : Int) then 1 else 0) = q at *
    subst h1
    go_wp2_with fail
    refine (K5.out _).mono ?_
    rintro e w2 ⟨rfl, rfl⟩
    go_wp2
    go_ret
    exact ⟨by rw [HF.out]; rfl, H1⟩
  · have h1' : ((k : Int) == (n : Int)) = false := by simp; omega
    by_cases h2 : k = m
    · have HF : Hid (ncmp ss ts = if (n : Int) < (m : Int) then -1 else if (m : Int) < (n : Int) then 1 else 0) := by show _ = _; rw [HE.out, if_neg (by omega), if_neg h1, if_pos h2, if_neg (by omega), if_pos (by omega)]
      clear HE KM
      have K5 : Hid (∀ W, Calls Try.prog 56 #[.int .i64 n, .int .i64 m] W fun e w' => e = .returned (.int .i64 (if (n : Int) < (m : Int) then -1 else if (m : Int) < (n : Int) then 1 else 0)) ∧ w' = W) := fun W => cmpint_any _ _ W
      generalize (if (n : Int) < (m : Int) then (-1 : Int) else if (m : Int) < (n : Int) then 1 else 0) = q at *
      subst h2
      go_wp2_with fail
      refine (K5.out _).mono ?_
      rintro e w2 ⟨rfl, rfl⟩
      go_wp2
      go_ret
      exact ⟨by rw [HF.out]; rfl, H1⟩
    · have h2' : ((k : Int) == (m : Int)) = false := by simp; omega
      have g1 : k < ss.length := by rw [HL.out.1]; omega
      have g2 : k < ts.length := by rw [HL.out.2]; omega
      have p1 : ss.length - 1 - k < ss.length := by omega
      have p2 : ts.length - 1 - k < ts.length := by omega
      have r1 : ss.reverse.getD k ⟨#[]⟩ = ss[ss.length - 1 - k] := by
        rw [List.getD_eq_getElem?_getD, List.getElem?_eq_getElem (by simpa using g1)]; simp
      have r2 : ts.reverse.getD k ⟨#[]⟩ = ts[ts.length - 1 - k] := by
        rw [List.getD_eq_getElem?_getD, List.getElem?_eq_getElem (by simpa using g2)]; simp
      obtain ⟨b1, o1, rfl, l1, c1⟩ := (HR.out.1.below H1.out).at (ss.length - 1 - k) p1
      obtain ⟨b2, o2, rfl, l2, c2⟩ := (HR.out.2.1.below H1.out).at (ts.length - 1 - k) p2
      have z1 := HR.out.2.2.1 _ (List.getElem_mem p1)
      have z2 := HR.out.2.2.2 _ (List.getElem_mem p2)
      have HF : Hid (ncmp ss ts = cmp ss[ss.length - 1 - k] ts[ts.length - 1 - k]) := by show _ = _; rw [HE.out, if_neg (by omega), if_neg h1, if_neg h2, r1, r2]
      have KC : Hid (∀ W, Calls Try.prog 57 #[.string ss[ss.length - 1 - k], .string ts[ts.length - 1 - k]] W fun e w' => e = .returned (.int .i64 (cmp ss[ss.length - 1 - k] ts[ts.length - 1 - k])) ∧ Hid (Below W.heap.size W w')) := fun W => compare_any _ _ W (by omega) (by omega)
      clear r1 r2 HE KM
      generalize ss[ss.length - 1 - k] = s at *
      generalize ts[ts.length - 1 - k] = t at *
      rw [HL.out.1] at c1
      rw [HL.out.2] at c2
      obtain ⟨j1, hj1⟩ : ∃ j, n - 1 - k = j := ⟨_, rfl⟩
      obtain ⟨j2, hj2⟩ : ∃ j, m - 1 - k = j := ⟨_, rfl⟩
      rw [hj1] at c1
      rw [hj2] at c2
      have e1 : IntKind.i64.wrap ((n : Int) - 1) = (n : Int) - 1 := by rw [IntKind.wrap_i64]; omega
      have e2 : IntKind.i64.wrap ((n : Int) - 1 - (k : Int)) = (j1 : Int) := by rw [IntKind.wrap_i64]; omega
      have e3 : IntKind.i64.wrap ((m : Int) - 1) = (m : Int) - 1 := by rw [IntKind.wrap_i64]; omega
      have e4 : IntKind.i64.wrap ((m : Int) - 1 - (k : Int)) = (j2 : Int) := by rw [IntKind.wrap_i64]; omega
      have q1 : (j1 : Int) < (n : Int) := by omega
      have q2 : (j2 : Int) < (m : Int) := by omega
      clear p1 p2 z1 z2 g1 g2 hj1 hj2
      go_wp2_with fail
      go_region_held3 (fun W => W.cell? ⟨b1, o1 + j1, none⟩ = some (.string s) ∧ W.cell? ⟨b2, o2 + j2, none⟩ = some (.string t)) (go_keep) (first
        | (go_at_call 57; refine (KC.out _).mono ?_; rintro e wy ⟨rfl, HY⟩; have y1 : wy.cell? ⟨b1, o1 + j1, none⟩ = some (.string s) := (HY.out.cell (p := ⟨b1, o1 + j1, none⟩) l1).trans c1; have y2 : wy.cell? ⟨b2, o2 + j2, none⟩ = some (.string t) := (HY.out.cell (p := ⟨b2, o2 + j2, none⟩) l2).trans c2))
      have HB2 : Hid (Below w.heap.size w wy) := (H1.out.trans ((Below.refl _ _).drew)).trans (HY.out.mono H1.out.size)
      clear y1 y2 c1 c2 HY KC
      go_wp2
      go_ret
      exact ⟨by rw [HF.out]; rfl, HB2.out⟩
end Go.Proofs.Ytkbpjaojgkpffaa
