/- The program's names: texts read. -/
import Derived.Test.YtkbpjaojgkpffaaNxj
namespace Go.Proofs.Ytkbpjaojgkpffaa
open Go.ChangeShapes Go.WideShapes Go.ChangeAt Go.RowKit
set_option linter.unusedVariables false
set_option linter.unusedSimpArgs false

theorem plab_nsz (s : ByteArray) (hs : s.size ≤ 1000000000) : nsz (plab s).1 ≤ 1000000000000 := by
  unfold plab
  by_cases hd : s.toList = [46]
  · rw [if_pos hd]; decide
  · rw [if_neg hd]; exact lgo_nsz s hs
/-- A list, if it may be a name. -/
def nmay (l : List ByteArray) : List ByteArray × Int := (if nck l = 0 then l else [], nck l)
theorem nparse_plab (s : ByteArray) : nparse s = if (plab s).2.2 = 0 then (if (plab s).2.1 then nmay (plab s).1 else ([], 5)) else ([], (plab s).2.2) := by
  unfold nparse plab nmay
  by_cases hd : s.toList = [46]
  · rw [if_pos hd, if_pos hd]
    have : nck [] = 0 := by decide
    simp [this]
  · rw [if_neg hd, if_neg hd]
    by_cases h0 : (lgo (nums s) []).2.2 = 0
    · rw [if_pos h0, if_pos h0]
      cases (lgo (nums s) []).2.1 with
      | false => rfl
      | true =>
        simp only [if_true]
        by_cases hk : nck (lgo (nums s) []).1 = 0
        · rw [if_pos hk, if_pos hk, hk]
        · rw [if_neg hk, if_neg hk]
    · rw [if_neg h0, if_neg h0]
theorem nrel_plab (s : ByteArray) (og : List ByteArray) (hk : nck og = 0) (h1 : ¬ s.toList = [64]) : nrel s og = if (plab s).2.2 = 0 then (if (plab s).2.1 then nmay (plab s).1 else njoin (plab s).1 og) else ([], (plab s).2.2) := by
  unfold nrel
  rw [if_pos hk, if_neg h1]
  by_cases hd : s.toList = [46]
  · rw [if_pos hd]
    unfold plab nmay
    rw [if_pos hd]
    have : nck [] = 0 := by decide
    simp [this]
  · rw [if_neg hd]
    have hp := nparse_plab s
    have e : plab s = lgo (nums s) [] := by unfold plab; rw [if_neg hd]
    rw [e] at hp ⊢
    by_cases h0 : (lgo (nums s) []).2.2 = 0
    · rw [if_pos h0, if_pos h0]
      rw [if_pos h0] at hp
      cases hb : (lgo (nums s) []).2.1 with
      | false => rfl
      | true => rw [hb] at hp; simpa using hp
    · rw [if_neg h0, if_neg h0]

set_option maxRecDepth 100000 in
set_option maxHeartbeats 2000000 in
theorem pparse_any (s : ByteArray) (w : World) (h : s.size ≤ 1000000000) : Calls Try.prog 38 #[.string s] w (NPost (nparse s).1 (nparse s).2 w) := by
  have KL : Hid (Calls Try.prog 72 #[.string s] w (LPost (plab s) w)) := plabels_any s w h
  have HZ : Hid (nsz (plab s).1 ≤ 1000000000000) := plab_nsz s h
  have HP : Hid (nparse s = if (plab s).2.2 = 0 then (if (plab s).2.1 then nmay (plab s).1 else ([], 5)) else ([], (plab s).2.2)) := nparse_plab s
  obtain ⟨R, hR⟩ : ∃ R, nparse s = R := ⟨_, rfl⟩
  rw [hR] at HP ⊢
  clear hR
  generalize plab s = r at *
  obtain ⟨l, b, k⟩ := r
  simp only at HP HZ
  by_cases hk : k = 0
  · rw [if_pos hk] at HP
    subst hk
    cases b with
    | false =>
      rw [if_neg (by decide)] at HP
      have e := HP.out
      subst e
      clear HP
      go_enter Try.func38, Try.ntmps38
      go_wp2_with fail
      refine KL.out.mono ?_
      rintro e w1 ⟨v, ys, rfl, H1⟩
      go_wp2
      go_ret2
      exact npost_none rfl H1.out.2.2
    | true =>
      rw [if_pos rfl] at HP
      have e := HP.out
      subst e
      clear HP
      go_enter Try.func38, Try.ntmps38
      go_wp2_with fail
      refine KL.out.mono ?_
      rintro e w1 ⟨v, ys, rfl, H1⟩
      obtain ⟨ao, hv, hao⟩ := H1.out.1.shape
      subst hv
      have KM : Hid (Calls Try.prog 62 #[.slice ao l.length ys.length] w1 fun e w' => NPost (nmay l).1 (nmay l).2 w e w') := may_own w.heap.size w ao l.length ys.length l ys w1 rfl H1.out.1 H1.out.2.1 HZ.out H1.out.2.2 rfl
      generalize nmay l = R at *
      clear H1 KL
      go_wp2_with fail
      refine KM.out.mono ?_
      rintro e w2 ⟨v, zs, rfl, H2⟩
      go_wp2
      go_ret2
      exact ⟨v, zs, rfl, H2⟩
  · rw [if_neg hk] at HP
    have e := HP.out
    subst e
    have hq : (k != 0) = true := bne_iff_ne.2 hk
    clear HP hk
    go_enter Try.func38, Try.ntmps38
    go_wp2_with fail
    refine KL.out.mono ?_
    rintro e w1 ⟨v, ys, rfl, H1⟩
    go_wp2
    go_ret2
    exact npost_none rfl H1.out.2.2

set_option maxRecDepth 100000 in
set_option maxHeartbeats 2000000 in
theorem prel_any (s : ByteArray) (a : Option Addr) (n c : Nat) (og : List ByteArray) (w : World) (h : s.size ≤ 1000000000) (h' : Nm w a n og) : Calls Try.prog 40 #[.string s, .slice a n c] w (NPost (nrel s og).1 (nrel s og).2 w) := by
  have KC : Hid (Calls Try.prog 11 #[.slice a n c] w fun e w' => e = .returned (.int .i64 (nck og)) ∧ w' = w) := pm_check c h'
  have HN : Hid (Nm w a n og) := h'
  by_cases hk : nck og = 0
  · rw [hk] at KC
    by_cases h1 : s.toList = [64]
    · have hp : nrel s og = (og, 0) := by unfold nrel; rw [if_pos hk, if_pos h1]
      rw [hp]
      have h1t : (s.toList == [64]) = true := by simpa using h1
      clear hp h h' hk h1
      go_enter Try.func40, Try.ntmps40
      go_wp2_with fail
      refine KC.out.mono ?_
      rintro e w1 ⟨rfl, rfl⟩
      go_wp2_with fail
      refine (pm_copy c HN.out).mono ?_
      rintro e w2 ⟨v, ys, rfl, H2⟩
      go_wp2
      go_ret2
      exact ⟨v, ys, rfl, H2⟩
    have h1f : (s.toList == [64]) = false := by simpa using h1
    have KL : Hid (Calls Try.prog 72 #[.string s] w (LPost (plab s) w)) := plabels_any s w h
    have HZ : Hid (nsz (plab s).1 ≤ 1000000000000) := plab_nsz s h
    have HP : Hid (nrel s og = if (plab s).2.2 = 0 then (if (plab s).2.1 then nmay (plab s).1 else njoin (plab s).1 og) else ([], (plab s).2.2)) := nrel_plab s og hk h1
    obtain ⟨R, hR⟩ : ∃ R, nrel s og = R := ⟨_, rfl⟩
    rw [hR] at HP ⊢
    clear hR h h' hk h1
    generalize plab s = r at *
    obtain ⟨l, b, k⟩ := r
    simp only at HP HZ
    by_cases hk : k = 0
    · rw [if_pos hk] at HP
      subst hk
      cases b with
      | true =>
        rw [if_pos rfl] at HP
        have e := HP.out
        subst e
        clear HP
        go_enter Try.func40, Try.ntmps40
        go_wp2_with fail
        refine KC.out.mono ?_
        rintro e w1 ⟨rfl, rfl⟩
        go_wp2_with fail
        refine KL.out.mono ?_
        rintro e w2 ⟨v, ys, rfl, H2⟩
        obtain ⟨ao, hv, hao⟩ := H2.out.1.shape
        subst hv
        have KM : Hid (Calls Try.prog 62 #[.slice ao l.length ys.length] w2 fun e w' => NPost (nmay l).1 (nmay l).2 w1 e w') := may_own w1.heap.size w1 ao l.length ys.length l ys w2 rfl H2.out.1 H2.out.2.1 HZ.out H2.out.2.2 rfl
        generalize nmay l = R at *
        clear H2 KL KC
        go_wp2_with fail
        refine KM.out.mono ?_
        rintro e w3 ⟨v3, ys3, rfl, H3⟩
        go_wp2
        go_ret2
        exact ⟨v3, ys3, rfl, H3⟩
      | false =>
        rw [if_neg (by decide)] at HP
        go_enter Try.func40, Try.ntmps40
        go_wp2_with fail
        refine KC.out.mono ?_
        rintro e w1 ⟨rfl, rfl⟩
        go_wp2_with fail
        refine KL.out.mono ?_
        rintro e w2 ⟨v, ys, rfl, H2⟩
        obtain ⟨ao, hv, hao⟩ := H2.out.1.shape
        subst hv
        have hnm : Nm w2 ao l.length l := ⟨by have := H2.out.1.rd l.length; rw [H2.out.2.1] at this; exact this, rfl, HZ.out⟩
        have KJ : Hid (Calls Try.prog 27 #[.slice ao l.length ys.length, .slice a n c] w2 (NPost (njoin l og).1 (njoin l og).2 w2)) := pjoin_any ao a l.length n ys.length c l og w2 hnm (HN.out.below H2.out.2.2)
        clear hnm
        have e := HP.out
        subst e
        clear HP
        generalize njoin l og = jj at *
        go_wp2_with fail
        refine KJ.out.mono ?_
        rintro e w3 ⟨v3, ys3, rfl, H3⟩
        go_wp2
        go_ret2
        exact ⟨v3, ys3, rfl, H3.out.1.mono H2.out.2.2.size, H3.out.2.1, H2.out.2.2.trans (H3.out.2.2.mono H2.out.2.2.size)⟩
    · rw [if_neg hk] at HP
      have e := HP.out
      subst e
      have hq : (k != 0) = true := bne_iff_ne.2 hk
      clear HP hk
      go_enter Try.func40, Try.ntmps40
      go_wp2_with fail
      refine KC.out.mono ?_
      rintro e w1 ⟨rfl, rfl⟩
      go_wp2_with fail
      refine KL.out.mono ?_
      rintro e w2 ⟨v, ys, rfl, H2⟩
      go_wp2
      go_ret2
      exact npost_none rfl H2.out.2.2
  · have hp : nrel s og = ([], nck og) := by unfold nrel; rw [if_neg hk]
    rw [hp]
    generalize nck og = q at *
    have hq : (q != 0) = true := bne_iff_ne.2 hk
    clear h h' hk hp
    go_enter Try.func40, Try.ntmps40
    go_wp2_with fail
    refine KC.out.mono ?_
    rintro e w1 ⟨rfl, rfl⟩
    go_wp2
    go_ret2
    exact npost_none rfl (Below.refl _ _)
end Go.Proofs.Ytkbpjaojgkpffaa
