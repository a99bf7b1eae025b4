/- The program's names: joined, under the star. -/
import Derived.Test.YtkbpjaojgkpffaaNxf
namespace Go.Proofs.Ytkbpjaojgkpffaa
open Go.ChangeShapes Go.WideShapes Go.ChangeAt Go.RowKit
set_option linter.unusedVariables false
set_option linter.unusedSimpArgs false

set_option maxRecDepth 100000 in
theorem may_ok (a : Option Addr) (n c : Nat) (ss : List ByteArray) (w : World) (h : Nm w a n ss) (hk : nck ss = 0) : Calls Try.prog 62 #[.slice a n c] w fun e w' => e = .returned (.tuple #[.slice a n c, .int .i64 0]) ∧ w' = w := by
  have K1 : Hid (Calls Try.prog 11 #[.slice a n c] w fun e w' => e = .returned (.int .i64 (nck ss)) ∧ w' = w) := pm_check c h
  rw [hk] at K1
  clear h hk
  go_enter Try.func62, Try.ntmps62
  go_wp2_with fail
  refine K1.out.mono ?_
  rintro e w1 ⟨rfl, rfl⟩
  go_wp2
  go_ret2
  exact ⟨rfl, rfl⟩
set_option maxRecDepth 100000 in
theorem may_no (a : Option Addr) (n c : Nat) (ss : List ByteArray) (w : World) (h : Nm w a n ss) (hk : ¬ nck ss = 0) : Calls Try.prog 62 #[.slice a n c] w fun e w' => e = .returned (.tuple #[.slice none 0 0, .int .i64 (nck ss)]) ∧ w' = w := by
  have K1 : Hid (Calls Try.prog 11 #[.slice a n c] w fun e w' => e = .returned (.int .i64 (nck ss)) ∧ w' = w) := pm_check c h
  generalize nck ss = q at *
  have hq : (q != 0) = true := bne_iff_ne.2 hk
  clear h hk
  go_enter Try.func62, Try.ntmps62
  go_wp2_with fail
  refine K1.out.mono ?_
  rintro e w1 ⟨rfl, rfl⟩
  go_wp2
  go_ret2
  exact ⟨rfl, rfl⟩
/-- A list of one's own, if it may be a name. -/
theorem may_own (B : Nat) (w0 : World) (a : Option Addr) (n c : Nat) (ss ys : List ByteArray) (w : World) (hl : ss.length = n) (ho : OwnT B w (.slice a n c) n ys 1000000000000) (ht : ys.take n = ss) (hz : nsz ss ≤ 1000000000000) (hb : Below B w0 w) (hB : B = w0.heap.size) :
    Calls Try.prog 62 #[.slice a n c] w fun e w' => NPost (if nck ss = 0 then ss else []) (nck ss) w0 e w' := by
  have hn : Nm w a n ss := ⟨by have := ho.rd n; rw [ht] at this; exact this, hl, hz⟩
  subst hB
  by_cases hk : nck ss = 0
  · rw [if_pos hk, hk]
    refine (may_ok a n c ss w hn hk).mono ?_
    rintro e w' ⟨rfl, rfl⟩
    exact ⟨_, ys, rfl, by rw [hl]; exact ho, by rw [hl]; exact ht, hb⟩
  · rw [if_neg hk]
    refine (may_no a n c ss w hn hk).mono ?_
    rintro e w' ⟨rfl, rfl⟩
    exact npost_none rfl hb
theorem nck_cat {a b : List ByteArray} (h : nck a = 0) (h' : nck b = 0) : nck (a ++ b) = 0 ∨ nck (a ++ b) = 5 := by
  have h1 := (nck_small h).2
  have h2 := (nck_small h').2
  have : labsOk (a ++ b) := by
    intro s hs
    rcases List.mem_append.1 hs with hs | hs
    · exact h1 s hs
    · exact h2 s hs
  unfold nck
  rw [if_pos this]
  by_cases hz : 255 < nsz (a ++ b)
  · rw [if_pos hz]; exact .inr rfl
  · rw [if_neg hz]; exact .inl rfl

set_option maxRecDepth 100000 in
set_option maxHeartbeats 2000000 in
theorem pjoin_any (a b : Option Addr) (n m c d : Nat) (ss ts : List ByteArray) (w : World) (h : Nm w a n ss) (h' : Nm w b m ts) : Calls Try.prog 27 #[.slice a n c, .slice b m d] w (NPost (njoin ss ts).1 (njoin ss ts).2 w) := by
  have K1 : Hid (Calls Try.prog 11 #[.slice a n c] w fun e w' => e = .returned (.int .i64 (nck ss)) ∧ w' = w) := pm_check c h
  have K2 : Hid (Calls Try.prog 11 #[.slice b m d] w fun e w' => e = .returned (.int .i64 (nck ts)) ∧ w' = w) := pm_check d h'
  by_cases hk : nck ss = 0
  · rw [hk] at K1
    by_cases hk2 : nck ts = 0
    · rw [hk2] at K2
      have z1 := nck_small hk
      have z2 := nck_small hk2
      have hJ : nsz (ss ++ ts) ≤ 1000000000000 := by have := nsz_append ss ts; omega
      have hlen : (ss ++ ts).length = n + m := by rw [List.length_append, h.len, h'.len]
      have hj : njoin ss ts = (if nck (ss ++ ts) = 0 then ss ++ ts else [], nck (ss ++ ts)) := by
        unfold njoin
        rw [if_pos hk, if_pos hk2]
        rcases nck_cat hk hk2 with e | e
        · rw [if_pos e, if_pos e, e]
        · rw [if_neg (by omega), if_neg (by omega), e]
      rw [hj]
      have hb : Below w.heap.size w (w.alloc (.cells #[.slice a n c, .slice b m d] 23)) := (Below.refl _ _).alloc (Nat.le_refl _) _
      have KC : Hid (Calls Try.prog 63 #[.slice (some ⟨w.heap.size, 0, none⟩) 2 2] (w.alloc (.cells #[.slice a n c, .slice b m d] 23)) (CopyPost (ss ++ ts) 1000000000000 (w.alloc (.cells #[.slice a n c, .slice b m d] 23)))) :=
        concat_any w.heap.size a b n m c d ss ts _ (by simp) (by simp [go_sem]) (by simp [go_sem]) (h.below hb) (h'.below hb)
      have KM : Hid (∀ W v ys, OwnT w.heap.size W v (ss ++ ts).length ys 1000000000000 → ys.take (ss ++ ts).length = ss ++ ts → Below w.heap.size w W → ∃ ao, v = .slice ao (n + m) ys.length ∧ Calls Try.prog 62 #[.slice ao (n + m) ys.length] W fun e w' => NPost (if nck (ss ++ ts) = 0 then ss ++ ts else []) (nck (ss ++ ts)) w e w') := by
        intro W v ys ho ht hB
        obtain ⟨ao, hv, _⟩ := ho.shape
        rw [hlen] at hv ho ht
        subst hv
        exact ⟨ao, rfl, may_own w.heap.size w ao (n + m) ys.length (ss ++ ts) ys W hlen ho ht hJ hB rfl⟩
      have HB : Hid (Below w.heap.size w (w.alloc (.cells #[.slice a n c, .slice b m d] 23))) := hb
      clear h h' hk hk2 z1 z2 hj hb hJ hlen
      generalize (if nck (ss ++ ts) = 0 then ss ++ ts else []) = R at *
      generalize nck (ss ++ ts) = q at *
      go_enter Try.func27, Try.ntmps27
      go_wp2_with fail
      refine K1.out.mono ?_
      rintro e w1 ⟨rfl, rfl⟩
      go_wp2_with fail
      refine K2.out.mono ?_
      rintro e w1 ⟨rfl, rfl⟩
      go_wp2_with fail
      refine KC.out.mono ?_
      rintro e w2 ⟨v, ys, rfl, H2⟩
      have hB2 : Below w1.heap.size w1 w2 := HB.out.trans (H2.out.2.2.mono HB.out.size)
      obtain ⟨ao, rfl, K3⟩ := KM.out w2 v ys (H2.out.1.mono (by simp)) H2.out.2.1 hB2
      have HK3 : Hid (Calls Try.prog 62 #[.slice ao (n + m) ys.length] w2 fun e w' => NPost R q w1 e w') := K3
      clear K1 K2 KC KM H2 hB2 HB K3
      go_wp2_with fail
      refine HK3.out.mono ?_
      rintro e w3 ⟨v, zs, rfl, H3⟩
      go_wp2
      go_ret2
      exact ⟨v, zs, rfl, H3⟩
    · have hj : njoin ss ts = ([], nck ts) := by unfold njoin; rw [if_pos hk, if_neg hk2]
      rw [hj]
      generalize nck ts = q at *
      have hq : (q != 0) = true := bne_iff_ne.2 hk2
      clear h h' hk hj hk2
      go_enter Try.func27, Try.ntmps27
      go_wp2_with fail
      refine K1.out.mono ?_
      rintro e w1 ⟨rfl, rfl⟩
      go_wp2_with fail
      refine K2.out.mono ?_
      rintro e w1 ⟨rfl, rfl⟩
      go_wp2
      go_ret2
      exact npost_none rfl (Below.refl _ _)
  · have hj : njoin ss ts = ([], nck ss) := by unfold njoin; rw [if_neg hk]
    rw [hj]
    generalize nck ss = q at *
    have hq : (q != 0) = true := bne_iff_ne.2 hk
    clear h h' hk hj K2
    go_enter Try.func27, Try.ntmps27
    go_wp2_with fail
    refine K1.out.mono ?_
    rintro e w1 ⟨rfl, rfl⟩
    go_wp2
    go_ret2
    exact npost_none rfl (Below.refl _ _)
set_option maxRecDepth 100000 in
theorem pwild_any (a : Option Addr) (n c : Nat) (ss : List ByteArray) (w : World) (h : Nm w a n ss) : Calls Try.prog 29 #[.slice a n c] w (NPost (njoin [⟨#[42]⟩] ss).1 (njoin [⟨#[42]⟩] ss).2 w) := by
  have hb : Below w.heap.size w (w.alloc (.cells #[.string ⟨#[42]⟩] 9)) := (Below.refl _ _).alloc (Nat.le_refl _) _
  have hs : Nm (w.alloc (.cells #[.string ⟨#[42]⟩] 9)) (some ⟨w.heap.size, 0, none⟩) 1 [⟨#[42]⟩] := ⟨one_rdT w _, rfl, by decide⟩
  have K : Hid (Calls Try.prog 27 #[.slice (some ⟨w.heap.size, 0, none⟩) 1 1, .slice a n c] (w.alloc (.cells #[.string ⟨#[42]⟩] 9)) (NPost (njoin [⟨#[42]⟩] ss).1 (njoin [⟨#[42]⟩] ss).2 (w.alloc (.cells #[.string ⟨#[42]⟩] 9)))) := pjoin_any _ a 1 n 1 c _ ss _ hs (h.below hb)
  have HB : Hid (Below w.heap.size w (w.alloc (.cells #[.string ⟨#[42]⟩] 9))) := hb
  clear h hs hb
  go_enter Try.func29, Try.ntmps29
  go_wp2_with fail
  refine K.out.mono ?_
  rintro e w1 ⟨v, ys, rfl, H1⟩
  go_wp2
  go_ret2
  exact ⟨v, ys, rfl, H1.out.1.mono (by simp), H1.out.2.1, HB.out.trans (H1.out.2.2.mono HB.out.size)⟩
end Go.Proofs.Ytkbpjaojgkpffaa
