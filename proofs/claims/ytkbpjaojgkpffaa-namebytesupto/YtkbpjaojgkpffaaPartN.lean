/- The statement's function about a name's parts returns true and leaves what was there. -/
import Derived.Test.YtkbpjaojgkpffaaNx
namespace Go.Proofs.Ytkbpjaojgkpffaa
open Go.ChangeShapes Go.WideShapes Go.ChangeAt Go.RowKit
set_option linter.unusedVariables false
set_option linter.unusedSimpArgs false

set_option maxRecDepth 100000 in
set_option maxHeartbeats 400000 in
theorem pick_any (x n : Int) (w : World) (hn : 1 ≤ n ∧ n ≤ 4611686018427387904) :
    Calls Try.prog 51 #[.int .i64 x, .int .i64 n] w fun e w' => (∃ r : Nat, (r : Int) < n ∧ e = .returned (.int .i64 r)) ∧ w' = w := by
  have h1 : ¬ n < 1 := by omega
  have hn0 : ¬ n = 0 := by omega
  have l1 : x.tmod n < n := Int.tmod_lt_of_pos x (by omega)
  have l2 : -n < x.tmod n := by
    have := Int.tmod_lt_of_pos (-x) (show 0 < n by omega)
    rw [Int.neg_tmod] at this
    omega
  by_cases h0 : x.tmod n < 0
  · go_enter Try.func51, Try.ntmps51
    go_wp2
    go_ret
    exact ⟨⟨(x.tmod n + n).toNat, by omega, ret_int (by omega)⟩, rfl⟩
  · go_enter Try.func51, Try.ntmps51
    go_wp2
    go_ret
    exact ⟨⟨(x.tmod n).toNat, by omega, ret_int (by omega)⟩, rfl⟩
theorem nm_of {B : Nat} {w : World} {ao : Option Addr} {n c : Nat} {ys r : List ByteArray} {M : Nat} (h : OwnT B w (.slice ao n c) n ys M) (ht : ys.take n = r) (hl : r.length = n) (hz : nsz r ≤ 1000000000000) : Nm w ao n r := by
  refine ⟨?_, hl, hz⟩
  have := h.rd n
  rw [ht] at this
  exact this
theorem Nm.take {w : World} {a : Option Addr} {n : Nat} {ss : List ByteArray} (h : Nm w a n ss) (k : Nat) (hk : k ≤ n) : Nm w a k (ss.take k) := by
  refine ⟨?_, by rw [List.length_take, h.len]; omega, Nat.le_trans (nsz_le ss k) h.sz⟩
  have := RdV.cut (w := w) (a := a) (xs := tv ss) h.rd 0 k (a' := a) (fun _ b o e => by rw [e]; rfl)
  rw [List.drop_zero, tv_take] at this
  exact this

set_option maxRecDepth 100000 in
set_option maxHeartbeats 2000000 in
theorem parts_bad (a : Option Addr) (n c : Nat) (d : Int) (q : Int) (w : World) (KC : Hid (Calls Try.prog 11 #[.slice a n c] w fun e w' => e = .returned (.int .i64 q) ∧ Hid (Below w.heap.size w w'))) (hq : ¬ q = 0) :
    Calls Try.prog 8 #[.slice a n c, .int .i64 d] w fun e w' => e = .returned (.bool true) ∧ Below w.heap.size w w' := by
  have hq' : (q != 0) = true := bne_iff_ne.2 hq
  have K1 : Hid (∀ W, Calls Try.prog 11 #[.slice none 0 0] W fun e w' => e = .returned (.int .i64 0) ∧ Hid (Below W.heap.size W w')) := fun W => by
    have := pcheck_any none 0 0 [] W (nm_nil W none)
    rw [show nck [] = 0 by decide] at this
    exact this
  have K2 : Hid (∀ W, Calls Try.prog 13 #[.slice none 0 0] W fun e w' => e = .returned (.int .i64 1) ∧ Hid (Below W.heap.size W w')) := fun W => psize_any none 0 0 [] W (nm_nil W none)
  clear hq
  go_enter Try.func8, Try.ntmps8
  go_wp2_with fail
  refine KC.out.mono ?_
  rintro e w1 ⟨rfl, B1⟩
  go_wp2_with fail
  refine (K1.out _).mono ?_
  rintro e w2 ⟨rfl, B2⟩
  go_wp2_with fail
  refine (K2.out _).mono ?_
  rintro e w3 ⟨rfl, B3⟩
  go_wp2
  go_ret
  exact ⟨rfl, (B1.out.trans (B2.out.mono B1.out.size)).trans (B3.out.mono (Nat.le_trans B1.out.size B2.out.size))⟩

set_option maxRecDepth 100000 in
set_option maxHeartbeats 2000000 in
theorem parts_ok (a : Option Addr) (n c : Nat) (d : Int) (ss : List ByteArray) (w : World) (h : Nm w a n ss) (hc : n ≤ c ∧ c ≤ 9223372036854775807) (hk : nck ss = 0) :
    Calls Try.prog 8 #[.slice a n c, .int .i64 d] w fun e w' => e = .returned (.bool true) ∧ Below w.heap.size w w' := by
  have HN : Hid (Nm w a n ss) := h
  have hn := h.n63
  have HL : Hid (ss.length = n) := h.len
  have KC : Hid (Calls Try.prog 11 #[.slice a n c] w fun e w' => e = .returned (.int .i64 0) ∧ Hid (Below w.heap.size w w')) := by
    have := pcheck_any a n c ss w h
    rw [hk] at this
    exact this
  have hsm := (nck_small hk).1
  have HK : Hid (nck ss = 0) := hk
  have hn2 : n ≤ 255 := by have := nsz_len ss; have := h.len; omega
  clear h hk
  go_enter Try.func8, Try.ntmps8
  go_wp2_with fail
  refine KC.out.mono ?_
  rintro e w1 ⟨rfl, B1⟩
  go_wp2_with fail
  refine (pick_any d ((n : Int) + 1) _ (by omega)).mono ?_
  rintro e w1 ⟨⟨k, hkn, rfl⟩, rfl⟩
  have hkn' : k ≤ n := by omega
  have hab : nabove ss ((n : Int) - (k : Int)) = (ss.drop k, 0) := by
    unfold nabove
    rw [if_pos HK.out, if_neg (by rw [HL.out]; omega), HL.out]
    congr 2
    omega
  have KA : Hid (∀ W, Nm W a n ss → Calls Try.prog 25 #[.slice a n c, .int .i64 ((n : Int) - (k : Int))] W (NPost (ss.drop k) 0 W)) := fun W hW => by
    have := pabove_any a n c ((n : Int) - (k : Int)) ss W hW hc
    rw [hab] at this
    exact this
  have HN1 : Hid (Nm w1 a n ss) := HN.out.below B1.out
  have KY : Hid (∀ W, Below w.heap.size w W → Calls Try.prog 52 #[.slice a k c] W (CopyPost (ss.take k) 1000000000000 W)) := fun W hW =>
    copyN_any a c k (ss.take k) 1000000000000 W ((HN.out.below hW).take k hkn').rd ((HN.out.below hW).take k hkn').len ((HN.out.below hW).take k hkn').mem (by omega)
  have HD : Hid (nsz (ss.drop k) ≤ 1000000000000 ∧ nsz (ss.take k) ≤ 1000000000000 ∧ njoin (ss.take k) (ss.drop k) = (ss, 0) ∧ nunder ss (ss.drop k) = true) :=
    ⟨Nat.le_trans (nsz_drop ss k) HN.out.sz, Nat.le_trans (nsz_le ss k) HN.out.sz, join_parts ss k HK.out, under_drop ss k⟩
  clear hab
  generalize ss.drop k = D at *
  generalize ss.take k = E at *
  have e1 : IntKind.i64.wrap ((n : Int) - (k : Int)) = (n : Int) - (k : Int) := by rw [IntKind.wrap_i64]; omega
  go_wp2_with fail
  refine (KA.out _ HN1.out).mono ?_
  rintro e w2 ⟨v2, ys2, rfl, H2⟩
  obtain ⟨ao2, hv2, hao2⟩ := H2.out.1.shape
  subst hv2
  have B2 : Hid (Below w.heap.size w w2) := B1.out.trans (H2.out.2.2.mono B1.out.size)
  have HN2 : Hid (Nm w2 a n ss) := HN.out.below B2.out
  have HT2 : Hid (Nm w2 ao2 D.length D) := nm_of H2.out.1 H2.out.2.1 rfl HD.out.1
  clear KA H2 hao2
  have hkc : (k : Int) ≤ (c : Int) := by omega
  go_wp2_with fail
  refine (KY.out _ B2.out).mono ?_
  rintro e w3 ⟨v3, ys3, rfl, H3⟩
  obtain ⟨ao3, hv3, hao3⟩ := H3.out.1.shape
  subst hv3
  have KJ : Hid (Calls Try.prog 27 #[.slice ao3 E.length ys3.length, .slice ao2 D.length ys2.length] w3 (NPost ss 0 w3)) := by
    have := pjoin_any ao3 ao2 E.length D.length ys3.length ys2.length E D w3 (nm_of H3.out.1 H3.out.2.1 rfl HD.out.2.1) (HT2.out.below H3.out.2.2)
    rw [HD.out.2.2.1] at this
    exact this
  have B3 : Hid (Below w.heap.size w w3) := B2.out.trans (H3.out.2.2.mono B2.out.size)
  have HT3 : Hid (Nm w3 ao2 D.length D) := HT2.out.below H3.out.2.2
  clear KY hao3 H3 HT2 HN2
  go_wp2_with fail
  refine KJ.out.mono ?_
  rintro e w4 ⟨v4, ys4, rfl, H4⟩
  obtain ⟨ao4, hv4, hao4⟩ := H4.out.1.shape
  subst hv4
  have B4 : Hid (Below w.heap.size w w4) := B3.out.trans (H4.out.2.2.mono B3.out.size)
  have KS : Hid (Calls Try.prog 32 #[.slice ao4 ss.length ys4.length, .slice a n c] w4 fun e w' => e = .returned (.bool true) ∧ Hid (Below w4.heap.size w4 w')) := by
    have r1 := H4.out.1.rd ss.length
    rw [H4.out.2.1] at r1
    have := sameN_yes ao4 a ss.length ys4.length c ss w4 r1 (HN.out.below B4.out).rd rfl (by rw [HL.out]; omega)
    rw [HL.out] at this ⊢
    exact this
  have HT4 : Hid (Nm w4 ao2 D.length D) := HT3.out.below H4.out.2.2
  clear H4 hao4 KJ HT3
  go_wp2_with fail
  refine KS.out.mono ?_
  rintro e w5 ⟨rfl, B5'⟩
  have B5 : Hid (Below w.heap.size w w5) := B4.out.trans (B5'.out.mono B4.out.size)
  have KU : Hid (Calls Try.prog 19 #[.slice a n c, .slice ao2 D.length ys2.length] w5 fun e w' => e = .returned (.bool true) ∧ Hid (Below w5.heap.size w5 w')) := by
    have := punder_any a ao2 n D.length c ys2.length ss D w5 (HN.out.below B5.out) (HT4.out.below B5'.out)
    rw [HD.out.2.2.2] at this
    exact this
  clear B5' KS HT4
  go_wp2_with fail
  refine KU.out.mono ?_
  rintro e w6 ⟨rfl, B6'⟩
  have B6 : Hid (Below w.heap.size w w6) := B5.out.trans (B6'.out.mono B5.out.size)
  clear B6' KU
  have hwl := wild_ok ss HK.out
  by_cases hz : nsz ss ≤ 253
  · have KW : Hid (Calls Try.prog 29 #[.slice a n c] w6 (NPost (⟨#[42]⟩ :: ss) 0 w6)) := by
      have := pwild_any a n c ss w6 (HN.out.below B6.out)
      rw [hwl, if_pos hz] at this
      exact this
    clear hwl
    go_wp2_with fail
    refine KW.out.mono ?_
    rintro e w7 ⟨v7, ys7, rfl, H7⟩
    obtain ⟨ao7, hv7, hao7⟩ := H7.out.1.shape
    subst hv7
    have B7 : Hid (Below w.heap.size w w7) := B6.out.trans (H7.out.2.2.mono B6.out.size)
    have hck : nck (⟨#[42]⟩ :: ss) = 0 := nck_of (show 2 + nsz ss ≤ 255 by omega) (by
      intro s hs
      rcases List.mem_cons.1 hs with rfl | hs
      · decide
      · exact (nck_small HK.out).2 s hs)
    have hnp : nparent (⟨#[42]⟩ :: ss) = (ss, 0) := by
      unfold nparent
      rw [if_pos hck, if_neg (by simp)]
      rfl
    have KP : Hid (Calls Try.prog 23 #[.slice ao7 (ss.length + 1) ys7.length] w7 (NPost ss 0 w7)) := by
      have hle := H7.out.1.le
      have := pparent_any ao7 (⟨#[42]⟩ :: ss).length ys7.length (⟨#[42]⟩ :: ss) w7 (nm_of H7.out.1 H7.out.2.1 rfl (show 2 + nsz ss ≤ _ by omega)) ⟨hle.1, by have := hle.2; simp only [maxLen] at this; exact this⟩
      rw [hnp] at this
      exact this
    have hlq : (⟨#[42]⟩ :: ss).length = ss.length + 1 := rfl
    clear hck hnp hao7 KW
    rw [hlq]
    rw [HL.out] at KP ⊢
    clear hlq H7
    go_wp2_with fail
    refine KP.out.mono ?_
    rintro e w8 ⟨v8, ys8, rfl, H8⟩
    obtain ⟨ao8, hv8, hao8⟩ := H8.out.1.shape
    subst hv8
    have B8 : Hid (Below w.heap.size w w8) := B7.out.trans (H8.out.2.2.mono B7.out.size)
    have KS : Hid (Calls Try.prog 32 #[.slice ao8 ss.length ys8.length, .slice a n c] w8 fun e w' => e = .returned (.bool true) ∧ Hid (Below w8.heap.size w8 w')) := by
      have r1 := H8.out.1.rd ss.length
      rw [H8.out.2.1] at r1
      have := sameN_yes ao8 a ss.length ys8.length c ss w8 r1 (HN.out.below B8.out).rd rfl (by rw [HL.out]; omega)
      rw [HL.out] at this ⊢
      exact this
    clear H8 hao8 KP
    go_wp2_with fail
    refine KS.out.mono ?_
    rintro e w9 ⟨rfl, B9'⟩
    go_wp2
    go_ret
    exact ⟨rfl, B8.out.trans (B9'.out.mono B8.out.size)⟩
  · have KW : Hid (Calls Try.prog 29 #[.slice a n c] w6 (NPost [] 5 w6)) := by
      have := pwild_any a n c ss w6 (HN.out.below B6.out)
      rw [hwl, if_neg hz] at this
      exact this
    have KZ : Hid (∀ W, Below w.heap.size w W → Calls Try.prog 13 #[.slice a n c] W fun e w' => e = .returned (.int .i64 (nsz ss)) ∧ Hid (Below W.heap.size W w')) := fun W hW => psize_any a n c ss W (HN.out.below hW)
    have hz' : (253 : Int) < (nsz ss : Int) := by omega
    clear hwl
    go_wp2_with fail
    refine KW.out.mono ?_
    rintro e w7 ⟨v7, ys7, rfl, H7⟩
    have B7 : Hid (Below w.heap.size w w7) := B6.out.trans (H7.out.2.2.mono B6.out.size)
    clear H7
    go_wp2_with fail
    refine (KZ.out _ B7.out).mono ?_
    rintro e w8 ⟨rfl, B8'⟩
    go_wp2
    go_ret
    exact ⟨rfl, B7.out.trans (B8'.out.mono B7.out.size)⟩
end Go.Proofs.Ytkbpjaojgkpffaa
