/- The statement's function about names' texts returns true and leaves what was there. -/
import Derived.Test.YtkbpjaojgkpffaaOrdN
namespace Go.Proofs.Ytkbpjaojgkpffaa
open Go.ChangeShapes Go.WideShapes Go.ChangeAt Go.RowKit
set_option linter.unusedVariables false
set_option linter.unusedSimpArgs false

set_option maxRecDepth 100000 in
set_option maxHeartbeats 400000 in
theorem overT_nil (w : World) : Calls Try.prog 34 #[.slice none 0 0] w fun e w' => e = .returned (.tuple #[]) ∧ w' = w := by
  go_enter Try.func34, Try.ntmps34
  go_wp2_with fail
  go_loop [3] (fun x => x = .int .i64 0) (fun _ => 0)
  case atStart => rfl
  case round =>
    subst hrel
    go_wp2
    go_end0
    exact ⟨rfl, rfl⟩
theorem overT_any (B : Nat) (v : Value) (n : Nat) (ys : List ByteArray) (w : World) (h : OwnT B w v n ys 1000000000000) : Calls Try.prog 34 #[v] w fun e w' => e = .returned (.tuple #[]) ∧ Hid (Below B w w') := by
  rcases h.1 with ⟨rfl, _, _⟩ | ⟨g, rfl, hB, hb, hn, hm⟩
  · exact (overT_nil w).mono fun e w' h => ⟨h.1, by rw [h.2]; exact Below.refl _ _⟩
  · rw [tv_len] at hn hm ⊢
    refine (overT_blk g n ys.length ys w hb rfl hn hm h.2).mono ?_
    rintro e w' ⟨rfl, H⟩
    have hlt := hb.lt
    by_cases hBw : B ≤ w.heap.size
    · exact ⟨rfl, (Below.refl B w).grown H.out.2.1 hBw (fun q hq => by have := Option.some.inj hq; omega)⟩
    · omega
/-- A name that was lent can be read. -/
theorem lent_nm {w : World} {g n : Nat} {ss : List ByteArray} (hb : BlkV w g 9 (tv (lentT ss 3))) (hl : ss.length = n) (hz : nsz ss ≤ 1000000000000) : Nm w (some ⟨g, 0, none⟩) n ss := by
  refine ⟨?_, hl, hz⟩
  have := hb.rd n
  rw [tv_take, ← hl, lentT_take] at this
  exact this

set_option maxRecDepth 100000 in
set_option maxHeartbeats 4000000 in
theorem texts_mainN (a b : Option Addr) (n m c1 c2 : Nat) (ss og : List ByteArray) (s : ByteArray) (w : World) (hs : Nm w a n ss) (hg : Nm w b m og) (hsz : s.size ≤ 1500) (K1 : Hid (Calls Try.prog 9 #[.slice a n c1] w fun e w' => e = .returned (.bool true) ∧ w' = w)) (K2 : Hid (Calls Try.prog 9 #[.slice b m c2] w fun e w' => e = .returned (.bool true) ∧ w' = w)) :
    Calls Try.prog 4 #[.slice a n c1, .string s, .slice b m c2] w fun e w' => e = .returned (.bool true) ∧ Below w.heap.size w w' := by
  have HN : Hid (Nm w a n ss ∧ Nm w b m og) := ⟨hs, hg⟩
  have hn := hs.n63
  have hm := hg.n63
  have HL : Hid (ss.length = n ∧ og.length = m) := ⟨hs.len, hg.len⟩
  have hs1 : ¬ (1500 : Int) < (s.size : Int) := by omega
  have K3 : Hid (∀ W, Below w.heap.size w W → Calls Try.prog 10 #[.slice a n c1] W fun e w' => e = .returned (.slice (some ⟨W.heap.size, 0, none⟩) n (n + 3)) ∧ Hid (BlkV w' W.heap.size 9 (tv (lentT ss 3)) ∧ Below W.heap.size W w')) := fun W hW => lentN_any a c1 n ss W (hs.below hW).rd hs.len (by omega)
  have K4 : Hid (∀ W, Below w.heap.size w W → Calls Try.prog 10 #[.slice b m c2] W fun e w' => e = .returned (.slice (some ⟨W.heap.size, 0, none⟩) m (m + 3)) ∧ Hid (BlkV w' W.heap.size 9 (tv (lentT og 3)) ∧ Below W.heap.size W w')) := fun W hW => lentN_any b c2 m og W (hg.below hW).rd hg.len (by omega)
  have K5 : Hid (∀ W g, BlkV W g 9 (tv (lentT ss 3)) → Calls Try.prog 36 #[.slice (some ⟨g, 0, none⟩) n (n + 3)] W fun e w' => e = .returned (.tuple #[.string (ntext ss).1, .int .i64 (ntext ss).2]) ∧ Hid (Below W.heap.size W w')) := fun W g hg => ptext_any _ n _ ss W (lent_nm hg hs.len hs.sz)
  have K6 : Hid (∀ W, Below w.heap.size w W → Calls Try.prog 37 #[.slice a n c1] W fun e w' => e = .returned (.tuple #[.string (ntext ss).1, .int .i64 (ntext ss).2]) ∧ Hid (Below W.heap.size W w')) := fun W hW => refntext_any a n c1 ss W (hs.below hW)
  have K7 : Hid (∀ W, Calls Try.prog 38 #[.string s] W (NPost (nparse s).1 (nparse s).2 W)) := fun W => pparse_any s W (by omega)
  have K8 : Hid (∀ W, Calls Try.prog 39 #[.string s] W (NPost (nparse s).1 (nparse s).2 W)) := fun W => refnparse_any s W (by omega)
  have K9 : Hid (∀ W g, BlkV W g 9 (tv (lentT og 3)) → Calls Try.prog 40 #[.string s, .slice (some ⟨g, 0, none⟩) m (m + 3)] W (NPost (nrel s og).1 (nrel s og).2 W)) := fun W g hb => prel_any s _ m _ og W (by omega) (lent_nm hb hg.len hg.sz)
  have K10 : Hid (∀ W, Below w.heap.size w W → Calls Try.prog 41 #[.string s, .slice b m c2] W (NPost (nrel s og).1 (nrel s og).2 W)) := fun W hW => refnrel_any s b m c2 og W (by omega) (hg.below hW)
  have K11 : Hid (∀ W g, Below w.heap.size w W → BlkV W g 9 (tv (lentT ss 3)) → Calls Try.prog 35 #[.slice (some ⟨g, 0, none⟩) n (n + 3), .slice a n c1] W fun e w' => e = .returned (.bool true) ∧ Hid (Below W.heap.size W w')) := fun W g hW hb => keptN_at g a c1 n (n + 3) ss W hs.len hb (hs.below hW).rd (by omega) rfl
  have K12 : Hid (∀ W g, Below w.heap.size w W → BlkV W g 9 (tv (lentT og 3)) → Calls Try.prog 35 #[.slice (some ⟨g, 0, none⟩) m (m + 3), .slice b m c2] W fun e w' => e = .returned (.bool true) ∧ Hid (Below W.heap.size W w')) := fun W g hW hb => keptN_at g b c2 m (m + 3) og W hg.len hb (hg.below hW).rd (by omega) rfl
  have KS : Hid (∀ W x y (r : List ByteArray) (c d : Nat), r.length ≤ 9223372036854775807 → RdT W x r → RdT W y r → Calls Try.prog 32 #[.slice x r.length c, .slice y r.length d] W fun e w' => e = .returned (.bool true) ∧ Hid (Below W.heap.size W w')) := fun W x y r c d hr h1 h2 => sameN_yes x y r.length c d r W h1 h2 rfl hr
  clear hs hg
  generalize (ntext ss).1 = t1 at *
  generalize (ntext ss).2 = t2 at *
  generalize (nparse s).1 = p1 at *
  generalize (nparse s).2 = p2 at *
  generalize (nrel s og).1 = r1 at *
  generalize (nrel s og).2 = r2 at *
  go_enter Try.func4, Try.ntmps4
  go_wp2_with fail
  refine K1.out.mono ?_
  rintro e w0 ⟨rfl, rfl⟩
  go_wp2_with fail
  refine K2.out.mono ?_
  rintro e w0 ⟨rfl, rfl⟩
  go_wp2_with fail
  refine (K3.out _ (Below.refl _ _)).mono ?_
  rintro e w1 ⟨rfl, H1⟩
  go_wp2_with fail
  refine (K4.out _ H1.out.2).mono ?_
  rintro e w2 ⟨rfl, H2⟩
  have B2 : Hid (Below w0.heap.size w0 w2) := H1.out.2.trans (H2.out.2.mono H1.out.2.size)
  have X2 : Hid (BlkV w2 w0.heap.size 9 (tv (lentT ss 3)) ∧ BlkV w2 w1.heap.size 9 (tv (lentT og 3))) := ⟨H1.out.1.below H2.out.2, H2.out.1⟩
  clear H1 H2 K1 K2 K3 K4
  go_wp2_with fail
  refine (K5.out _ _ X2.out.1).mono ?_
  rintro e w3 ⟨rfl, B3⟩
  have C3 : Hid (Below w2.heap.size w2 w3) := B3.out
  go_wp2_with fail
  refine (K6.out _ (B2.out.trans (C3.out.mono B2.out.size))).mono ?_
  rintro e w4 ⟨rfl, B4⟩
  have C4 : Hid (Below w2.heap.size w2 w4) := C3.out.trans (B4.out.mono C3.out.size)
  clear B3 B4 C3 K5 K6
  go_wp2_with fail
  refine (K7.out _).mono ?_
  rintro e w5 ⟨v5, ys5, rfl, H5⟩
  obtain ⟨ao5, hv5, _⟩ := H5.out.1.shape
  subst hv5
  have C5 : Hid (Below w2.heap.size w2 w5) := C4.out.trans (H5.out.2.2.mono C4.out.size)
  have R5 : Hid (RdT w5 ao5 p1) := by have := H5.out.1.rd p1.length; rw [H5.out.2.1] at this; exact this
  have hp5 : p1.length ≤ 9223372036854775807 := by have := H5.out.1.le; simp only [maxLen] at this; omega
  clear H5 C4 K7
  go_wp2_with fail
  refine (K8.out _).mono ?_
  rintro e w6 ⟨v6, ys6, rfl, H6⟩
  obtain ⟨ao6, hv6, _⟩ := H6.out.1.shape
  subst hv6
  have C6 : Hid (Below w2.heap.size w2 w6) := C5.out.trans (H6.out.2.2.mono C5.out.size)
  have R6 : Hid (RdT w6 ao5 p1 ∧ RdT w6 ao6 p1) := ⟨R5.out.below H6.out.2.2, by have := H6.out.1.rd p1.length; rw [H6.out.2.1] at this; exact this⟩
  clear H6 C5 R5 K8
  go_wp2_with fail
  refine (K9.out _ _ (X2.out.2.below C6.out)).mono ?_
  rintro e w7 ⟨v7, ys7, rfl, H7⟩
  obtain ⟨ao7, hv7, _⟩ := H7.out.1.shape
  subst hv7
  have C7 : Hid (Below w2.heap.size w2 w7) := C6.out.trans (H7.out.2.2.mono C6.out.size)
  have R7 : Hid (RdT w7 ao5 p1 ∧ RdT w7 ao6 p1 ∧ RdT w7 ao7 r1) := ⟨R6.out.1.below H7.out.2.2, R6.out.2.below H7.out.2.2, by have := H7.out.1.rd r1.length; rw [H7.out.2.1] at this; exact this⟩
  have O7 : Hid (OwnT w2.heap.size w7 (.slice ao7 r1.length ys7.length) r1.length ys7 1000000000000) := H7.out.1.mono C6.out.size
  have hr7 : r1.length ≤ 9223372036854775807 := by have := H7.out.1.le; simp only [maxLen] at this; omega
  clear H7 C6 R6 K9
  go_wp2_with fail
  refine (K10.out _ (B2.out.trans (C7.out.mono B2.out.size))).mono ?_
  rintro e w8 ⟨v8, ys8, rfl, H8⟩
  obtain ⟨ao8, hv8, _⟩ := H8.out.1.shape
  subst hv8
  have C8 : Hid (Below w2.heap.size w2 w8) := C7.out.trans (H8.out.2.2.mono C7.out.size)
  have R8 : Hid (RdT w8 ao5 p1 ∧ RdT w8 ao6 p1 ∧ RdT w8 ao7 r1 ∧ RdT w8 ao8 r1) := ⟨R7.out.1.below H8.out.2.2, R7.out.2.1.below H8.out.2.2, R7.out.2.2.below H8.out.2.2, by have := H8.out.1.rd r1.length; rw [H8.out.2.1] at this; exact this⟩
  have O8 : Hid (OwnT w2.heap.size w8 (.slice ao7 r1.length ys7.length) r1.length ys7 1000000000000) := O7.out.below H8.out.2.2
  clear H8 C7 R7 K10 O7
  go_wp2_with fail
  refine (KS.out _ _ _ _ _ _ hp5 R8.out.1 R8.out.2.1).mono ?_
  rintro e w9 ⟨rfl, B9⟩
  have C9 : Hid (Below w2.heap.size w2 w9) := C8.out.trans (B9.out.mono C8.out.size)
  have R9 : Hid (RdT w9 ao7 r1 ∧ RdT w9 ao8 r1) := ⟨R8.out.2.2.1.below B9.out, R8.out.2.2.2.below B9.out⟩
  have O9 : Hid (OwnT w2.heap.size w9 (.slice ao7 r1.length ys7.length) r1.length ys7 1000000000000) := O8.out.below B9.out
  clear C8 R8 O8 B9
  go_wp2_with fail
  refine (KS.out _ _ _ _ _ _ hr7 R9.out.1 R9.out.2).mono ?_
  rintro e w10 ⟨rfl, B10⟩
  have C10 : Hid (Below w2.heap.size w2 w10) := C9.out.trans (B10.out.mono C9.out.size)
  have O10 : Hid (OwnT w2.heap.size w10 (.slice ao7 r1.length ys7.length) r1.length ys7 1000000000000) := O9.out.below B10.out
  clear C9 R9 O9 B10 KS
  go_wp2_with fail
  refine (overT_any _ _ _ _ _ O10.out).mono ?_
  rintro e w11 ⟨rfl, B11⟩
  have C11 : Hid (Below w2.heap.size w2 w11) := C10.out.trans B11.out
  have B11' : Hid (Below w0.heap.size w0 w11) := B2.out.trans (C11.out.mono B2.out.size)
  clear O10 C10 B11
  go_wp2_with fail
  refine (K11.out _ _ B11'.out (X2.out.1.below C11.out)).mono ?_
  rintro e w12 ⟨rfl, B12⟩
  have C12 : Hid (Below w2.heap.size w2 w12) := C11.out.trans (B12.out.mono C11.out.size)
  have B12' : Hid (Below w0.heap.size w0 w12) := B2.out.trans (C12.out.mono B2.out.size)
  clear C11 B12 B11' K11
  go_wp2_with fail
  refine (K12.out _ _ B12'.out (X2.out.2.below C12.out)).mono ?_
  rintro e w13 ⟨rfl, B13⟩
  go_wp2
  go_ret
  exact ⟨rfl, B12'.out.trans (B13.out.mono B12'.out.size)⟩
end Go.Proofs.Ytkbpjaojgkpffaa
