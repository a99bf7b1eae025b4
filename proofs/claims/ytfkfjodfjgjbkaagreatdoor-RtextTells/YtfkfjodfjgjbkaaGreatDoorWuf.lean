/- Texts laid together, in parts: Uc Lay6. -/
import Derived.Test.YtfkfjodfjgjbkaaGreatDoorWue
import Derived.Test.YtfkfjodfjgjbkaaGreatDoorCards
import Derived.Test.YtfkfjodfjgjbkaaGreatDoorTie
import Derived.ProofKit
import Derived.OpenShut
import Derived.LaidMore
import Derived.LaidOnce
import Derived.LaidSub
import Derived.MakeChecks
import Derived.Stop.LaidErr
import Derived.Deep.DeepHandedRow
import Derived.Deep.DeepWitnessRowRef
import Derived.Lay
namespace Go.Proofs.YtfkfjodfjgjbkaaGreatDoor
open Go.ChangeShapes Go.WideShapes Go.ChangeAt Go.RowKit
set_option linter.unusedVariables false
set_option linter.unusedSimpArgs false
theorem over_tl {B : Nat} {w0 W : World} {v : Value} {ss : List ByteArray} (h : TL B w0 v ss) (hb : Below w0.heap.size w0 W) :
    Calls Tryz.prog 20 #[v] W fun e w' => e = .returned (.tuple #[]) ∧ Hid (∃ o : Option Nat, W.grownBy w' o ∧ ∀ j, o = some j → B ≤ j ∧ j < w0.heap.size) := by
  obtain ⟨ys, ⟨h1, h2⟩, _⟩ := h
  rcases h1 with ⟨rfl, _, _⟩ | ⟨g, rfl, hg, hblk, hn, hm⟩
  · refine (overT_nil W).mono ?_
    rintro e w' ⟨rfl, rfl⟩
    exact ⟨rfl, none, ⟨rfl, rfl, rfl, Nat.le_refl _, fun _ _ _ => rfl⟩, fun j e => by cases e⟩
  · rw [tv_len] at hn hm ⊢
    refine (overT_blk g ss.length ys.length ys W (hblk.below hb) rfl hn hm (fun s hs => by have := h2 s hs; omega)).mono ?_
    rintro e w' ⟨rfl, H⟩
    exact ⟨rfl, some g, H.out.2.1, fun j e => by injection e with e; subst e; exact ⟨hg, hblk.lt⟩⟩
theorem TL.off {B C : Nat} {W w' : World} {v : Value} {ss : List ByteArray} (h : TL C W v ss) {o : Option Nat} (hg : W.grownBy w' o) (ho : ∀ j, o = some j → B ≤ j ∧ j < C) : TL C w' v ss := by
  obtain ⟨ys, ⟨h1, h2⟩, h3⟩ := h
  refine ⟨ys, ⟨h1.keep (fun g e hl => hg.block g hl (fun e2 => ?_)), h2⟩, h3⟩
  have a1 := h1.lt g e
  have a2 := (ho g e2.symm).2
  omega
set_option maxRecDepth 100000 in
set_option maxHeartbeats 8000000 in
theorem tellsL (t : Nat) (htt : t < 65536) (x : DA) (d : Dat) (s : ByteArray) (hs63 : s.size ≤ 9223372036854775807) (ba : Option Addr) (bn bc : Nat) (zs : List Int) (w : World) (hd : DRd w x d) (hb : BRd w ⟨ba, bn, bc⟩ zs) (hL : LayT w) :
    Calls Tryz.prog 3 #[.int .u16 (t : Int), .agg #[.slice x.p1.a x.p1.n x.p1.c, .slice x.p2.a x.p2.n x.p2.c, .slice x.p3.a x.p3.n x.p3.c, .slice x.p4.a x.p4.n x.p4.c], .string s, .slice ba bn bc] w fun e w' => e = .returned (.bool true) ∧ Hid (Below w.heap.size w w') := by
  have HNB : Hid (Below w.heap.size w (w.alloc (.cells #[.slice x.p1.a x.p1.n x.p1.c, .slice x.p2.a x.p2.n x.p2.c, .slice x.p3.a x.p3.n x.p3.c, .slice x.p4.a x.p4.n x.p4.c] 29)) ∧ DBlk (w.alloc (.cells #[.slice x.p1.a x.p1.n x.p1.c, .slice x.p2.a x.p2.n x.p2.c, .slice x.p3.a x.p3.n x.p3.c, .slice x.p4.a x.p4.n x.p4.c] 29)) w.heap.size x) := ⟨new_below _ _, heap_alloc_new _ _⟩
  have H : Hid (DRd w x d ∧ BRd w ⟨ba, bn, bc⟩ zs ∧ LayT w) := ⟨hd, hb, hL⟩
  have hraw : x.p4.n ≤ 9223372036854775807 := Nat.le_trans hd.h4.cap.1 hd.h4.cap.2
  have hbn : bn ≤ 9223372036854775807 := Nat.le_trans hb.cap.1 hb.cap.2
  have HZL : Hid (zs.length = bn ∧ bn ≤ bc ∧ (ba = none → bc = 0)) := ⟨hb.len, hb.cap.1, hb.nil⟩
  clear hd hb hL
  obtain ⟨⟨a1, n1, k1⟩, ⟨a2, n2, k2⟩, ⟨a3, n3, k3⟩, ⟨a4, n4, k4⟩⟩ := x
  simp only at *
  have HSC : Hid (∀ W, Below (w.alloc (.cells #[.slice a1 n1 k1, .slice a2 n2 k2, .slice a3 n3 k3, .slice a4 n4 k4] 29)).heap.size (w.alloc (.cells #[.slice a1 n1 k1, .slice a2 n2 k2, .slice a3 n3 k3, .slice a4 n4 k4] 29)) W → (W.cell? ⟨w.heap.size, 0, none⟩ = some (.slice a1 n1 k1) ∧ W.cell? ⟨w.heap.size, 1, none⟩ = some (.slice a2 n2 k2) ∧ W.cell? ⟨w.heap.size, 2, none⟩ = some (.slice a3 n3 k3) ∧ W.cell? ⟨w.heap.size, 3, none⟩ = some (.slice a4 n4 k4)) ∧ DRd W ⟨⟨a1, n1, k1⟩, ⟨a2, n2, k2⟩, ⟨a3, n3, k3⟩, ⟨a4, n4, k4⟩⟩ d ∧ BRd W ⟨ba, bn, bc⟩ zs ∧ LayT W ∧ Below w.heap.size w W) := fun W hW => by
    have hb : Below w.heap.size w W := HNB.out.1.trans (hW.mono HNB.out.1.size)
    have hk : DBlk W w.heap.size ⟨⟨a1, n1, k1⟩, ⟨a2, n2, k2⟩, ⟨a3, n3, k3⟩, ⟨a4, n4, k4⟩⟩ := (hW.block _ HNB.out.2.lt).trans HNB.out.2
    exact ⟨⟨hk.box.1, hk.box.2.1, hk.box.2.2.1, hk.box.2.2.2.1⟩, H.out.1.below hb, H.out.2.1.below hb, H.out.2.2.below hb, hb⟩
  clear H HNB
  go_enter Tryz.func3, Tryz.ntmps3
  have hwsz : w.heap.size < (w.alloc (.cells #[.slice a1 n1 k1, .slice a2 n2 k2, .slice a3 n3 k3, .slice a4 n4 k4] 29)).heap.size := by simp
  generalize hwa : w.alloc (.cells #[.slice a1 n1 k1, .slice a2 n2 k2, .slice a3 n3 k3, .slice a4 n4 k4] 29) = wa at *
  have S0 := Lib.hid (HSC.out wa (Below.refl _ _))
  obtain ⟨c0, c1, c2, c3⟩ := S0.out.1
  go_wp2_with fail
  try rw [hwa]
  clear hwa
  refine (large_any ⟨⟨a1, n1, k1⟩, ⟨a2, n2, k2⟩, ⟨a3, n3, k3⟩, ⟨a4, n4, k4⟩⟩ d wa S0.out.2.1).mono ?_
  rintro e w1 ⟨lg, rfl, hsm, h1⟩
  have HB1 : Hid (Below wa.heap.size wa w1) := h1
  have S1 := Lib.hid (HSC.out w1 HB1.out)
  clear S0 c0 c1 c2 c3 h1
  obtain ⟨c0, c1, c2, c3⟩ := S1.out.1
  cases lg with
  | true =>
    go_wp2_with fail
    go_ret
    exact ⟨rfl, S1.out.2.2.2.2⟩
  | false =>
    have HSM : Hid (Small d) := hsm rfl
    clear hsm
    by_cases hr2 : 2000 < n4
    · have hr2' : (2000 : Int) < (n4 : Int) := by omega
      go_wp2_with fail
      go_ret
      exact ⟨rfl, S1.out.2.2.2.2⟩
    have hr2' : ¬ (2000 : Int) < (n4 : Int) := by omega
    by_cases hs2 : 2000 < s.size
    · have hs2' : (2000 : Int) < (s.size : Int) := by omega
      go_wp2_with fail
      go_ret
      exact ⟨rfl, S1.out.2.2.2.2⟩
    have hs2' : ¬ (2000 : Int) < (s.size : Int) := by omega
    by_cases hb2 : 2000 < bn
    · have hb2' : (2000 : Int) < (bn : Int) := by omega
      go_wp2_with fail
      go_ret
      exact ⟨rfl, S1.out.2.2.2.2⟩
    have hb2' : ¬ (2000 : Int) < (bn : Int) := by omega
    have KQ1 : Hid (∀ W, Calls Tryz.prog 18 #[.string s] W fun e w' => e = .returned (.string (xqw s)) ∧ Hid (Below W.heap.size W w')) := fun W => quote_any s W (by omega)
    have KQ2 : Hid (∀ W, Calls Tryz.prog 19 #[.string s] W fun e w' => e = .returned (.string (xqw s)) ∧ Hid (Below W.heap.size W w')) := fun W => rquote_any s W (by omega)
    have HNW : Hid ((wordsR t d).length ≤ 1000) := wordsR_len t d HSM.out
    go_wp2_with fail
    refine (kcopy_any ⟨⟨a1, n1, k1⟩, ⟨a2, n2, k2⟩, ⟨a3, n3, k3⟩, ⟨a4, n4, k4⟩⟩ d w1 S1.out.2.1 HSM.out).mono ?_
    rintro e w2 ⟨⟨⟨e1, m1, q1⟩, ⟨e2, m2, q2⟩, ⟨e3, m3, q3⟩, ⟨e4, m4, q4⟩⟩, rfl, H2⟩
    simp only
    have HB2 : Hid (Below wa.heap.size wa w2) := HB1.out.trans (H2.out.2.mono HB1.out.size)
    have HY2 : Hid (DRd w2 ⟨⟨e1, m1, q1⟩, ⟨e2, m2, q2⟩, ⟨e3, m3, q3⟩, ⟨e4, m4, q4⟩⟩ d) := H2.out.1.rd
    have S2 := Lib.hid (HSC.out w2 HB2.out)
    have KLE : Hid (Calls Tryz.prog 10 #[.slice ba bn bc] w2 fun e w' => e = .returned (.slice (some ⟨w2.heap.size, 0, none⟩) bn (bn + 3)) ∧ Blk w' w2.heap.size (lent zs 3) ∧ w'.heap.size = w2.heap.size + 1 ∧ Below w2.heap.size w2 w') := by
      have := lent_any ba bc zs w2 S2.out.2.2.1.rd S2.out.2.2.1.nil (by rw [HZL.out.1]; omega)
      rw [HZL.out.1] at this
      exact this
    clear H2 S1 HB1 c0 c1 c2 c3
    go_wp2_with fail
    refine KLE.out.mono ?_
    rintro e w3 ⟨rfl, hlb, hl3, h3⟩
    have HX3 : Hid (DBlk (w3.alloc (.cells #[.slice e1 m1 q1, .slice e2 m2 q2, .slice e3 m3 q3, .slice e4 m4 q4] 29)) w3.heap.size ⟨⟨e1, m1, q1⟩, ⟨e2, m2, q2⟩, ⟨e3, m3, q3⟩, ⟨e4, m4, q4⟩⟩) := heap_alloc_new _ _
    have HB3 : Hid (Below wa.heap.size wa (w3.alloc (.cells #[.slice e1 m1 q1, .slice e2 m2 q2, .slice e3 m3 q3, .slice e4 m4 q4] 29))) := by
      have hb := HB2.out.trans (h3.mono HB2.out.size)
      exact hb.trans ((new_below _ _).mono hb.size)
    have HY3 : Hid (DRd (w3.alloc (.cells #[.slice e1 m1 q1, .slice e2 m2 q2, .slice e3 m3 q3, .slice e4 m4 q4] 29)) ⟨⟨e1, m1, q1⟩, ⟨e2, m2, q2⟩, ⟨e3, m3, q3⟩, ⟨e4, m4, q4⟩⟩ d ∧ Blk (w3.alloc (.cells #[.slice e1 m1 q1, .slice e2 m2 q2, .slice e3 m3 q3, .slice e4 m4 q4] 29)) w2.heap.size (lent zs 3) ∧ w3.heap.size < (w3.alloc (.cells #[.slice e1 m1 q1, .slice e2 m2 q2, .slice e3 m3 q3, .slice e4 m4 q4] 29)).heap.size ∧ w2.heap.size < (w3.alloc (.cells #[.slice e1 m1 q1, .slice e2 m2 q2, .slice e3 m3 q3, .slice e4 m4 q4] 29)).heap.size) := by
      refine ⟨(HY2.out.below h3).below (new_below _ _), ⟨((new_below w3 _).block _ (by omega)).trans hlb.1, hlb.2⟩, by simp, by simp; omega⟩
    clear HY2 HB2 S2 KLE hlb hl3 h3
    obtain ⟨X, hX⟩ : ∃ X, X = w3.heap.size := ⟨_, rfl⟩
    obtain ⟨G, hG⟩ : ∃ G, G = w2.heap.size := ⟨_, rfl⟩
    rw [← hX] at HX3 HY3
    rw [← hG] at HY3
    go_wp2_with fail
    rw [← hX, ← hG]
    clear hX hG
    generalize w3.alloc (.cells #[.slice e1 m1 q1, .slice e2 m2 q2, .slice e3 m3 q3, .slice e4 m4 q4] 29) = wx at *
    have HM : Hid (∀ W, Below wx.heap.size wx W → (W.cell? ⟨X, 0, none⟩ = some (.slice e1 m1 q1) ∧ W.cell? ⟨X, 1, none⟩ = some (.slice e2 m2 q2) ∧ W.cell? ⟨X, 2, none⟩ = some (.slice e3 m3 q3) ∧ W.cell? ⟨X, 3, none⟩ = some (.slice e4 m4 q4)) ∧ DRd W ⟨⟨e1, m1, q1⟩, ⟨e2, m2, q2⟩, ⟨e3, m3, q3⟩, ⟨e4, m4, q4⟩⟩ d ∧ Blk W G (lent zs 3) ∧ Rd W (some ⟨G, 0, none⟩) zs ∧ Below wa.heap.size wa W) := fun W hW => by
      have hk : DBlk W X ⟨⟨e1, m1, q1⟩, ⟨e2, m2, q2⟩, ⟨e3, m3, q3⟩, ⟨e4, m4, q4⟩⟩ := (hW.block _ HY3.out.2.2.1).trans HX3.out
      have hbk : Blk W G (lent zs 3) := ⟨(hW.block _ HY3.out.2.2.2).trans HY3.out.2.1.1, HY3.out.2.1.2⟩
      have hll : (lent zs 3).length = zs.length + 3 := lent_len zs 3 (by omega)
      have hown : Own 0 W (.slice (some ⟨G, 0, none⟩) zs.length (lent zs 3).length) zs.length (lent zs 3) := .inr ⟨G, rfl, Nat.zero_le _, hbk, by omega, by rw [hll, HZL.out.1]; simp only [maxLen]; omega⟩
      obtain ⟨ao, he, hoa⟩ := hown.addr
      injection he with he1 _ _
      have hrd := hoa.rdTake zs.length
      rw [lent_take, ← he1] at hrd
      exact ⟨⟨hk.box.1, hk.box.2.1, hk.box.2.2.1, hk.box.2.2.2.1⟩, HY3.out.1.below hW, hbk, hrd, HB3.out.trans (hW.mono HB3.out.size)⟩
    clear HX3 HB3 HY3
    have HBx : Hid (Below wx.heap.size wx wx) := Below.refl _ _
    have Mwx := Lib.hid (HM.out wx HBx.out)
    have Swx := Lib.hid (HSC.out wx Mwx.out.2.2.2.2)
    obtain ⟨f0, f1, f2, f3⟩ := Mwx.out.1
    obtain ⟨c0, c1, c2, c3⟩ := Swx.out.1
    go_wp2_with fail
    refine (words_any t ⟨⟨e1, m1, q1⟩, ⟨e2, m2, q2⟩, ⟨e3, m3, q3⟩, ⟨e4, m4, q4⟩⟩ d wx Mwx.out.2.1 HSM.out.bd Swx.out.2.2.2.1).mono ?_
    rintro e w4 ⟨v4, ys4, rfl, H4⟩
    have HB4 : Hid (Below wx.heap.size wx w4) := HBx.out.trans (H4.out.2.2.mono HBx.out.size)
    have HT4 : Hid (TL wx.heap.size w4 v4 (wordsR t d)) := ⟨ys4, H4.out.1, H4.out.2.1⟩
    clear H4
    clear f0 f1 f2 f3 c0 c1 c2 c3
    have Mw4 := Lib.hid (HM.out w4 HB4.out)
    have Sw4 := Lib.hid (HSC.out w4 Mw4.out.2.2.2.2)
    obtain ⟨f0, f1, f2, f3⟩ := Mw4.out.1
    obtain ⟨c0, c1, c2, c3⟩ := Sw4.out.1
    go_wp2_with fail
    refine (words_any t ⟨⟨e1, m1, q1⟩, ⟨e2, m2, q2⟩, ⟨e3, m3, q3⟩, ⟨e4, m4, q4⟩⟩ d w4 Mw4.out.2.1 HSM.out.bd Sw4.out.2.2.2.1).mono ?_
    rintro e w5 ⟨v5, ys5, rfl, H5⟩
    have HB5 : Hid (Below wx.heap.size wx w5) := HB4.out.trans (H5.out.2.2.mono HB4.out.size)
    have HT5 : Hid (TL w4.heap.size w5 v5 (wordsR t d)) := ⟨ys5, H5.out.1, H5.out.2.1⟩
    have HC5 : Hid (Below w4.heap.size w4 w5) := H5.out.2.2
    clear H5
    clear f0 f1 f2 f3 c0 c1 c2 c3
    have Mw5 := Lib.hid (HM.out w5 HB5.out)
    have Sw5 := Lib.hid (HSC.out w5 Mw5.out.2.2.2.2)
    obtain ⟨f0, f1, f2, f3⟩ := Mw5.out.1
    obtain ⟨c0, c1, c2, c3⟩ := Sw5.out.1
    go_wp2_with fail
    refine (rwords_any t htt ⟨⟨a1, n1, k1⟩, ⟨a2, n2, k2⟩, ⟨a3, n3, k3⟩, ⟨a4, n4, k4⟩⟩ d w5 Sw5.out.2.1 HSM.out).mono ?_
    rintro e w6 ⟨v6, rfl, H6⟩
    have HB6 : Hid (Below wx.heap.size wx w6) := HB5.out.trans (H6.out.2.mono HB5.out.size)
    have HT6 : Hid (TL w5.heap.size w6 v6 (wordsR t d)) := H6.out.1
    have HC6 : Hid (Below w5.heap.size w5 w6) := H6.out.2
    clear H6
    clear f0 f1 f2 f3 c0 c1 c2 c3
    have HLS6 : Hid (Below w4.heap.size w4 w6 ∧ TL w4.heap.size w6 v5 (wordsR t d) ∧ TL w5.heap.size w6 v6 (wordsR t d) ∧ w4.heap.size ≤ w5.heap.size) := ⟨HC5.out.trans (HC6.out.mono HC5.out.size), HT5.out.below HC6.out, HT6.out, HC5.out.size⟩
    clear HC5 HC6 HT5 HT6
    have Mw6 := Lib.hid (HM.out w6 HB6.out)
    have Sw6 := Lib.hid (HSC.out w6 Mw6.out.2.2.2.2)
    obtain ⟨f0, f1, f2, f3⟩ := Mw6.out.1
    obtain ⟨c0, c1, c2, c3⟩ := Sw6.out.1
    go_wp2_with fail
    refine (text13_any t ⟨⟨e1, m1, q1⟩, ⟨e2, m2, q2⟩, ⟨e3, m3, q3⟩, ⟨e4, m4, q4⟩⟩ d w6 Mw6.out.2.1 HSM.out.bd Sw6.out.2.2.2.1 (by have := HNW.out; omega)).mono ?_
    rintro e w7 ⟨rfl, H7⟩
    have HB7 : Hid (Below wx.heap.size wx w7) := HB6.out.trans (H7.out.mono HB6.out.size)
    have HLS7 : Hid (Below w4.heap.size w4 w7 ∧ TL w4.heap.size w7 (v5) (wordsR t d) ∧ TL w5.heap.size w7 (v6) (wordsR t d) ∧ w4.heap.size ≤ w5.heap.size) := ⟨HLS6.out.1.trans (H7.out.mono HLS6.out.1.size), HLS6.out.2.1.below H7.out, HLS6.out.2.2.1.below H7.out, HLS6.out.2.2.2⟩
    clear HLS6 H7
    clear f0 f1 f2 f3 c0 c1 c2 c3
    have Mw7 := Lib.hid (HM.out w7 HB7.out)
    have Sw7 := Lib.hid (HSC.out w7 Mw7.out.2.2.2.2)
    obtain ⟨f0, f1, f2, f3⟩ := Mw7.out.1
    obtain ⟨c0, c1, c2, c3⟩ := Sw7.out.1
    go_wp2_with fail
    refine (rtext14_any t htt ⟨⟨a1, n1, k1⟩, ⟨a2, n2, k2⟩, ⟨a3, n3, k3⟩, ⟨a4, n4, k4⟩⟩ d w7 Sw7.out.2.1 HSM.out).mono ?_
    rintro e w8 ⟨rfl, H8⟩
    have HB8 : Hid (Below wx.heap.size wx w8) := HB7.out.trans (H8.out.mono HB7.out.size)
    have HLS8 : Hid (Below w4.heap.size w4 w8 ∧ TL w4.heap.size w8 (v5) (wordsR t d) ∧ TL w5.heap.size w8 (v6) (wordsR t d) ∧ w4.heap.size ≤ w5.heap.size) := ⟨HLS7.out.1.trans (H8.out.mono HLS7.out.1.size), HLS7.out.2.1.below H8.out, HLS7.out.2.2.1.below H8.out, HLS7.out.2.2.2⟩
    clear HLS7 H8
    clear f0 f1 f2 f3 c0 c1 c2 c3
    have Mw8 := Lib.hid (HM.out w8 HB8.out)
    have Sw8 := Lib.hid (HSC.out w8 Mw8.out.2.2.2.2)
    obtain ⟨f0, f1, f2, f3⟩ := Mw8.out.1
    obtain ⟨c0, c1, c2, c3⟩ := Sw8.out.1
    go_wp2_with fail
    refine (address_any (some ⟨G, 0, none⟩) bn (bn + 3) zs w8 Mw8.out.2.2.2.1 HZL.out.1 Sw8.out.2.2.2.1).mono ?_
    rintro e w9 ⟨rfl, H9⟩
    have HB9 : Hid (Below wx.heap.size wx w9) := HB8.out.trans (H9.out.mono HB8.out.size)
    have HLS9 : Hid (Below w4.heap.size w4 w9 ∧ TL w4.heap.size w9 (v5) (wordsR t d) ∧ TL w5.heap.size w9 (v6) (wordsR t d) ∧ w4.heap.size ≤ w5.heap.size) := ⟨HLS8.out.1.trans (H9.out.mono HLS8.out.1.size), HLS8.out.2.1.below H9.out, HLS8.out.2.2.1.below H9.out, HLS8.out.2.2.2⟩
    clear HLS8 H9
    clear f0 f1 f2 f3 c0 c1 c2 c3
    have Mw9 := Lib.hid (HM.out w9 HB9.out)
    have Sw9 := Lib.hid (HSC.out w9 Mw9.out.2.2.2.2)
    obtain ⟨f0, f1, f2, f3⟩ := Mw9.out.1
    obtain ⟨c0, c1, c2, c3⟩ := Sw9.out.1
    go_wp2_with fail
    refine (raddr_any ba bn bc zs w9 Sw9.out.2.2.1.rd HZL.out.1).mono ?_
    rintro e w10 ⟨rfl, H10⟩
    have HB10 : Hid (Below wx.heap.size wx w10) := HB9.out.trans (H10.out.mono HB9.out.size)
    have HLS10 : Hid (Below w4.heap.size w4 w10 ∧ TL w4.heap.size w10 (v5) (wordsR t d) ∧ TL w5.heap.size w10 (v6) (wordsR t d) ∧ w4.heap.size ≤ w5.heap.size) := ⟨HLS9.out.1.trans (H10.out.mono HLS9.out.1.size), HLS9.out.2.1.below H10.out, HLS9.out.2.2.1.below H10.out, HLS9.out.2.2.2⟩
    clear HLS9 H10
    clear f0 f1 f2 f3 c0 c1 c2 c3
    obtain ⟨l4, cc4, hv4, hr4, -⟩ := HT4.out.rd
    obtain ⟨l5, cc5, hv5, hr5, -⟩ := HLS10.out.2.1.rd
    obtain ⟨l6, cc6, hv6, hr6, -⟩ := HLS10.out.2.2.1.rd
    have HR10 : Hid (RdT w10 l4 (wordsR t d) ∧ RdT w10 l6 (wordsR t d)) := ⟨hr4.below HLS10.out.1, hr6⟩
    obtain ⟨N, hN⟩ : ∃ N, (wordsR t d).length = N := ⟨_, rfl⟩
    have HN : Hid ((wordsR t d).length = N) := hN
    rw [hN] at hv4 hv5 hv6
    have hN63 : N ≤ 1000 := by have := HNW.out; omega
    subst hv4 hv5 hv6
    clear hr4 hr5 hr6 hN HNW
    generalize hTT : textR t d = TT at *
    generalize hCC : checkF t d = CC at *
    generalize hA1 : (xaddrR zs).1 = A1 at *
    generalize hA2 : (xaddrR zs).2 = A2 at *
    generalize hQQ : xqw s = QQ at *
    clear hTT hCC hA1 hA2 hQQ
    have Mw10 := Lib.hid (HM.out w10 HB10.out)
    have Sw10 := Lib.hid (HSC.out w10 Mw10.out.2.2.2.2)
    obtain ⟨f0, f1, f2, f3⟩ := Mw10.out.1
    obtain ⟨c0, c1, c2, c3⟩ := Sw10.out.1
    go_wp2_with fail
    refine (sameT_yes l4 l6 N cc4 cc6 (wordsR t d) w10 HR10.out.1 HR10.out.2 HN.out (by omega)).mono ?_
    rintro e w11 ⟨rfl, H11⟩
    have HB11 : Hid (Below wx.heap.size wx w11) := HB10.out.trans (H11.out.mono HB10.out.size)
    have HLS11 : Hid (Below w4.heap.size w4 w11 ∧ TL w4.heap.size w11 (.slice l5 N cc5) (wordsR t d) ∧ TL w5.heap.size w11 (.slice l6 N cc6) (wordsR t d) ∧ w4.heap.size ≤ w5.heap.size) := ⟨HLS10.out.1.trans (H11.out.mono HLS10.out.1.size), HLS10.out.2.1.below H11.out, HLS10.out.2.2.1.below H11.out, HLS10.out.2.2.2⟩
    clear HLS10 H11
    clear HR10
    clear f0 f1 f2 f3 c0 c1 c2 c3
    have Mw11 := Lib.hid (HM.out w11 HB11.out)
    have Sw11 := Lib.hid (HSC.out w11 Mw11.out.2.2.2.2)
    obtain ⟨f0, f1, f2, f3⟩ := Mw11.out.1
    obtain ⟨c0, c1, c2, c3⟩ := Sw11.out.1
    go_wp2_with fail
    refine (KQ1.out w11).mono ?_
    rintro e w12 ⟨rfl, H12⟩
    have HB12 : Hid (Below wx.heap.size wx w12) := HB11.out.trans (H12.out.mono HB11.out.size)
    have HLS12 : Hid (Below w4.heap.size w4 w12 ∧ TL w4.heap.size w12 (.slice l5 N cc5) (wordsR t d) ∧ TL w5.heap.size w12 (.slice l6 N cc6) (wordsR t d) ∧ w4.heap.size ≤ w5.heap.size) := ⟨HLS11.out.1.trans (H12.out.mono HLS11.out.1.size), HLS11.out.2.1.below H12.out, HLS11.out.2.2.1.below H12.out, HLS11.out.2.2.2⟩
    clear HLS11 H12
    clear f0 f1 f2 f3 c0 c1 c2 c3
    have Mw12 := Lib.hid (HM.out w12 HB12.out)
    have Sw12 := Lib.hid (HSC.out w12 Mw12.out.2.2.2.2)
    obtain ⟨f0, f1, f2, f3⟩ := Mw12.out.1
    obtain ⟨c0, c1, c2, c3⟩ := Sw12.out.1
    go_wp2_with fail
    refine (KQ2.out w12).mono ?_
    rintro e w13 ⟨rfl, H13⟩
    have HB13 : Hid (Below wx.heap.size wx w13) := HB12.out.trans (H13.out.mono HB12.out.size)
    have HLS13 : Hid (Below w4.heap.size w4 w13 ∧ TL w4.heap.size w13 (.slice l5 N cc5) (wordsR t d) ∧ TL w5.heap.size w13 (.slice l6 N cc6) (wordsR t d) ∧ w4.heap.size ≤ w5.heap.size) := ⟨HLS12.out.1.trans (H13.out.mono HLS12.out.1.size), HLS12.out.2.1.below H13.out, HLS12.out.2.2.1.below H13.out, HLS12.out.2.2.2⟩
    clear HLS12 H13
    clear f0 f1 f2 f3 c0 c1 c2 c3
    have Mw13 := Lib.hid (HM.out w13 HB13.out)
    have Sw13 := Lib.hid (HSC.out w13 Mw13.out.2.2.2.2)
    obtain ⟨f0, f1, f2, f3⟩ := Mw13.out.1
    obtain ⟨c0, c1, c2, c3⟩ := Sw13.out.1
    go_wp2_with fail
    refine (over_tl HT4.out HLS13.out.1).mono ?_
    rintro e w14 ⟨rfl, H14⟩
    obtain ⟨o14, g14, ho14⟩ := H14.out
    have HB14 : Hid (Below wx.heap.size wx w14) := HB13.out.grown g14 HB13.out.size (fun j e => (ho14 j e).1)
    have HR14 : Hid (RdT w14 l5 (wordsR t d) ∧ RdT w14 l6 (wordsR t d)) := by
      obtain ⟨p1, p2, pe, pr, -⟩ := (HLS13.out.2.1.off (B := wx.heap.size) g14 ho14).rd
      obtain ⟨r1, r2, re, rr, -⟩ := (HLS13.out.2.2.1.off (B := wx.heap.size) g14 (fun j e => ⟨(ho14 j e).1, Nat.lt_of_lt_of_le (ho14 j e).2 HLS13.out.2.2.2⟩)).rd
      injection pe with pe1 _ _
      injection re with re1 _ _
      exact ⟨by rw [pe1]; exact pr, by rw [re1]; exact rr⟩
    clear f0 f1 f2 f3 c0 c1 c2 c3 H14 g14 ho14 HLS13 HT4
    have Mw14 := Lib.hid (HM.out w14 HB14.out)
    have Sw14 := Lib.hid (HSC.out w14 Mw14.out.2.2.2.2)
    obtain ⟨f0, f1, f2, f3⟩ := Mw14.out.1
    obtain ⟨c0, c1, c2, c3⟩ := Sw14.out.1
    go_wp2_with fail
    refine (sameT_yes l5 l6 N cc5 cc6 (wordsR t d) w14 HR14.out.1 HR14.out.2 HN.out (by omega)).mono ?_
    rintro e w15 ⟨rfl, H15⟩
    have HB15 : Hid (Below wx.heap.size wx w15) := HB14.out.trans (H15.out.mono HB14.out.size)
    clear HR14 H15
    clear f0 f1 f2 f3 c0 c1 c2 c3
    have Mw15 := Lib.hid (HM.out w15 HB15.out)
    have Sw15 := Lib.hid (HSC.out w15 Mw15.out.2.2.2.2)
    obtain ⟨f0, f1, f2, f3⟩ := Mw15.out.1
    obtain ⟨c0, c1, c2, c3⟩ := Sw15.out.1
    go_wp2_with fail
    refine (samedata_yes ⟨⟨e1, m1, q1⟩, ⟨e2, m2, q2⟩, ⟨e3, m3, q3⟩, ⟨e4, m4, q4⟩⟩ ⟨⟨a1, n1, k1⟩, ⟨a2, n2, k2⟩, ⟨a3, n3, k3⟩, ⟨a4, n4, k4⟩⟩ d w15 Mw15.out.2.1 Sw15.out.2.1).mono ?_
    rintro e w16 ⟨rfl, H16⟩
    have HB16 : Hid (Below wx.heap.size wx w16) := HB15.out.trans (H16.out.mono HB15.out.size)
    clear H16
    clear f0 f1 f2 f3 c0 c1 c2 c3
    have Mw16 := Lib.hid (HM.out w16 HB16.out)
    have Sw16 := Lib.hid (HSC.out w16 Mw16.out.2.2.2.2)
    obtain ⟨f0, f1, f2, f3⟩ := Mw16.out.1
    obtain ⟨c0, c1, c2, c3⟩ := Sw16.out.1
    go_wp2_with fail
    refine (kept_yes G ba bc bn zs w16 HZL.out.1 Mw16.out.2.2.1 Sw16.out.2.2.1.rd HZL.out.2.2 (by omega) HZL.out.2.1).mono ?_
    rintro e w17 ⟨rfl, h17⟩
    have HBF : Hid (Below w.heap.size w w17) := Sw16.out.2.2.2.2.trans (h17.mono Sw16.out.2.2.2.2.size)
    clear f0 f1 f2 f3 c0 c1 c2 c3
    go_wp2_with fail
    go_ret
    exact ⟨rfl, HBF⟩
end Go.Proofs.YtfkfjodfjgjbkaaGreatDoor
namespace Go.Proofs.YtfkfjodfjgjbkaaGreatDoor
open Go.ChangeShapes Go.WideShapes Go.ChangeAt Go.RowKit
set_option linter.unusedVariables false
theorem d_own : ownKnob Tryz.prog.godebug = none := by kernel_rfl
theorem tPow : (Tryz.prog.globals[1]?).map (·.type) = some 192 := by kernel_rfl
theorem gBru : Tryz.prog.globalNamed "math/bits.deBruijn64tab" = some 7 := by kernel_rfl
theorem tBru : (Tryz.prog.globals[7]?).map (·.type) = some 226 := by kernel_rfl
theorem c5 : Tryz.prog.cellsOf 5 = 1 := by kernel_rfl
theorem c226 : Tryz.prog.cellsOf 226 = 64 := by kernel_rfl
theorem c139 : Tryz.prog.cellsOf 139 = 1 := by kernel_rfl
theorem c192 : Tryz.prog.cellsOf 192 = 20 := by kernel_rfl
abbrev bruTab : List Int := [0, 1, 56, 2, 57, 49, 28, 3, 61, 58, 42, 50, 38, 29, 17, 4, 62, 47, 59, 36, 45, 43, 51, 22, 53, 39, 33, 30, 24, 18, 12, 5, 63, 55, 48, 27, 60, 41, 37, 16, 46, 35, 44, 21, 52, 32, 23, 11, 54, 26, 40, 15, 34, 20, 31, 10, 25, 14, 19, 9, 13, 8, 7, 6]
theorem powD : (Rows.laid_internal_strconv_uint64pow10 : DataW Unit) = Lib.tabData .u64 Lib.pow10Tab := by kernel_rfl
theorem bruD : (Rows.laid_math_bits_deBruijn64tab : DataW Unit) = Lib.tabData .u8 bruTab := by kernel_rfl
theorem met_pow {r : List (String × DataW Unit)} {W : World} (h : laidMet Tryz.prog (("internal/strconv.uint64pow10", Rows.laid_internal_strconv_uint64pow10) :: r) W) : Lib.TabIs Tryz.prog W "internal/strconv.uint64pow10" .u64 Lib.pow10Tab := by
  rw [powD] at h
  exact Lib.tabIs_of_head gPow tPow Tryz.underlying192 Tryz.underlying139 c139 c192 h
theorem met_bru {r : List (String × DataW Unit)} {W : World} (h : laidMet Tryz.prog (("math/bits.deBruijn64tab", Rows.laid_math_bits_deBruijn64tab) :: r) W) : 7 < W.heap.size ∧ W.cell? ⟨7, 15, none⟩ = some (.int .u8 4) := by
  rw [bruD] at h
  have h1 := Lib.tabIs_of_head gBru tBru Tryz.underlying226 Tryz.underlying5 c5 c226 h
  unfold Lib.TabIs World.var? at h1
  rw [gBru] at h1
  simp only [Option.bind_some] at h1
  have key : ∃ cs t z, W.heap[7]? = some (.cells cs t z) ∧ cs = (bruTab.map fun z => Value.int .u8 z).toArray := by
    cases hh : W.heap[7]? with
    | none => rw [hh] at h1; cases h1
    | some o =>
      rw [hh] at h1
      cases o with
      | cells cs t z => exact ⟨cs, t, z, rfl, Option.some.inj h1⟩
      | _ => cases h1
  obtain ⟨cs, t, z, e1, e2⟩ := key
  refine ⟨(Array.getElem?_eq_some_iff.1 e1).1, ?_⟩
  unfold World.cell?
  rw [show W.heap[(⟨7, 15, none⟩ : Addr).block]? = _ from e1, e2]
  rfl
abbrev laid3 : List (String × DataW Unit) := [("math/bits.deBruijn32tab", Rows.laid_math_bits_deBruijn32tab), ("math/bits.deBruijn64tab", Rows.laid_math_bits_deBruijn64tab), ("internal/strconv.uint64pow10", Rows.laid_internal_strconv_uint64pow10)]
theorem plain3 : (laid3.all fun x => x.2.handleName?.isNone) = true := by kernel_rfl
theorem lay3 {W : World} (h : laidMetH Tryz.prog laid3 W) : LayT W := by
  rw [MakeChecks.laidMetH_plain _ _ _ plain3] at h
  exact ⟨met_pow h.tail.tail, met_bru h.tail⟩
theorem all_met3 (os : Os) (args : Array Value) : laidMetH Tryz.prog laid3 ((World.laidAll Tryz.prog os laid3).forCall (fun _ _ => 0) ⟨#[], args, []⟩).memory := by
  rw [MakeChecks.laidMetH_plain _ _ _ plain3]
  exact laidMet_laidAll args (by kernel_rfl) (by kernel_rfl)
end Go.Proofs.YtfkfjodfjgjbkaaGreatDoor
