/- Texts laid together: Qp. -/
import Derived.Test.YtfkfjodfjgjbkaaGreatDoorWba
/- Data that are told as words are read again: the statement's function. -/
namespace Go.Proofs.YtfkfjodfjgjbkaaGreatDoor
open Go.ChangeShapes Go.WideShapes Go.ChangeAt Go.RowKit
set_option linter.unusedVariables false
set_option linter.unusedSimpArgs false

theorem xwords_pos (t : Nat) (d : Dat) (hck : checkF t d = 0) : 0 < (xwords t d).length := by
  obtain ⟨hm, hf, hn, hz⟩ := check_parts hck
  unfold fitsB at hf
  simp only [Bool.and_eq_true, decide_eq_true_eq, Bool.or_eq_true, List.all_eq_true] at hf
  obtain ⟨⟨⟨⟨⟨⟨⟨f1, f2⟩, f3⟩, f4⟩, f5⟩, f6⟩, f7⟩, f8⟩ := hf
  unfold xwords
  split
  · simp
  · next h1 =>
    split
    · simp
    · next h2 =>
      split
      · next h3 =>
        subst h3
        simp only [List.length_append, List.length_map]
        have : (shp 6).nn = 2 := rfl
        omega
      · next h3 =>
        simp only [List.length_append, List.length_map]
        rcases shp_cases t with ⟨ht, e⟩ | ⟨ht, e⟩ | ⟨ht, e⟩ | ⟨ht, e⟩ | ⟨ht, e⟩ | ⟨ht, e⟩ | ⟨ht, e⟩ | ⟨ht, e⟩ | ⟨ht, e⟩
        all_goals rw [e] at f1 f2 f3 f4
        all_goals simp only at f1 f2 f3 f4
        · omega
        · omega
        · omega
        · omega
        · omega
        · omega
        · have : d.ts.length ≠ 0 := by
            intro h0
            simp [h0] at f4
          unfold xtw
          rw [if_neg (by omega), List.length_map]
          omega
        · omega
        · obtain ⟨g1, g2, g3, g4, g5, g6, g7, g8, g9, g10⟩ := ht
          exact absurd (show xkn t = false by simp [xkn, g1, g2, g3, g4, g5, g6, g7, g8, g9, g10]) h2
theorem xwords_len (t : Nat) (d : Dat) (hs : Small d) : (xwords t d).length ≤ 1000 := by
  unfold xwords
  have h1 := hs.n
  have h2 := hs.u
  have h3 := hs.t
  split
  · simp
  · split
    · simp only [List.length_cons]; split <;> simp
    · split
      · simp only [List.length_append, List.length_map]; omega
      · simp only [List.length_append, List.length_map]
        have : (xtw t d.ts).length ≤ 300 := by
          unfold xtw
          split
          · rcases hts : d.ts with _ | ⟨a, r⟩
            · simp
            · rw [hts] at h3; simpa using h3
          · simpa using h3
        omega
set_option maxRecDepth 100000 in
set_option maxHeartbeats 8000000 in
theorem backL (t : Nat) (x : DA) (d : Dat) (oa : Option Addr) (on oc : Nat) (og : List ByteArray) (w : World) (hd : DRd w x d) (ho : TRd w ⟨oa, on, oc⟩ og) (hL : LayT w) (hE : LayE w) :
    Calls Tryz.prog 4 #[.int .u16 (t : Int), .agg #[.slice x.p1.a x.p1.n x.p1.c, .slice x.p2.a x.p2.n x.p2.c, .slice x.p3.a x.p3.n x.p3.c, .slice x.p4.a x.p4.n x.p4.c], .slice oa on oc] w fun e w' => e = .returned (.bool true) ∧ Hid (Below w.heap.size w w') := by
  have HNB : Hid (Below w.heap.size w (w.alloc (.cells #[.slice x.p1.a x.p1.n x.p1.c, .slice x.p2.a x.p2.n x.p2.c, .slice x.p3.a x.p3.n x.p3.c, .slice x.p4.a x.p4.n x.p4.c] 29)) ∧ DBlk (w.alloc (.cells #[.slice x.p1.a x.p1.n x.p1.c, .slice x.p2.a x.p2.n x.p2.c, .slice x.p3.a x.p3.n x.p3.c, .slice x.p4.a x.p4.n x.p4.c] 29)) w.heap.size x) := ⟨new_below _ _, heap_alloc_new _ _⟩
  have H : Hid (DRd w x d ∧ TRd w ⟨oa, on, oc⟩ og ∧ LayT w ∧ LayE w) := ⟨hd, ho, hL, hE⟩
  have hraw : x.p4.n ≤ 9223372036854775807 := Nat.le_trans hd.h4.cap.1 hd.h4.cap.2
  have hon : on ≤ 9223372036854775807 := Nat.le_trans ho.cap.1 ho.cap.2
  have HLN : Hid (d.raw.length = x.p4.n ∧ og.length = on) := ⟨hd.h4.len, ho.len⟩
  have HRB : Hid (∀ z ∈ d.raw, 0 ≤ z ∧ z ≤ 255) := hd.h4.rd.2
  clear hd ho hL hE
  obtain ⟨⟨a1, n1, k1⟩, ⟨a2, n2, k2⟩, ⟨a3, n3, k3⟩, ⟨a4, n4, k4⟩⟩ := x
  simp only at *
  have HSC : Hid (∀ W, Below (w.alloc (.cells #[.slice a1 n1 k1, .slice a2 n2 k2, .slice a3 n3 k3, .slice a4 n4 k4] 29)).heap.size (w.alloc (.cells #[.slice a1 n1 k1, .slice a2 n2 k2, .slice a3 n3 k3, .slice a4 n4 k4] 29)) W → (W.cell? ⟨w.heap.size, 0, none⟩ = some (.slice a1 n1 k1) ∧ W.cell? ⟨w.heap.size, 1, none⟩ = some (.slice a2 n2 k2) ∧ W.cell? ⟨w.heap.size, 2, none⟩ = some (.slice a3 n3 k3) ∧ W.cell? ⟨w.heap.size, 3, none⟩ = some (.slice a4 n4 k4)) ∧ DRd W ⟨⟨a1, n1, k1⟩, ⟨a2, n2, k2⟩, ⟨a3, n3, k3⟩, ⟨a4, n4, k4⟩⟩ d ∧ TRd W ⟨oa, on, oc⟩ og ∧ LayT W ∧ LayE W ∧ Below w.heap.size w W) := fun W hW => by
    have hb : Below w.heap.size w W := HNB.out.1.trans (hW.mono HNB.out.1.size)
    have hk : DBlk W w.heap.size ⟨⟨a1, n1, k1⟩, ⟨a2, n2, k2⟩, ⟨a3, n3, k3⟩, ⟨a4, n4, k4⟩⟩ := (hW.block _ HNB.out.2.lt).trans HNB.out.2
    exact ⟨⟨hk.box.1, hk.box.2.1, hk.box.2.2.1, hk.box.2.2.2.1⟩, H.out.1.below hb, H.out.2.1.below hb, H.out.2.2.1.below hb, H.out.2.2.2.below hb, hb⟩
  clear H HNB
  go_enter Tryz.func4, Tryz.ntmps4
  have hwsz : w.heap.size < (w.alloc (.cells #[.slice a1 n1 k1, .slice a2 n2 k2, .slice a3 n3 k3, .slice a4 n4 k4] 29)).heap.size := by simp
  generalize hwa : w.alloc (.cells #[.slice a1 n1 k1, .slice a2 n2 k2, .slice a3 n3 k3, .slice a4 n4 k4] 29) = wa at *
  have S0 := Lib.hid (HSC.out wa (Below.refl _ _))
  go_wp2_with fail
  try rw [hwa]
  clear hwa
  refine (awake6 wa S0.out.2.2.2.1).mono ?_
  rintro e w1 ⟨rfl, H1⟩
  have S1 := Lib.hid (HSC.out w1 H1.out)
  obtain ⟨c0, c1, c2, c3⟩ := S1.out.1
  go_wp2_with fail
  refine (large_any ⟨⟨a1, n1, k1⟩, ⟨a2, n2, k2⟩, ⟨a3, n3, k3⟩, ⟨a4, n4, k4⟩⟩ d w1 S1.out.2.1).mono ?_
  rintro e w2 ⟨lg, rfl, hsm, h2⟩
  have HB2 : Hid (Below wa.heap.size wa w2) := H1.out.trans (h2.mono H1.out.size)
  have S2 := Lib.hid (HSC.out w2 HB2.out)
  clear H1 S1 c0 c1 c2 c3 S0 h2
  obtain ⟨c0, c1, c2, c3⟩ := S2.out.1
  cases lg with
  | true =>
    go_wp2_with fail
    go_ret
    exact ⟨rfl, S2.out.2.2.2.2.2⟩
  | false =>
    have HSM : Hid (Small d) := hsm rfl
    clear hsm
    by_cases hr : 2000 < n4
    · have hr' : (2000 : Int) < (n4 : Int) := by omega
      go_wp2_with fail
      go_ret
      exact ⟨rfl, S2.out.2.2.2.2.2⟩
    · have hr' : ¬ (2000 : Int) < (n4 : Int) := by omega
      by_cases hno : 200 < on
      · have hno' : (200 : Int) < (on : Int) := by omega
        go_wp2_with fail
        go_ret
        exact ⟨rfl, S2.out.2.2.2.2.2⟩
      · have hno' : ¬ (200 : Int) < (on : Int) := by omega
        have KW : Hid (Calls Tryz.prog 11 #[.int .u16 t, .agg #[.slice a1 n1 k1, .slice a2 n2 k2, .slice a3 n3 k3, .slice a4 n4 k4]] w2 (WdPost t d w2)) := words_any t ⟨⟨a1, n1, k1⟩, ⟨a2, n2, k2⟩, ⟨a3, n3, k3⟩, ⟨a4, n4, k4⟩⟩ d w2 S2.out.2.1 HSM.out.bd S2.out.2.2.2.1
        have KC : Hid (∀ W, DRd W ⟨⟨a1, n1, k1⟩, ⟨a2, n2, k2⟩, ⟨a3, n3, k3⟩, ⟨a4, n4, k4⟩⟩ d → Calls Tryz.prog 24 #[.int .u16 t, .agg #[.slice a1 n1 k1, .slice a2 n2 k2, .slice a3 n3 k3, .slice a4 n4 k4]] W fun e w' => e = .returned (.int .i64 (checkF t d)) ∧ Hid (Below W.heap.size W w')) := fun W hW => check_any t ⟨⟨a1, n1, k1⟩, ⟨a2, n2, k2⟩, ⟨a3, n3, k3⟩, ⟨a4, n4, k4⟩⟩ d W hW HSM.out.bd
        go_wp2_with fail
        refine KW.out.mono ?_
        rintro e w3 ⟨v3, y3, rfl, H3⟩
        have HB3 : Hid (Below wa.heap.size wa w3) := HB2.out.trans (H3.out.2.2.mono HB2.out.size)
        have S3 := Lib.hid (HSC.out w3 HB3.out)
        have HO3 : Hid (OwnT w2.heap.size w3 v3 (wordsR t d).length y3 1000000 ∧ y3.take (wordsR t d).length = wordsR t d) := ⟨H3.out.1, H3.out.2.1⟩
        clear KW H3 S2 c0 c1 c2 c3 HB2
        obtain ⟨c0, c1, c2, c3⟩ := S3.out.1
        have KC3 := Lib.hid (KC.out w3 S3.out.2.1)
        go_wp2_with fail
        refine KC3.out.mono ?_
        rintro e w4 ⟨rfl, H4⟩
        have HB4 : Hid (Below wa.heap.size wa w4) := HB3.out.trans (H4.out.mono HB3.out.size)
        have S4 := Lib.hid (HSC.out w4 HB4.out)
        have HO4 : Hid (OwnT w2.heap.size w4 v3 (wordsR t d).length y3 1000000 ∧ y3.take (wordsR t d).length = wordsR t d) := ⟨HO3.out.1.below H4.out, HO3.out.2⟩
        clear KC3 H4 S3 HO3 HB3 c0 c1 c2 c3
        obtain ⟨c0, c1, c2, c3⟩ := S4.out.1
        by_cases hck : checkF t d = 0
        · have KN : Hid (Calls Tryz.prog 25 #[.slice oa on oc] w4 fun e w' => e = .returned (.int .i64 (nck og)) ∧ w' = w4) := pcheck_wide oa on oc og w4 S4.out.2.2.1.rd HLN.out.2 (fun h => by have := nsz_labs og h; have := HLN.out.2; omega) hon S4.out.2.2.1.z63
          by_cases hng : nck og = 0
          · rw [hng] at KN
            have hwr : wordsR t d = xwords t d := by unfold wordsR; rw [if_pos hck]
            have HO5 : Hid (OwnT w2.heap.size w4 v3 (xwords t d).length y3 1000000 ∧ y3.take (xwords t d).length = xwords t d) := by have := HO4.out; rw [hwr] at this; exact this
            have HP := Lib.hid (xwords_pos t d hck)
            have hlen := xwords_len t d HSM.out
            obtain ⟨ao3, rfl, -⟩ := HO5.out.1.shape
            have hr3 : RdT w4 ao3 (xwords t d) := by
              have := HO5.out.1.rd (xwords t d).length
              rw [HO5.out.2] at this
              exact this
            have KT : Hid (Calls Tryz.prog 27 #[.slice ao3 (xwords t d).length y3.length] w4 fun e w' => ∃ v, e = .returned v ∧ Hid (w'.ownsRow w4.heap.size 59 2 v (xwords t d).length (cellsW ((xwords t d).map xterm)) ∧ Below w4.heap.size w4 w')) := terms_any ao3 _ y3.length (xwords t d) w4 hr3 rfl (fun s hs => by have := HO5.out.1.small HO5.out.2 s hs; omega) (by omega)
            have KP : Hid (∀ W a c, Below wa.heap.size wa W → RdW W a ((xwords t d).map xterm) → (xwords t d).length ≤ c → c ≤ 9223372036854775807 → Calls Tryz.prog 26 #[.int .u16 (t : Int), .slice a (xwords t d).length c, .slice oa on oc] W (PrPost d W)) := fun W a c hW hw h1 h2 => by
              have S := HSC.out W hW
              have := parse_words t d og a c oa on oc W hck HSM.out.bd HRB.out hng ⟨S.2.2.1.rd, HLN.out.2, by have := (nck_small hng).1; omega⟩ S.2.2.2.2.1 hw (by simpa using h1) h2
              rw [List.length_map] at this
              exact this
            clear hr3 HO4 hwr KC
            rw [hck]
            generalize hN : (xwords t d).length = N at *
            have hpos := HP.out
            have hpos' : (0 : Int) < (N : Int) := by omega
            go_wp2_with fail
            refine KN.out.mono ?_
            rintro e w5 ⟨rfl, rfl⟩
            go_wp2_with fail
            refine KT.out.mono ?_
            rintro e w6 ⟨v6, rfl, H6⟩
            have HB6 : Hid (Below wa.heap.size wa w6) := HB4.out.trans (H6.out.2.mono HB4.out.size)
            obtain ⟨a6, c6, hv6, hw6, g1, g2⟩ := row_rdw (by have := H6.out.1; rw [← hN, ← List.length_map (f := xterm)] at this; exact this)
            rw [List.length_map, hN] at hv6 g1
            subst hv6
            have KP6 := Lib.hid (KP.out w6 a6 c6 HB6.out hw6 g1 g2)
            clear KP KT KN H6 hw6 S4 c0 c1 c2 c3 HO5
            go_wp2_with fail
            refine KP6.out.mono ?_
            rintro e w7 ⟨x7, rfl, H7⟩
            have HB7 : Hid (Below wa.heap.size wa w7) := HB6.out.trans (H7.out.2.mono HB6.out.size)
            obtain ⟨⟨b1, m1, j1⟩, ⟨b2, m2, j2⟩, ⟨b3, m3, j3⟩, ⟨b4, m4, j4⟩⟩ := x7
            simp only at H7 ⊢
            have HBN : Hid (Below w7.heap.size w7 (w7.alloc (.cells #[.slice b1 m1 j1, .slice b2 m2 j2, .slice b3 m3 j3, .slice b4 m4 j4] 29))) := new_below _ _
            have HB8 : Hid (Below wa.heap.size wa (w7.alloc (.cells #[.slice b1 m1 j1, .slice b2 m2 j2, .slice b3 m3 j3, .slice b4 m4 j4] 29))) := HB7.out.trans (HBN.out.mono HB7.out.size)
            have S8 := Lib.hid (HSC.out _ HB8.out)
            have KS : Hid (Calls Tryz.prog 21 #[.agg #[.slice b1 m1 j1, .slice b2 m2 j2, .slice b3 m3 j3, .slice b4 m4 j4], .agg #[.slice a1 n1 k1, .slice a2 n2 k2, .slice a3 n3 k3, .slice a4 n4 k4]] (w7.alloc (.cells #[.slice b1 m1 j1, .slice b2 m2 j2, .slice b3 m3 j3, .slice b4 m4 j4] 29)) fun e w' => e = .returned (.bool true) ∧ Hid (Below (w7.alloc (.cells #[.slice b1 m1 j1, .slice b2 m2 j2, .slice b3 m3 j3, .slice b4 m4 j4] 29)).heap.size (w7.alloc (.cells #[.slice b1 m1 j1, .slice b2 m2 j2, .slice b3 m3 j3, .slice b4 m4 j4] 29)) w')) := samedata_yes ⟨⟨b1, m1, j1⟩, ⟨b2, m2, j2⟩, ⟨b3, m3, j3⟩, ⟨b4, m4, j4⟩⟩ ⟨⟨a1, n1, k1⟩, ⟨a2, n2, k2⟩, ⟨a3, n3, k3⟩, ⟨a4, n4, k4⟩⟩ d (w7.alloc (.cells #[.slice b1 m1 j1, .slice b2 m2 j2, .slice b3 m3 j3, .slice b4 m4 j4] 29)) (H7.out.1.rd.below HBN.out) S8.out.2.1
            have S7 := Lib.hid (HSC.out _ HB7.out)
            obtain ⟨c0, c1, c2, c3⟩ := S7.out.1
            have hsz7 : w.heap.size < w7.heap.size := Nat.lt_of_lt_of_le hwsz HB7.out.size
            clear KP6 H7 HB6 S7
            go_wp2_with fail
            refine KS.out.mono ?_
            rintro e w9 ⟨rfl, H9⟩
            go_wp2_with fail
            go_ret
            exact ⟨rfl, S8.out.2.2.2.2.2.trans (H9.out.mono S8.out.2.2.2.2.2.size)⟩
          · have hng' : (nck og != 0) = true := by simpa using hng
            have hz : checkF t d = 0 := hck
            rw [hz]
            generalize nck og = G at *
            go_wp2_with fail
            refine KN.out.mono ?_
            rintro e w5 ⟨rfl, rfl⟩
            go_wp2_with fail
            go_ret
            exact ⟨rfl, S4.out.2.2.2.2.2⟩
        · have hck' : (checkF t d != 0) = true := by simpa using hck
          generalize checkF t d = C at *
          go_wp2_with fail
          go_ret
          exact ⟨rfl, S4.out.2.2.2.2.2⟩
end Go.Proofs.YtfkfjodfjgjbkaaGreatDoor
