/- SqueezeBack's walk. -/
import Derived.Test.YtfnpiknobmecbaaSqw
import Derived.Test.YtfnpiknobmecbaaSqo
namespace Go.Proofs.Ytfnpiknobmecbaa
open Go.ChangeShapes Go.WideShapes Go.ChangeAt Go.RowKit Go.Maps
set_option linter.unusedVariables false
set_option linter.unusedSimpArgs false

/-- What holds between two names: k of them are done. -/
structure Lp (B g k : Nat) (w : World) (L : List Nmx) (va vi : Value) (W : World) (tx : List Int) (pl : List (ByteArray × Nat)) (E : List (Nat × Nmx)) (xa xi : List Value) : Prop where
  wr : Wr B W g tx pl
  below : Below B w W
  at_ : OwnV B W 3 va E.length xa
  at2 : xa.take E.length = E.map (fun e => Value.int .i64 (e.1 : Int))
  in_ : OwnV B W 33 vi E.length xi
  in2 : xi.take E.length = E.map (fun e => nvx e.2)
  mem : ∀ e ∈ E, e.2 ∈ L
  few : E.length ≤ k
  len : tx.length ≤ 255 * k
  pll : pl.length ≤ tx.length
  inv : QInv tx pl
  good : EGood tx E
theorem Lp.next {B g k : Nat} {w : World} {L : List Nmx} {va vi : Value} {W W' : World} {tx : List Int} {pl : List (ByteArray × Nat)} {E : List (Nat × Nmx)} {xa xi : List Value} (h : Lp B g k w L va vi W tx pl E xa xi) (hw : Wr B W' g tx pl) (hf : Fr B W W') : Lp B g (k + 1) w L va vi W' tx pl E xa xi :=
  ⟨hw, h.below.trans hf.below, h.at_.fr hf (by decide) (by decide), h.at2, h.in_.fr hf (by decide) (by decide), h.in2, h.mem, by have := h.few; omega, by have := h.len; omega, h.pll, h.inv, h.good⟩
/-- A name that is written: behind Name, ahead of the two appends. -/
theorem Lp.wrote {B g k : Nat} {w : World} {L : List Nmx} {va vi : Value} {W W' : World} {tx : List Int} {pl : List (ByteArray × Nat)} {E : List (Nat × Nmx)} {xa xi : List Value} (h : Lp B g k w L va vi W tx pl E xa xi) (hf : Fr B W W') : OwnV B W' 3 va E.length xa ∧ OwnV B W' 33 vi E.length xi ∧ Below B w W' :=
  ⟨h.at_.fr hf (by decide) (by decide), h.in_.fr hf (by decide) (by decide), h.below.trans hf.below⟩
theorem Lp.added {B g k : Nat} {w : World} {L : List Nmx} {va vi : Value} {W : World} {tx : List Int} {pl : List (ByteArray × Nat)} {E : List (Nat × Nmx)} {xa xi : List Value} (h : Lp B g k w L va vi W tx pl E xa xi) (x : Nmx) (hx : x ∈ L) (back : Bool) (hk : nck x.ss = 0) {va' vi' : Value} {xa' xi' : List Value} {W' : World}
    (hw : Wr B W' g (tx ++ qshort (if back then pl else []) x.ss) (qkeep pl tx.length (qown (if back then pl else []) x.ss) x.ss)) (hb : Below B w W') (ha : OwnV B W' 3 va' (E.length + 1) xa') (ha2 : xa'.take (E.length + 1) = xa.take E.length ++ [Value.int .i64 (tx.length : Int)]) (hi : OwnV B W' 33 vi' (E.length + 1) xi') (hi2 : xi'.take (E.length + 1) = xi.take E.length ++ [nvx x]) :
    Lp B g (k + 1) w L va' vi' W' (tx ++ qshort (if back then pl else []) x.ss) (qkeep pl tx.length (qown (if back then pl else []) x.ss) x.ss) (E ++ [(tx.length, x)]) xa' xi' := by
  obtain ⟨s1, s2, s3⟩ := step_inv h.inv h.good h.pll x back hk
  have hz := (qshort_len (if back then pl else []) x.ss (fun s hs => (chk_ok (labs_of hk s hs)).1)).2
  have hz2 := (nck_small hk).1
  refine ⟨hw, hb, by simpa using ha, ?_, by simpa using hi, ?_, ?_, by have := h.few; simp; omega, by have := h.len; simp; omega, s3, s1, s2⟩
  · rw [List.length_append]
    simpa [h.at2] using ha2
  · rw [List.length_append]
    simpa [h.in2] using hi2
  · intro e he
    rcases List.mem_append.1 he with he | he
    · exact h.mem e he
    · simp at he; subst he; exact hx
set_option maxRecDepth 100000 in
set_option maxHeartbeats 16000000 in
theorem sbackL (a : Option Addr) (len cap : Nat) (a2 : Option Addr) (blen bcap : Nat) (L : List Nmx) (bs : List Bool) (w : World) (hN : NsOk w a L) (hl : L.length = len) (hlc : len ≤ 9223372036854775807) (hb : RdV w a2 (bs.map Value.bool)) (hbl : bs.length = blen) (hb63 : blen ≤ 9223372036854775807) :
    Calls Try.prog 6 #[.slice a len cap, .slice a2 blen bcap] w fun e w' => e = .returned (.bool true) ∧ Below w.heap.size w w' := by
  have KA := Lib.hid (awake_any w)
  by_cases hbig : 40 < len
  · have h1' : (40 : Int) < (len : Int) := by omega
    clear hN hl hb hbl
    go_enter Try.func6, Try.ntmps6
    go_wp2_with fail
    refine KA.out.mono ?_
    rintro e w1 ⟨rfl, H1⟩
    go_wp2_with fail
    go_ret
    exact ⟨rfl, H1.out⟩
  · have h40 : len ≤ 40 := by omega
    have h1' : (len : Int) ≤ 40 := by omega
    have HN : Hid (NsOk w a L ∧ L.length = len) := ⟨hN, hl⟩
    have HBs : Hid (RdV w a2 (bs.map Value.bool) ∧ bs.length = blen) := ⟨hb, hbl⟩
    clear hN hl hb hbl hbig
    go_enter Try.func6, Try.ntmps6
    go_wp2_with fail
    refine KA.out.mono ?_
    rintro e w1 ⟨rfl, H1⟩
    have KN := Lib.hid (new_any w1)
    go_wp2_with fail
    refine KN.out.mono ?_
    rintro e w2 ⟨rfl, H2⟩
    have hsz : w.heap.size ≤ w1.heap.size := H1.out.size
    generalize hgB : w1.heap.size = B at *
    generalize hgg : B + 1 = g at *
    have HLp0 : Hid (Lp B g 0 w1 L (.slice none 0 0) (.slice none 0 0) w2 [] [] [] [] []) := ⟨H2.out.1, H2.out.2, OwnV.nil _ _ _, rfl, OwnV.nil _ _ _, rfl, by simp, by simp, by simp, by simp, QInv.nil _, EGood.nil _⟩
    have HBw : Hid (∀ W, Below B w1 W → Below w.heap.size w W) := fun W hW => H1.out.trans (hW.mono hsz)
    clear KA KN H2 hgg
    go_wp2_with fail
    go_loopw [7, 8, 9] (fun va vi i wr => ∃ k : Nat, k ≤ len ∧ i = .int .i64 k ∧ Hid (∃ tx pl E xa xi, Lp B g k w1 L va vi wr tx pl E xa xi)) (fun _ _ i _ => len - (intOf i).toNat)
    case atStart => exact ⟨0, Nat.zero_le _, rfl, ⟨_, _, _, _, _, HLp0.out⟩⟩
    case round =>
      obtain ⟨k, hk, rfl, HL⟩ := hrel
      clear HLp0
      obtain ⟨tx, pl, E, xa, xi, hLp⟩ := HL.out
      have HLp : Hid (Lp B g k w1 L u7 u8 wr tx pl E xa xi) := hLp
      obtain ⟨T, hT⟩ : ∃ T, tx.length = T := ⟨_, rfl⟩
      have HT : Hid (tx.length = T) := hT
      have hT2 : T ≤ 10200 := by rw [← hT]; have := hLp.len; omega
      obtain ⟨oa, rfl, _⟩ := hLp.at_.shape
      obtain ⟨oi, rfl, _⟩ := hLp.in_.shape
      have hEk := hLp.few
      have HPl : Hid ((∀ q p, (q, p) ∈ pl → p < 16384) ∧ pl.length ≤ 100000 ∧ B ≤ wr.heap.size) := ⟨fun q p h => (hLp.inv q p h).2.1, by have := hLp.pll; omega, by rw [← hgB]; exact hLp.below.size⟩
      clear hLp HL hT
      by_cases hlt : k < len
      · have hlt' : (k : Int) < (len : Int) := by omega
        have hkL : k < L.length := by rw [HN.out.2]; exact hlt
        obtain ⟨nb, no, rfl, hnb, hnc⟩ := HN.out.1.at k hkL
        have hxm : L[k] ∈ L := List.getElem_mem hkL
        have HAr : Hid (∀ W, Below B w1 W → Arg W L[k].a L[k].n L[k].ss) := fun W hW => (HN.out.1.ok _ hxm).belowS (HBw.out W hW)
        have HCe : Hid (∀ W, Below B w1 W → W.cell? ⟨nb, no + k, none⟩ = some (.slice L[k].a L[k].n L[k].c)) := fun W hW => cell_below (HBw.out W hW) hnb hnc
        have hnbw : nb < w.heap.size := hnb
        clear hnc hnb
        generalize L[k] = x at *
        obtain ⟨xa0, xn, xc, ss⟩ := x
        dsimp only at HAr HCe
        have c0 := HCe.out wr HLp.out.below
        have hnbr : nb < wr.heap.size := by have := (HBw.out wr HLp.out.below).size; omega
        by_cases hbig : 130 < xn
        · have hbig' : (130 : Int) < (xn : Int) := by omega
          go_wp2_with fail
          go_ret
          exact ⟨rfl, HBw.out wr HLp.out.below⟩
        · have hbig' : (xn : Int) ≤ 130 := by omega
          have KLen := Lib.hid (len_any B g tx pl wr HLp.out.wr)
          rw [HT.out] at KLen
          have KNm : Hid (∀ b, Calls Try.prog 22 #[.pointer (some ⟨g, 0, none⟩), .slice xa0 xn xc, .bool b] wr (NmPost B g (wnm tx pl ss b) wr)) := fun b => wname_any B g tx pl xa0 xn xc ss b wr HLp.out.wr (HAr.out wr HLp.out.below) (by omega) HPl.out.2.2 (by rw [HT.out]; omega) HPl.out.1 HPl.out.2.1
          have KCk : Hid (∀ W, Below B w1 W → Calls Try.prog 28 #[.slice xa0 xn xc] W fun e w' => e = .returned (.int .i64 (nck ss)) ∧ w' = W) := fun W hW => by
            have hA := HAr.out W hW
            exact pcheck_wide xa0 xn xc ss W hA.rd hA.len (fun ho => by have := labs_nsz ho; have := hA.len; omega) hA.n63 hA.z63
          go_wp2_with fail
          refine KLen.out.mono ?_
          rintro e wl ⟨rfl, rfl⟩
          clear KLen
          by_cases hnk : nck ss = 0
          · by_cases hbk : k < blen
            · have hbk' : (k : Int) < (blen : Int) := by omega
              obtain ⟨bb, bo, rfl, hbb, hbc⟩ := HBs.out.1.at k (by simp [HBs.out.2]; exact hbk)
              have hbc2 := cell_below (HBw.out wl HLp.out.below) hbb hbc
              have hbbl : bb < wl.heap.size := by have := (HBw.out wl HLp.out.below).size; omega
              simp only [List.getElem_map] at hbc2
              clear hbc
              generalize bs[k]'(by rw [HBs.out.2]; exact hbk) = bv at *
              cases bv with
              | true =>
                obtain ⟨hw1, hw2, hw3, hw4⟩ := wnm_good (tx := tx) (pl := pl) true hnk (by rw [HT.out]; omega)
                obtain ⟨S, hS⟩ : ∃ S, (qshort (if true = true then pl else []) ss).length = S := ⟨_, rfl⟩
                rw [hS] at hw2 hw3 hw4
                have HLS : Hid ((tx ++ qshort (if true = true then pl else []) ss).length = T + S) := (show _ = _ by rw [List.length_append, HT.out, hS])
                obtain ⟨Z, hZ⟩ : ∃ Z, nsz ss = Z := ⟨_, rfl⟩
                rw [hZ] at hw3 hw4
                have hZ255 : Z ≤ 255 := by rw [← hZ]; exact (nck_small hnk).1
                have KSz : Hid (∀ W, Below B w1 W → Calls Try.prog 29 #[.slice xa0 xn xc] W fun e w' => e = .returned (.int .i64 ((Z : Nat) : Int)) ∧ w' = W) := fun W hW => by
                  have hA := HAr.out W hW
                  have := psize_eq xa0 xn xc ss W hA.rd hA.len (by omega)
                  rw [hZ] at this
                  exact this
                have HW1 : Hid (wnm tx pl ss true = (0, tx ++ qshort (if true = true then pl else []) ss, qkeep pl tx.length (qown (if true = true then pl else []) ss) ss)) := hw1
                have KNm2 : Hid (Calls Try.prog 22 #[.pointer (some ⟨g, 0, none⟩), .slice xa0 xn xc, .bool true] wl (NmPost B g (0, tx ++ qshort (if true = true then pl else []) ss, qkeep pl tx.length (qown (if true = true then pl else []) ss) ss) wl)) := (by rw [← hw1]; exact KNm.out true)
                rw [hnk] at KCk
                clear hw1 hS hZ
                have f0 : (T : Int) + (S : Int) - (T : Int) = (S : Int) := by omega
                have f1 : ¬ (S : Int) < 1 := by omega
                have f2 : (S : Int) ≤ (Z : Int) := by omega
                go_wp2_with fail
                refine KNm2.out.mono ?_
                rintro e w3 ⟨rfl, H3⟩
                have HB3 : Hid (Below B w1 w3) := HLp.out.below.trans H3.out.2.below
                have c3 := HCe.out w3 HB3.out
                have l3 : nb < w3.heap.size := (by have := (HBw.out w3 HB3.out).size; omega)
                go_wp2_with fail
                refine (KCk.out w3 HB3.out).mono ?_
                rintro e w4 ⟨rfl, rfl⟩
                have KL4 := Lib.hid (len_any B g _ _ w4 H3.out.1)
                rw [HLS.out] at KL4
                go_wp2_with fail
                refine KL4.out.mono ?_
                rintro e w5 ⟨rfl, rfl⟩
                go_wp2_with fail
                refine (KSz.out w5 HB3.out).mono ?_
                rintro e w6 ⟨rfl, rfl⟩
                have HV := Lib.hid (HLp.out.wrote H3.out.2)
                have HV1 : Hid (OwnV B (w6.alloc (.cells #[.int .i64 (T : Int)] 3)) 3 (.slice oa E.length xa.length) E.length xa ∧ OwnV B (w6.alloc (.cells #[.int .i64 (T : Int)] 3)) 33 (.slice oi E.length xi.length) E.length xi ∧ Wr B (w6.alloc (.cells #[.int .i64 (T : Int)] 3)) g _ _ ∧ Below B w1 (w6.alloc (.cells #[.int .i64 (T : Int)] 3)) ∧ B ≤ (w6.alloc (.cells #[.int .i64 (T : Int)] 3)).heap.size) :=
                  ⟨HV.out.1.below (new_below _ _), HV.out.2.1.below (new_below _ _), H3.out.1.below (new_below _ _), HV.out.2.2.alloc (by have := HV.out.2.2.size; omega) _, by have := HV.out.2.2.size; simp; omega⟩
                go_wp2_with (first
                  | (at_builtin; refine wpList_append_row tyI _ rfl _ _ 61 rfl B _ E.length xa rfl HV1.out.1 (.slice (some ⟨w6.heap.size, 0, none⟩) 1 1) 1 [.int .i64 (T : Int)] rfl (src_of Try.underlying61 (one_rdV w6 (.int .i64 (T : Int)) 3) rfl (by simp [Value.oneCell'])) (by omega) (by unfold maxLen; omega) HV1.out.2.2.2.2 ?_; intro va' w7 xa' hO7 hT7 hG7 _; have HW7 : Hid (Wr B w7 g _ _ ∧ OwnV B w7 33 (.slice oi E.length xi.length) E.length xi ∧ Below B w1 w7 ∧ B ≤ w7.heap.size) := ⟨HV1.out.2.2.1.rowV HV1.out.1 hG7 (by decide) (by decide), HV1.out.2.1.row HV1.out.1 hG7 (by decide), HV1.out.2.2.2.1.grown hG7 (by have := HV1.out.2.2.2.1.size; omega) HV1.out.1.lt, Nat.le_trans HV1.out.2.2.2.2 hG7.size⟩; have c7 := HCe.out w7 HW7.out.2.2.1; have l7 : nb < w7.heap.size := (by have := (HBw.out w7 HW7.out.2.2.1).size; omega); clear hG7; have HW8 : Hid (OwnV B (w7.alloc (.cells #[.slice xa0 xn xc] 33)) 33 (.slice oi E.length xi.length) E.length xi ∧ OwnV B (w7.alloc (.cells #[.slice xa0 xn xc] 33)) 3 va' (E.length + 1) xa' ∧ Wr B (w7.alloc (.cells #[.slice xa0 xn xc] 33)) g _ _ ∧ Below B w1 (w7.alloc (.cells #[.slice xa0 xn xc] 33)) ∧ B ≤ (w7.alloc (.cells #[.slice xa0 xn xc] 33)).heap.size) := ⟨HW7.out.2.1.below (new_below _ _), hO7.out.below (new_below _ _), HW7.out.1.below (new_below _ _), HW7.out.2.2.1.alloc (by have := HW7.out.2.2.1.size; omega) _, (by have := HW7.out.2.2.2; simp; omega)⟩)
                  | (at_builtin; refine wpList_append_row tyNs _ rfl _ _ 59 rfl B _ E.length xi rfl HW8.out.1 (.slice (some ⟨w7.heap.size, 0, none⟩) 1 1) 1 [.slice xa0 xn xc] rfl (src_of Try.underlying59 (one_rdV w7 (.slice xa0 xn xc) 33) rfl (by simp [Value.oneCell'])) (by omega) (by unfold maxLen; omega) HW8.out.2.2.2.2 ?_; intro vi' w9 xi' hO9 hT9 hG9 _; have HW9 : Hid (Wr B w9 g _ _ ∧ OwnV B w9 3 va' (E.length + 1) xa' ∧ Below B w1 w9) := ⟨HW8.out.2.2.1.rowV HW8.out.1 hG9 (by decide) (by decide), HW8.out.2.1.row HW8.out.1 hG9 (by decide), HW8.out.2.2.2.1.grown hG9 (by have := HW8.out.2.2.2.1.size; omega) HW8.out.1.lt⟩; clear hG9))
                have hfin := HLp.out.added ⟨xa0, xn, xc, ss⟩ hxm true hnk (va' := va') (vi' := vi') (xa' := xa') (xi' := xi') (W' := w9) HW9.out.1 HW9.out.2.2 HW9.out.2.1 (by rw [HT.out]; exact hT7.out) hO9.out hT9.out
                refine ⟨⟨k + 1, by omega, by go_num, ⟨_, _, _, _, _, hfin⟩⟩, by simp [intOf]; omega⟩
              | false =>
                obtain ⟨hw1, hw2, hw3, hw4⟩ := wnm_good (tx := tx) (pl := pl) false hnk (by rw [HT.out]; omega)
                obtain ⟨S, hS⟩ : ∃ S, (qshort (if false = true then pl else []) ss).length = S := ⟨_, rfl⟩
                rw [hS] at hw2 hw3 hw4
                have HLS : Hid ((tx ++ qshort (if false = true then pl else []) ss).length = T + S) := (show _ = _ by rw [List.length_append, HT.out, hS])
                obtain ⟨Z, hZ⟩ : ∃ Z, nsz ss = Z := ⟨_, rfl⟩
                rw [hZ] at hw3 hw4
                have hZ255 : Z ≤ 255 := by rw [← hZ]; exact (nck_small hnk).1
                have KSz : Hid (∀ W, Below B w1 W → Calls Try.prog 29 #[.slice xa0 xn xc] W fun e w' => e = .returned (.int .i64 ((Z : Nat) : Int)) ∧ w' = W) := fun W hW => by
                  have hA := HAr.out W hW
                  have := psize_eq xa0 xn xc ss W hA.rd hA.len (by omega)
                  rw [hZ] at this
                  exact this
                have HW1 : Hid (wnm tx pl ss false = (0, tx ++ qshort (if false = true then pl else []) ss, qkeep pl tx.length (qown (if false = true then pl else []) ss) ss)) := hw1
                have KNm2 : Hid (Calls Try.prog 22 #[.pointer (some ⟨g, 0, none⟩), .slice xa0 xn xc, .bool false] wl (NmPost B g (0, tx ++ qshort (if false = true then pl else []) ss, qkeep pl tx.length (qown (if false = true then pl else []) ss) ss) wl)) := (by rw [← hw1]; exact KNm.out false)
                rw [hnk] at KCk
                clear hw1 hS hZ
                have hSZ : S = Z := hw4 rfl
                subst hSZ
                have f0 : (T : Int) + (S : Int) - (T : Int) = (S : Int) := by omega
                have f1 : ¬ (S : Int) < 1 := by omega
                have f3 : ((S : Int) != (S : Int)) = false := by simp
                clear hw4
                go_wp2_with fail
                refine KNm2.out.mono ?_
                rintro e w3 ⟨rfl, H3⟩
                have HB3 : Hid (Below B w1 w3) := HLp.out.below.trans H3.out.2.below
                have c3 := HCe.out w3 HB3.out
                have l3 : nb < w3.heap.size := (by have := (HBw.out w3 HB3.out).size; omega)
                go_wp2_with fail
                refine (KCk.out w3 HB3.out).mono ?_
                rintro e w4 ⟨rfl, rfl⟩
                have KL4 := Lib.hid (len_any B g _ _ w4 H3.out.1)
                rw [HLS.out] at KL4
                go_wp2_with fail
                refine KL4.out.mono ?_
                rintro e w5 ⟨rfl, rfl⟩
                go_wp2_with fail
                refine (KSz.out w5 HB3.out).mono ?_
                rintro e w6 ⟨rfl, rfl⟩
                go_wp2_with fail
                refine (KSz.out w6 HB3.out).mono ?_
                rintro e w6b ⟨rfl, rfl⟩
                have HV := Lib.hid (HLp.out.wrote H3.out.2)
                have HV1 : Hid (OwnV B (w6b.alloc (.cells #[.int .i64 (T : Int)] 3)) 3 (.slice oa E.length xa.length) E.length xa ∧ OwnV B (w6b.alloc (.cells #[.int .i64 (T : Int)] 3)) 33 (.slice oi E.length xi.length) E.length xi ∧ Wr B (w6b.alloc (.cells #[.int .i64 (T : Int)] 3)) g _ _ ∧ Below B w1 (w6b.alloc (.cells #[.int .i64 (T : Int)] 3)) ∧ B ≤ (w6b.alloc (.cells #[.int .i64 (T : Int)] 3)).heap.size) :=
                  ⟨HV.out.1.below (new_below _ _), HV.out.2.1.below (new_below _ _), H3.out.1.below (new_below _ _), HV.out.2.2.alloc (by have := HV.out.2.2.size; omega) _, by have := HV.out.2.2.size; simp; omega⟩
                go_wp2_with (first
                  | (at_builtin; refine wpList_append_row tyI _ rfl _ _ 61 rfl B _ E.length xa rfl HV1.out.1 (.slice (some ⟨w6b.heap.size, 0, none⟩) 1 1) 1 [.int .i64 (T : Int)] rfl (src_of Try.underlying61 (one_rdV w6b (.int .i64 (T : Int)) 3) rfl (by simp [Value.oneCell'])) (by omega) (by unfold maxLen; omega) HV1.out.2.2.2.2 ?_; intro va' w7 xa' hO7 hT7 hG7 _; have HW7 : Hid (Wr B w7 g _ _ ∧ OwnV B w7 33 (.slice oi E.length xi.length) E.length xi ∧ Below B w1 w7 ∧ B ≤ w7.heap.size) := ⟨HV1.out.2.2.1.rowV HV1.out.1 hG7 (by decide) (by decide), HV1.out.2.1.row HV1.out.1 hG7 (by decide), HV1.out.2.2.2.1.grown hG7 (by have := HV1.out.2.2.2.1.size; omega) HV1.out.1.lt, Nat.le_trans HV1.out.2.2.2.2 hG7.size⟩; have c7 := HCe.out w7 HW7.out.2.2.1; have l7 : nb < w7.heap.size := (by have := (HBw.out w7 HW7.out.2.2.1).size; omega); clear hG7; have HW8 : Hid (OwnV B (w7.alloc (.cells #[.slice xa0 xn xc] 33)) 33 (.slice oi E.length xi.length) E.length xi ∧ OwnV B (w7.alloc (.cells #[.slice xa0 xn xc] 33)) 3 va' (E.length + 1) xa' ∧ Wr B (w7.alloc (.cells #[.slice xa0 xn xc] 33)) g _ _ ∧ Below B w1 (w7.alloc (.cells #[.slice xa0 xn xc] 33)) ∧ B ≤ (w7.alloc (.cells #[.slice xa0 xn xc] 33)).heap.size) := ⟨HW7.out.2.1.below (new_below _ _), hO7.out.below (new_below _ _), HW7.out.1.below (new_below _ _), HW7.out.2.2.1.alloc (by have := HW7.out.2.2.1.size; omega) _, (by have := HW7.out.2.2.2; simp; omega)⟩)
                  | (at_builtin; refine wpList_append_row tyNs _ rfl _ _ 59 rfl B _ E.length xi rfl HW8.out.1 (.slice (some ⟨w7.heap.size, 0, none⟩) 1 1) 1 [.slice xa0 xn xc] rfl (src_of Try.underlying59 (one_rdV w7 (.slice xa0 xn xc) 33) rfl (by simp [Value.oneCell'])) (by omega) (by unfold maxLen; omega) HW8.out.2.2.2.2 ?_; intro vi' w9 xi' hO9 hT9 hG9 _; have HW9 : Hid (Wr B w9 g _ _ ∧ OwnV B w9 3 va' (E.length + 1) xa' ∧ Below B w1 w9) := ⟨HW8.out.2.2.1.rowV HW8.out.1 hG9 (by decide) (by decide), HW8.out.2.1.row HW8.out.1 hG9 (by decide), HW8.out.2.2.2.1.grown hG9 (by have := HW8.out.2.2.2.1.size; omega) HW8.out.1.lt⟩; clear hG9))
                have hfin := HLp.out.added ⟨xa0, xn, xc, ss⟩ hxm false hnk (va' := va') (vi' := vi') (xa' := xa') (xi' := xi') (W' := w9) HW9.out.1 HW9.out.2.2 HW9.out.2.1 (by rw [HT.out]; exact hT7.out) hO9.out hT9.out
                refine ⟨⟨k + 1, by omega, by go_num, ⟨_, _, _, _, _, hfin⟩⟩, by simp [intOf]; omega⟩
            · have hbk' : (blen : Int) ≤ (k : Int) := by omega
              obtain ⟨hw1, hw2, hw3, hw4⟩ := wnm_good (tx := tx) (pl := pl) false hnk (by rw [HT.out]; omega)
              obtain ⟨S, hS⟩ : ∃ S, (qshort (if false = true then pl else []) ss).length = S := ⟨_, rfl⟩
              rw [hS] at hw2 hw3 hw4
              have HLS : Hid ((tx ++ qshort (if false = true then pl else []) ss).length = T + S) := (show _ = _ by rw [List.length_append, HT.out, hS])
              obtain ⟨Z, hZ⟩ : ∃ Z, nsz ss = Z := ⟨_, rfl⟩
              rw [hZ] at hw3 hw4
              have hZ255 : Z ≤ 255 := by rw [← hZ]; exact (nck_small hnk).1
              have KSz : Hid (∀ W, Below B w1 W → Calls Try.prog 29 #[.slice xa0 xn xc] W fun e w' => e = .returned (.int .i64 ((Z : Nat) : Int)) ∧ w' = W) := fun W hW => by
                have hA := HAr.out W hW
                have := psize_eq xa0 xn xc ss W hA.rd hA.len (by omega)
                rw [hZ] at this
                exact this
              have HW1 : Hid (wnm tx pl ss false = (0, tx ++ qshort (if false = true then pl else []) ss, qkeep pl tx.length (qown (if false = true then pl else []) ss) ss)) := hw1
              have KNm2 : Hid (Calls Try.prog 22 #[.pointer (some ⟨g, 0, none⟩), .slice xa0 xn xc, .bool false] wl (NmPost B g (0, tx ++ qshort (if false = true then pl else []) ss, qkeep pl tx.length (qown (if false = true then pl else []) ss) ss) wl)) := (by rw [← hw1]; exact KNm.out false)
              rw [hnk] at KCk
              clear hw1 hS hZ
              have hSZ : S = Z := hw4 rfl
              subst hSZ
              have f0 : (T : Int) + (S : Int) - (T : Int) = (S : Int) := by omega
              have f1 : ¬ (S : Int) < 1 := by omega
              have f3 : ((S : Int) != (S : Int)) = false := by simp
              clear hw4
              go_wp2_with fail
              refine KNm2.out.mono ?_
              rintro e w3 ⟨rfl, H3⟩
              have HB3 : Hid (Below B w1 w3) := HLp.out.below.trans H3.out.2.below
              have c3 := HCe.out w3 HB3.out
              have l3 : nb < w3.heap.size := (by have := (HBw.out w3 HB3.out).size; omega)
              go_wp2_with fail
              refine (KCk.out w3 HB3.out).mono ?_
              rintro e w4 ⟨rfl, rfl⟩
              have KL4 := Lib.hid (len_any B g _ _ w4 H3.out.1)
              rw [HLS.out] at KL4
              go_wp2_with fail
              refine KL4.out.mono ?_
              rintro e w5 ⟨rfl, rfl⟩
              go_wp2_with fail
              refine (KSz.out w5 HB3.out).mono ?_
              rintro e w6 ⟨rfl, rfl⟩
              go_wp2_with fail
              refine (KSz.out w6 HB3.out).mono ?_
              rintro e w6b ⟨rfl, rfl⟩
              have HV := Lib.hid (HLp.out.wrote H3.out.2)
              have HV1 : Hid (OwnV B (w6b.alloc (.cells #[.int .i64 (T : Int)] 3)) 3 (.slice oa E.length xa.length) E.length xa ∧ OwnV B (w6b.alloc (.cells #[.int .i64 (T : Int)] 3)) 33 (.slice oi E.length xi.length) E.length xi ∧ Wr B (w6b.alloc (.cells #[.int .i64 (T : Int)] 3)) g _ _ ∧ Below B w1 (w6b.alloc (.cells #[.int .i64 (T : Int)] 3)) ∧ B ≤ (w6b.alloc (.cells #[.int .i64 (T : Int)] 3)).heap.size) :=
                ⟨HV.out.1.below (new_below _ _), HV.out.2.1.below (new_below _ _), H3.out.1.below (new_below _ _), HV.out.2.2.alloc (by have := HV.out.2.2.size; omega) _, by have := HV.out.2.2.size; simp; omega⟩
              go_wp2_with (first
                | (at_builtin; refine wpList_append_row tyI _ rfl _ _ 61 rfl B _ E.length xa rfl HV1.out.1 (.slice (some ⟨w6b.heap.size, 0, none⟩) 1 1) 1 [.int .i64 (T : Int)] rfl (src_of Try.underlying61 (one_rdV w6b (.int .i64 (T : Int)) 3) rfl (by simp [Value.oneCell'])) (by omega) (by unfold maxLen; omega) HV1.out.2.2.2.2 ?_; intro va' w7 xa' hO7 hT7 hG7 _; have HW7 : Hid (Wr B w7 g _ _ ∧ OwnV B w7 33 (.slice oi E.length xi.length) E.length xi ∧ Below B w1 w7 ∧ B ≤ w7.heap.size) := ⟨HV1.out.2.2.1.rowV HV1.out.1 hG7 (by decide) (by decide), HV1.out.2.1.row HV1.out.1 hG7 (by decide), HV1.out.2.2.2.1.grown hG7 (by have := HV1.out.2.2.2.1.size; omega) HV1.out.1.lt, Nat.le_trans HV1.out.2.2.2.2 hG7.size⟩; have c7 := HCe.out w7 HW7.out.2.2.1; have l7 : nb < w7.heap.size := (by have := (HBw.out w7 HW7.out.2.2.1).size; omega); clear hG7; have HW8 : Hid (OwnV B (w7.alloc (.cells #[.slice xa0 xn xc] 33)) 33 (.slice oi E.length xi.length) E.length xi ∧ OwnV B (w7.alloc (.cells #[.slice xa0 xn xc] 33)) 3 va' (E.length + 1) xa' ∧ Wr B (w7.alloc (.cells #[.slice xa0 xn xc] 33)) g _ _ ∧ Below B w1 (w7.alloc (.cells #[.slice xa0 xn xc] 33)) ∧ B ≤ (w7.alloc (.cells #[.slice xa0 xn xc] 33)).heap.size) := ⟨HW7.out.2.1.below (new_below _ _), hO7.out.below (new_below _ _), HW7.out.1.below (new_below _ _), HW7.out.2.2.1.alloc (by have := HW7.out.2.2.1.size; omega) _, (by have := HW7.out.2.2.2; simp; omega)⟩)
                | (at_builtin; refine wpList_append_row tyNs _ rfl _ _ 59 rfl B _ E.length xi rfl HW8.out.1 (.slice (some ⟨w7.heap.size, 0, none⟩) 1 1) 1 [.slice xa0 xn xc] rfl (src_of Try.underlying59 (one_rdV w7 (.slice xa0 xn xc) 33) rfl (by simp [Value.oneCell'])) (by omega) (by unfold maxLen; omega) HW8.out.2.2.2.2 ?_; intro vi' w9 xi' hO9 hT9 hG9 _; have HW9 : Hid (Wr B w9 g _ _ ∧ OwnV B w9 3 va' (E.length + 1) xa' ∧ Below B w1 w9) := ⟨HW8.out.2.2.1.rowV HW8.out.1 hG9 (by decide) (by decide), HW8.out.2.1.row HW8.out.1 hG9 (by decide), HW8.out.2.2.2.1.grown hG9 (by have := HW8.out.2.2.2.1.size; omega) HW8.out.1.lt⟩; clear hG9))
              have hfin := HLp.out.added ⟨xa0, xn, xc, ss⟩ hxm false hnk (va' := va') (vi' := vi') (xa' := xa') (xi' := xi') (W' := w9) HW9.out.1 HW9.out.2.2 HW9.out.2.1 (by rw [HT.out]; exact hT7.out) hO9.out hT9.out
              refine ⟨⟨k + 1, by omega, by go_num, ⟨_, _, _, _, _, hfin⟩⟩, by simp [intOf]; omega⟩
          · by_cases hbk : k < blen
            · have hbk' : (k : Int) < (blen : Int) := by omega
              obtain ⟨bb, bo, rfl, hbb, hbc⟩ := HBs.out.1.at k (by simp [HBs.out.2]; exact hbk)
              have hbc2 := cell_below (HBw.out wl HLp.out.below) hbb hbc
              have hbbl : bb < wl.heap.size := by have := (HBw.out wl HLp.out.below).size; omega
              simp only [List.getElem_map] at hbc2
              clear hbc
              generalize bs[k]'(by rw [HBs.out.2]; exact hbk) = bv at *
              cases bv with
              | true =>
                have hw1 : wnm tx pl ss true = (nck ss, tx, pl) := by unfold wnm; rw [if_neg hnk]
                have KNm2 : Hid (Calls Try.prog 22 #[.pointer (some ⟨g, 0, none⟩), .slice xa0 xn xc, .bool true] wl (NmPost B g (nck ss, tx, pl) wl)) := (by rw [← hw1]; exact KNm.out true)
                clear hw1
                generalize nck ss = q at *
                have q1 : (q == q) = true := by simp
                have q2 : (q != 0) = true := by simpa using hnk
                go_wp2_with fail
                refine KNm2.out.mono ?_
                rintro e w3 ⟨rfl, H3⟩
                have HB3 : Hid (Below B w1 w3) := HLp.out.below.trans H3.out.2.below
                have c3 := HCe.out w3 HB3.out
                have l3 : nb < w3.heap.size := (by have := (HBw.out w3 HB3.out).size; omega)
                go_wp2_with fail
                refine (KCk.out w3 HB3.out).mono ?_
                rintro e w4 ⟨rfl, rfl⟩
                go_wp2_with fail
                refine ⟨⟨k + 1, by omega, by go_num, ⟨_, _, _, _, _, HLp.out.next H3.out.1 H3.out.2⟩⟩, by simp [intOf]; omega⟩
              | false =>
                have hw1 : wnm tx pl ss false = (nck ss, tx, pl) := by unfold wnm; rw [if_neg hnk]
                have KNm2 : Hid (Calls Try.prog 22 #[.pointer (some ⟨g, 0, none⟩), .slice xa0 xn xc, .bool false] wl (NmPost B g (nck ss, tx, pl) wl)) := (by rw [← hw1]; exact KNm.out false)
                clear hw1
                generalize nck ss = q at *
                have q1 : (q == q) = true := by simp
                have q2 : (q != 0) = true := by simpa using hnk
                go_wp2_with fail
                refine KNm2.out.mono ?_
                rintro e w3 ⟨rfl, H3⟩
                have HB3 : Hid (Below B w1 w3) := HLp.out.below.trans H3.out.2.below
                have c3 := HCe.out w3 HB3.out
                have l3 : nb < w3.heap.size := (by have := (HBw.out w3 HB3.out).size; omega)
                go_wp2_with fail
                refine (KCk.out w3 HB3.out).mono ?_
                rintro e w4 ⟨rfl, rfl⟩
                go_wp2_with fail
                refine ⟨⟨k + 1, by omega, by go_num, ⟨_, _, _, _, _, HLp.out.next H3.out.1 H3.out.2⟩⟩, by simp [intOf]; omega⟩
            · have hbk' : (blen : Int) ≤ (k : Int) := by omega
              have hw1 : wnm tx pl ss false = (nck ss, tx, pl) := by unfold wnm; rw [if_neg hnk]
              have KNm2 : Hid (Calls Try.prog 22 #[.pointer (some ⟨g, 0, none⟩), .slice xa0 xn xc, .bool false] wl (NmPost B g (nck ss, tx, pl) wl)) := (by rw [← hw1]; exact KNm.out false)
              clear hw1
              generalize nck ss = q at *
              have q1 : (q == q) = true := by simp
              have q2 : (q != 0) = true := by simpa using hnk
              go_wp2_with fail
              refine KNm2.out.mono ?_
              rintro e w3 ⟨rfl, H3⟩
              have HB3 : Hid (Below B w1 w3) := HLp.out.below.trans H3.out.2.below
              have c3 := HCe.out w3 HB3.out
              have l3 : nb < w3.heap.size := (by have := (HBw.out w3 HB3.out).size; omega)
              go_wp2_with fail
              refine (KCk.out w3 HB3.out).mono ?_
              rintro e w4 ⟨rfl, rfl⟩
              go_wp2_with fail
              refine ⟨⟨k + 1, by omega, by go_num, ⟨_, _, _, _, _, HLp.out.next H3.out.1 H3.out.2⟩⟩, by simp [intOf]; omega⟩
      · have hge : (len : Int) ≤ (k : Int) := by omega
        obtain ⟨wz, hwz⟩ : ∃ x, x = wr := ⟨_, rfl⟩
        subst hwz
        obtain ⟨m, hm⟩ : ∃ m, E.length = m := ⟨_, rfl⟩
        have HM : Hid (E.length = m) := hm
        rw [hm] at hEk
        have hm40 : m ≤ 40 := by omega
        have KAl := Lib.hid (all_rd B g T tx pl wz HLp.out.wr HT.out (by omega))
        have HRa : Hid (RdV wz oa (E.map (fun e => Value.int .i64 (e.1 : Int))) ∧ RdV wz oi (E.map (fun e => nvx e.2))) := by
          have h1 := HLp.out.at_.rd E.length
          have h2 := HLp.out.in_.rd E.length
          rw [HLp.out.at2] at h1
          rw [HLp.out.in2] at h2
          exact ⟨h1, h2⟩
        rw [hm]
        clear hm
        generalize xa.length = ca at *
        generalize xi.length = ci at *
        go_wp2_with fail
        refine KAl.out.mono ?_
        rintro e w5 ⟨a5, c5, rfl, H5⟩
        have HB5 : Hid (Below B w1 w5) := HLp.out.below.trans (H5.out.2.2.2.mono HPl.out.2.2)
        clear KAl
        go_wp2_with fail
        go_loopw [15] (fun i wr => ∃ j : Nat, j ≤ m ∧ i = .int .i64 j ∧ Hid (Below w5.heap.size w5 wr)) (fun i _ => m - (intOf i).toNat)
        case atStart => exact ⟨0, Nat.zero_le _, rfl, Below.refl _ _⟩
        case round =>
          obtain ⟨j, hj, rfl, HBj⟩ := hrel
          have HBz : Hid (Below wz.heap.size wz wr) := H5.out.2.2.2.trans (HBj.out.mono H5.out.2.2.2.size)
          by_cases hjm : j < m
          · have hjm' : (j : Int) < (m : Int) := by omega
            have hjE : j < E.length := by rw [HM.out]; exact hjm
            obtain ⟨hnk, hst⟩ := HLp.out.good j hjE
            obtain ⟨ba, bo, rfl, hba, hbc⟩ := HRa.out.1.at j (by simpa using hjE)
            obtain ⟨ia, io, rfl, hia, hic⟩ := HRa.out.2.at j (by simpa using hjE)
            simp only [List.getElem_map] at hbc hic
            have hxm := HLp.out.mem _ (List.getElem_mem hjE)
            have HAr : Hid (∀ W, Below wz.heap.size wz W → Arg W E[j].2.a E[j].2.n E[j].2.ss) := fun W hW => ((HN.out.1.ok _ hxm).belowS (HBw.out wz HLp.out.below)).belowS hW
            have KRd : Hid (Calls Try.prog 17 #[.slice a5 T c5, .int .i64 (E[j].1 : Int), .bool true] wr (SPo E[j].2.ss.length E[j].2.ss ((if h2 : j + 1 < E.length then E[j + 1].1 else tx.length : Nat) : Int) 0 wr)) := (sread_any a5 T c5 E[j].1 true tx wr (H5.out.1.below HBj.out) HT.out (by omega) H5.out.2.1 H5.out.2.2.1).mono fun e w' h => by rw [read_good hnk hst] at h; exact SPost.po h rfl
            have HNx : Hid (∀ (h : j + 1 < m), wz.cell? ⟨ba, bo + (j + 1), none⟩ = some (.int .i64 ((if h2 : j + 1 < E.length then E[j + 1].1 else tx.length : Nat) : Int))) := fun h => by
              obtain ⟨ba', bo', e, _, hc'⟩ := HRa.out.1.at (j + 1) (by simp [HM.out]; exact h)
              cases e
              rw [hc', dif_pos (by rw [HM.out]; exact h)]
              simp
            have HNo : Hid (¬ j + 1 < m → (if h2 : j + 1 < E.length then E[j + 1].1 else tx.length) = T) := fun h => by rw [dif_neg (by rw [HM.out]; exact h)]; exact HT.out
            generalize (if h2 : j + 1 < E.length then E[j + 1].1 else tx.length) = en at *
            have c1 := cell_below HBz.out hba hbc
            have hbar : ba < wr.heap.size := Nat.lt_of_lt_of_le hba HBz.out.size
            generalize E[j].1 = pj at *
            generalize E[j].2 = x at *
            obtain ⟨xa0, xn, xc, ss⟩ := x
            dsimp only at HAr KRd hic hnk hst
            clear hst hxm hbc
            have hxn : ss.length = xn := (HAr.out wz (Below.refl _ _)).len
            have HXN : Hid (ss.length = xn) := hxn
            have hx63 := (HAr.out wz (Below.refl _ _)).n63
            rw [hxn] at KRd
            clear hxn
            have HTail : Hid (∀ w6, Below wr.heap.size wr w6 → Below wz.heap.size wz w6 ∧ w6.cell? ⟨ia, io + j, none⟩ = some (.slice xa0 xn xc) ∧ ia < w6.heap.size ∧ RdT w6 xa0 ss ∧ ba < w6.heap.size ∧ (∀ h : j + 1 < m, w6.cell? ⟨ba, bo + (j + 1), none⟩ = some (.int .i64 (en : Int)))) := fun w6 h6 => by
              have q := HBz.out.trans (h6.mono HBz.out.size)
              exact ⟨q, cell_below q hia hic, Nat.lt_of_lt_of_le hia q.size, (HAr.out w6 q).rd, Nat.lt_of_lt_of_le hba q.size, fun h => cell_below q hba (HNx.out h)⟩
            by_cases hlast : j + 1 < m
            · have hl' : (j : Int) + 1 < (m : Int) := by omega
              go_wp2_with fail
              refine KRd.out.mono ?_
              rintro e w6 ⟨v6, y6, rfl, H6⟩
              obtain ⟨o6, rfl, _⟩ := H6.out.1.shape
              obtain ⟨t1, t2, t3, t4, t5, t6⟩ := HTail.out w6 H6.out.2.2
              have t7 := t6 hlast
              have HR6 : Hid (RdT w6 o6 ss) := by have := H6.out.1.rd xn; rw [H6.out.2.1] at this; exact this
              have HT4 : Hid (RdT w6 xa0 ss ∧ Below wz.heap.size wz w6) := ⟨t4, t1⟩
              clear t6 t1 t4
              go_wp2_with fail
              refine (sameN_yes o6 xa0 xn _ _ ss w6 HR6.out HT4.out.1 HXN.out hx63).mono ?_
              rintro e w7 ⟨rfl, H7⟩
              go_wp2_with fail
              refine ⟨⟨j + 1, by omega, by go_num, (HBj.out.trans (H6.out.2.2.mono HBj.out.size)).trans (H7.out.mono (HBj.out.trans (H6.out.2.2.mono HBj.out.size)).size)⟩, by simp [intOf]; omega⟩
            · have hl' : (m : Int) ≤ (j : Int) + 1 := by omega
              have hen := HNo.out hlast
              subst hen
              go_wp2_with fail
              refine KRd.out.mono ?_
              rintro e w6 ⟨v6, y6, rfl, H6⟩
              obtain ⟨o6, rfl, _⟩ := H6.out.1.shape
              obtain ⟨t1, t2, t3, t4, t5, t6⟩ := HTail.out w6 H6.out.2.2
              have HR6 : Hid (RdT w6 o6 ss) := by have := H6.out.1.rd xn; rw [H6.out.2.1] at this; exact this
              have HT4 : Hid (RdT w6 xa0 ss ∧ Below wz.heap.size wz w6) := ⟨t4, t1⟩
              clear t6 t1 t4
              go_wp2_with fail
              refine (sameN_yes o6 xa0 xn _ _ ss w6 HR6.out HT4.out.1 HXN.out hx63).mono ?_
              rintro e w7 ⟨rfl, H7⟩
              go_wp2_with fail
              refine ⟨⟨j + 1, by omega, by go_num, (HBj.out.trans (H6.out.2.2.mono HBj.out.size)).trans (H7.out.mono (HBj.out.trans (H6.out.2.2.mono HBj.out.size)).size)⟩, by simp [intOf]; omega⟩
          · have hjm' : (m : Int) ≤ (j : Int) := by omega
            have KLe := Lib.hid (len_any B g tx pl wr (HLp.out.wr.below HBz.out))
            rw [HT.out] at KLe
            go_wp2_with fail
            refine KLe.out.mono ?_
            rintro e w8 ⟨rfl, rfl⟩
            go_wp2
            go_ret
            have q1 := HBw.out wz HLp.out.below
            exact ⟨rfl, q1.trans (HBz.out.mono q1.size)⟩
end Go.Proofs.Ytfnpiknobmecbaa
