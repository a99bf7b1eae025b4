/- Texts laid together, in parts: Mls1 Mls2 Mls3 Mls Mlt. -/
import Derived.Test.YteplffhfeoephaaGreatWbk
set_option maxRecDepth 100000
set_option linter.unusedVariables false
set_option linter.unusedSimpArgs false
namespace Go.Proofs.YteplffhfeoephaaGreat
open Go.ChangeShapes Go.WideShapes Go.ChangeAt Go.RowKit Go.Maps
set_option maxHeartbeats 16000000 in
theorem backM1 (H : Hd) (x : MA) (m : Mg) (s : Sl) (zs : List Int) (w : World) (hm : MRd w H x m) (ht : x.l1.n + x.l2.n + x.l3.n <= 2000000) (hs : BRd w s zs) (hsn : s.n <= 2000000) (hc : chkM m = 0) (hpr : prun (pmsg m) (some ([], [])) = none) : Calls Tryz.prog 5 #[.agg #[.int .u16 H.id, .bool H.rs, .int .i64 H.op, .bool H.aa, .bool H.tc, .bool H.rd, .bool H.ra, .bool H.ad, .bool H.cd, .int .i64 H.rc, .slice x.q.a x.q.n x.q.c, .slice x.l1.a x.l1.n x.l1.c, .slice x.l2.a x.l2.n x.l2.c, .slice x.l3.a x.l3.n x.l3.c], .slice s.a s.n s.c] w fun e w' => e = .returned (.bool true) /\ Hid (Below w.heap.size w w') := by
 have hb0 := newq_below w (.cells #[.int .u16 H.id, .bool H.rs, .int .i64 H.op, .bool H.aa, .bool H.tc, .bool H.rd, .bool H.ra, .bool H.ad, .bool H.cd, .int .i64 H.rc, .slice x.q.a x.q.n x.q.c, .slice x.l1.a x.l1.n x.l1.c, .slice x.l2.a x.l2.n x.l2.c, .slice x.l3.a x.l3.n x.l3.c] 26)
 have HX : Hid ((w.alloc (.cells #[.int .u16 H.id, .bool H.rs, .int .i64 H.op, .bool H.aa, .bool H.tc, .bool H.rd, .bool H.ra, .bool H.ad, .bool H.cd, .int .i64 H.rc, .slice x.q.a x.q.n x.q.c, .slice x.l1.a x.l1.n x.l1.c, .slice x.l2.a x.l2.n x.l2.c, .slice x.l3.a x.l3.n x.l3.c] 26)).heap[w.heap.size]? = some (.cells #[.int .u16 H.id, .bool H.rs, .int .i64 H.op, .bool H.aa, .bool H.tc, .bool H.rd, .bool H.ra, .bool H.ad, .bool H.cd, .int .i64 H.rc, .slice x.q.a x.q.n x.q.c, .slice x.l1.a x.l1.n x.l1.c, .slice x.l2.a x.l2.n x.l2.c, .slice x.l3.a x.l3.n x.l3.c] 26)) := heap_alloc_new _ _
 have HB0 := Lib.hid hb0
 have HM : Hid (MRd (w.alloc (.cells #[.int .u16 H.id, .bool H.rs, .int .i64 H.op, .bool H.aa, .bool H.tc, .bool H.rd, .bool H.ra, .bool H.ad, .bool H.cd, .int .i64 H.rc, .slice x.q.a x.q.n x.q.c, .slice x.l1.a x.l1.n x.l1.c, .slice x.l2.a x.l2.n x.l2.c, .slice x.l3.a x.l3.n x.l3.c] 26)) H x m) := hm.below hb0
 have HS : Hid (BRd (w.alloc (.cells #[.int .u16 H.id, .bool H.rs, .int .i64 H.op, .bool H.aa, .bool H.tc, .bool H.rd, .bool H.ra, .bool H.ad, .bool H.cd, .int .i64 H.rc, .slice x.q.a x.q.n x.q.c, .slice x.l1.a x.l1.n x.l1.c, .slice x.l2.a x.l2.n x.l2.c, .slice x.l3.a x.l3.n x.l3.c] 26)) s zs) := hs.below hb0
 have HHm : Hid (m.h = H) := hm.h
 have HMb : Hid (Mb m) := hm.b
 clear hb0 hm hs
 obtain ⟨sa, sn, sc⟩ := s
 simp only at hsn HS ⊢
 go_enter Tryz.func5, Tryz.ntmps5
 go_wp2_with fail
 generalize w.alloc (.cells #[.int .u16 H.id, .bool H.rs, .int .i64 H.op, .bool H.aa, .bool H.tc, .bool H.rd, .bool H.ra, .bool H.ad, .bool H.cd, .int .i64 H.rc, .slice x.q.a x.q.n x.q.c, .slice x.l1.a x.l1.n x.l1.c, .slice x.l2.a x.l2.n x.l2.c, .slice x.l3.a x.l3.n x.l3.c] 26) = w0 at *
 obtain ⟨b, hbb⟩ : ∃ b, b = w.heap.size := ⟨_, rfl⟩
 rw [<- hbb] at HX
 simp only [<- hbb]
 clear hbb
 have KM : ∀ W, Below w0.heap.size w0 W -> W.cell? ⟨b, 0, none⟩ = some (.int .u16 H.id) /\ W.cell? ⟨b, 1, none⟩ = some (.bool H.rs) /\ W.cell? ⟨b, 2, none⟩ = some (.int .i64 H.op) /\ W.cell? ⟨b, 3, none⟩ = some (.bool H.aa) /\ W.cell? ⟨b, 4, none⟩ = some (.bool H.tc) /\ W.cell? ⟨b, 5, none⟩ = some (.bool H.rd) /\ W.cell? ⟨b, 6, none⟩ = some (.bool H.ra) /\ W.cell? ⟨b, 7, none⟩ = some (.bool H.ad) /\ W.cell? ⟨b, 8, none⟩ = some (.bool H.cd) /\ W.cell? ⟨b, 9, none⟩ = some (.int .i64 H.rc) /\ W.cell? ⟨b, 10, none⟩ = some (.slice x.q.a x.q.n x.q.c) /\ W.cell? ⟨b, 11, none⟩ = some (.slice x.l1.a x.l1.n x.l1.c) /\ W.cell? ⟨b, 12, none⟩ = some (.slice x.l2.a x.l2.n x.l2.c) /\ W.cell? ⟨b, 13, none⟩ = some (.slice x.l3.a x.l3.n x.l3.c) := fun W hb => by
   have mm := (hb.block b (box_lt HX.out)).trans HX.out
   exact ⟨box_cell mm 0 _ rfl, box_cell mm 1 _ rfl, box_cell mm 2 _ rfl, box_cell mm 3 _ rfl, box_cell mm 4 _ rfl, box_cell mm 5 _ rfl, box_cell mm 6 _ rfl, box_cell mm 7 _ rfl, box_cell mm 8 _ rfl, box_cell mm 9 _ rfl, box_cell mm 10 _ rfl, box_cell mm 11 _ rfl, box_cell mm 12 _ rfl, box_cell mm 13 _ rfl⟩
 have K28 := fun W => Lib.hid (awake10 W)
 go_wp2_with fail
 refine (K28 _).out.mono ?_
 rintro e w1 ⟨rfl, H1⟩
 obtain ⟨k0, k1, k2, k3, k4, k5, k6, k7, k8, k9, k10, k11, k12, k13⟩ := KM w1 H1.out
 have lb : b < w1.heap.size := Nat.lt_of_lt_of_le (box_lt HX.out) (Below.size H1.out)
 have K9 := Lib.hid (largeM H x m w1 (HM.out.below H1.out) ht)
 go_wp2_with fail
 refine K9.out.mono ?_
 rintro e w2 ⟨bl, rfl, H2⟩
 have HB2 : Hid (Below w0.heap.size w0 w2) := H1.out.trans (H2.out.2.mono H1.out.size)
 have HFW := Lib.hid H2.out.1
 clear k0 k1 k2 k3 k4 k5 k6 k7 k8 k9 k10 k11 k12 k13 lb
 clear K9 K28 H1 H2
 obtain ⟨k0, k1, k2, k3, k4, k5, k6, k7, k8, k9, k10, k11, k12, k13⟩ := KM w2 HB2.out
 have lb : b < w2.heap.size := Nat.lt_of_lt_of_le (box_lt HX.out) (Below.size HB2.out)
 cases bl with
 | true =>
   go_wp2
   go_ret
   exact ⟨rfl, HB0.out.trans (HB2.out.mono HB0.out.size)⟩
 | false =>
   by_cases h6 : (6000 : Int) < (sn : Int)
   · go_wp2
     go_ret
     exact ⟨rfl, HB0.out.trans (HB2.out.mono HB0.out.size)⟩
   · have HF : Hid (Fin m) := (HFW.out rfl).fin
     have K11 := Lib.hid (bytes_msg H x m w2 (HM.out.below HB2.out) HF.out)
     go_wp2_with fail
     refine K11.out.mono ?_
     rintro e w3 ⟨⟨pa, pn, pc⟩, er, rfl, H3⟩
     have HB3 : Hid (Below w0.heap.size w0 w3) := HB2.out.trans (H3.out.2.mono HB2.out.size)
     have hby := H3.out.1
     unfold ByR at hby
     clear k0 k1 k2 k3 k4 k5 k6 k7 k8 k9 k10 k11 k12 k13 lb
     clear K11 h6 HFW
     obtain ⟨k0, k1, k2, k3, k4, k5, k6, k7, k8, k9, k10, k11, k12, k13⟩ := KM w3 HB3.out
     have lb : b < w3.heap.size := Nat.lt_of_lt_of_le (box_lt HX.out) (Below.size HB3.out)
     have K16 := fun W (h : MRd W H x m) => Lib.hid (check_msg H x m W h HF.out)
     rw [if_pos hc] at hby
     simp only [hc] at K16
     rw [hpr] at hby
     obtain ⟨h1, h2⟩ := hby
     subst h1
     clear h2 hpr hc
     go_wp2_with fail
     refine (K16 _ (HM.out.below HB3.out)).out.mono ?_
     rintro e w4 ⟨rfl, H4⟩
     have HB4 : Hid (Below w0.heap.size w0 w4) := HB3.out.trans (H4.out.mono HB3.out.size)
     clear k0 k1 k2 k3 k4 k5 k6 k7 k8 k9 k10 k11 k12 k13 lb
     clear K16 H4
     go_upto_region 11 with fail
     have HBW : Hid (Below w0.heap.size w0 w4) := HB4.out
     have HS2 : Hid (BRd w4 ⟨sa, sn, sc⟩ zs) := HS.out.below HBW.out
     cases hg : gmsg zs with
     | none =>
       have K24 := Lib.hid (mread_none0 ⟨sa, sn, sc⟩ zs w4 HS2.out (show sn <= 140737488355328 by omega) hg)
       simp only [zeroM] at K24
       clear hg
       go_wp2_with fail
       refine K24.out.mono ?_
       rintro e u1 ⟨rfl, U1⟩
       have HU1 : Hid (Below w0.heap.size w0 (u1.alloc (.cells #[.int .u16 0, .bool false, .int .i64 0, .bool false, .bool false, .bool false, .bool false, .bool false, .bool false, .int .i64 0, .slice none 0 0, .slice none 0 0, .slice none 0 0, .slice none 0 0] 26))) := (HBW.out.trans (U1.out.mono HBW.out.size)).trans ((newq_below _ _).mono (Nat.le_trans HBW.out.size U1.out.size))
       clear K24
       go_wp2
       go_ret
       exact ⟨rfl, HB0.out.trans (HU1.out.mono HB0.out.size)⟩
     | some m2 =>
       have hsd := msg_sound HS2.out.rd.2 hg
       have hne : 1 <= sn := by
         rcases Nat.eq_zero_or_pos sn with h | h
         · have hz : zs = [] := List.length_eq_zero_iff.1 (HS2.out.len.trans h)
           rw [hz, gmsg_nil] at hg
           cases hg
         · exact h
       have K24 := Lib.hid (mread_some ⟨sa, sn, sc⟩ zs w4 HS2.out hne (show sn <= 140737488355328 by omega) m2 hg)
       have HOK : Hid (ChkOk m2 /\ Mb m2) := hsd
       obtain ⟨H2, hH2⟩ : ∃ H2, H2 = m2.h := ⟨_, rfl⟩
       have HH2 : Hid (H2 = m2.h) := hH2
       rw [<- hH2] at K24
       clear hg hsd hne hH2
       go_wp2_with fail
       refine K24.out.mono ?_
       rintro e u1 ⟨x5, rfl, U1⟩
       have nb := newq_below u1 (.cells #[.int .u16 H2.id, .bool H2.rs, .int .i64 H2.op, .bool H2.aa, .bool H2.tc, .bool H2.rd, .bool H2.ra, .bool H2.ad, .bool H2.cd, .int .i64 H2.rc, .slice x5.q.a x5.q.n x5.q.c, .slice x5.l1.a x5.l1.n x5.l1.c, .slice x5.l2.a x5.l2.n x5.l2.c, .slice x5.l3.a x5.l3.n x5.l3.c] 26)
       have nx : (u1.alloc (.cells #[.int .u16 H2.id, .bool H2.rs, .int .i64 H2.op, .bool H2.aa, .bool H2.tc, .bool H2.rd, .bool H2.ra, .bool H2.ad, .bool H2.cd, .int .i64 H2.rc, .slice x5.q.a x5.q.n x5.q.c, .slice x5.l1.a x5.l1.n x5.l1.c, .slice x5.l2.a x5.l2.n x5.l2.c, .slice x5.l3.a x5.l3.n x5.l3.c] 26)).heap[u1.heap.size]? = some (.cells #[.int .u16 H2.id, .bool H2.rs, .int .i64 H2.op, .bool H2.aa, .bool H2.tc, .bool H2.rd, .bool H2.ra, .bool H2.ad, .bool H2.cd, .int .i64 H2.rc, .slice x5.q.a x5.q.n x5.q.c, .slice x5.l1.a x5.l1.n x5.l1.c, .slice x5.l2.a x5.l2.n x5.l2.c, .slice x5.l3.a x5.l3.n x5.l3.c] 26) := heap_alloc_new _ _
       have HU2 : Hid (Below w0.heap.size w0 (u1.alloc (.cells #[.int .u16 H2.id, .bool H2.rs, .int .i64 H2.op, .bool H2.aa, .bool H2.tc, .bool H2.rd, .bool H2.ra, .bool H2.ad, .bool H2.cd, .int .i64 H2.rc, .slice x5.q.a x5.q.n x5.q.c, .slice x5.l1.a x5.l1.n x5.l1.c, .slice x5.l2.a x5.l2.n x5.l2.c, .slice x5.l3.a x5.l3.n x5.l3.c] 26))) := (HBW.out.trans (U1.out.2.2.mono HBW.out.size)).trans (nb.mono (Nat.le_trans HBW.out.size U1.out.2.2.size))
       have M5 : Hid (MRd (u1.alloc (.cells #[.int .u16 H2.id, .bool H2.rs, .int .i64 H2.op, .bool H2.aa, .bool H2.tc, .bool H2.rd, .bool H2.ra, .bool H2.ad, .bool H2.cd, .int .i64 H2.rc, .slice x5.q.a x5.q.n x5.q.c, .slice x5.l1.a x5.l1.n x5.l1.c, .slice x5.l2.a x5.l2.n x5.l2.c, .slice x5.l3.a x5.l3.n x5.l3.c] 26)) H2 x5 m2) := U1.out.2.1.below nb
       have X5 := Lib.hid nx
       clear nb nx K24
       go_upto_region 14 with fail
       generalize u1.alloc (.cells #[.int .u16 H2.id, .bool H2.rs, .int .i64 H2.op, .bool H2.aa, .bool H2.tc, .bool H2.rd, .bool H2.ra, .bool H2.ad, .bool H2.cd, .int .i64 H2.rc, .slice x5.q.a x5.q.n x5.q.c, .slice x5.l1.a x5.l1.n x5.l1.c, .slice x5.l2.a x5.l2.n x5.l2.c, .slice x5.l3.a x5.l3.n x5.l3.c] 26) = u2 at *
       obtain ⟨q, hq⟩ : ∃ q, q = u1.heap.size := ⟨_, rfl⟩
       rw [<- hq] at X5
       simp only [<- hq]
       clear hq
       have j0 := box_cell X5.out 0 _ rfl; have j1 := box_cell X5.out 1 _ rfl; have j2 := box_cell X5.out 2 _ rfl; have j3 := box_cell X5.out 3 _ rfl; have j4 := box_cell X5.out 4 _ rfl; have j5 := box_cell X5.out 5 _ rfl; have j6 := box_cell X5.out 6 _ rfl; have j7 := box_cell X5.out 7 _ rfl; have j8 := box_cell X5.out 8 _ rfl; have j9 := box_cell X5.out 9 _ rfl; have j10 := box_cell X5.out 10 _ rfl; have j11 := box_cell X5.out 11 _ rfl; have j12 := box_cell X5.out 12 _ rfl; have j13 := box_cell X5.out 13 _ rfl; have jl := box_lt X5.out
       have K11 := Lib.hid (bytes_msg H2 x5 m2 u2 M5.out HOK.out.1.fin)
       go_wp2_with fail
       refine K11.out.mono ?_
       rintro e u3 ⟨⟨ta, tn, tc⟩, er, rfl, U3⟩
       have HU3 : Hid (Below w0.heap.size w0 u3) := HU2.out.trans (U3.out.2.mono HU2.out.size)
       have M5b : Hid (MRd u3 H2 x5 m2) := M5.out.below U3.out.2
       have X5b : Hid (u3.heap[q]? = some (.cells #[.int .u16 H2.id, .bool H2.rs, .int .i64 H2.op, .bool H2.aa, .bool H2.tc, .bool H2.rd, .bool H2.ra, .bool H2.ad, .bool H2.cd, .int .i64 H2.rc, .slice x5.q.a x5.q.n x5.q.c, .slice x5.l1.a x5.l1.n x5.l1.c, .slice x5.l2.a x5.l2.n x5.l2.c, .slice x5.l3.a x5.l3.n x5.l3.c] 26)) := (U3.out.2.block q (box_lt X5.out)).trans X5.out
       have hby := U3.out.1
       unfold ByR at hby
       rw [if_pos (chkM_zero.2 HOK.out.1)] at hby
       clear j0 j1 j2 j3 j4 j5 j6 j7 j8 j9 j10 j11 j12 j13 jl
       clear K11
       have j0 := box_cell X5b.out 0 _ rfl; have j1 := box_cell X5b.out 1 _ rfl; have j2 := box_cell X5b.out 2 _ rfl; have j3 := box_cell X5b.out 3 _ rfl; have j4 := box_cell X5b.out 4 _ rfl; have j5 := box_cell X5b.out 5 _ rfl; have j6 := box_cell X5b.out 6 _ rfl; have j7 := box_cell X5b.out 7 _ rfl; have j8 := box_cell X5b.out 8 _ rfl; have j9 := box_cell X5b.out 9 _ rfl; have j10 := box_cell X5b.out 10 _ rfl; have j11 := box_cell X5b.out 11 _ rfl; have j12 := box_cell X5b.out 12 _ rfl; have j13 := box_cell X5b.out 13 _ rfl; have jl := box_lt X5b.out
       have K16 := fun W (h : MRd W H2 x5 m2) => Lib.hid (check_msg H2 x5 m2 W h HOK.out.1.fin)
       simp only [chkM_zero.2 HOK.out.1] at K16
       cases hpr : prun (pmsg m2) (some ([], [])) with
       | none =>
         rw [hpr] at hby
         obtain ⟨h1, h2⟩ := hby
         subst h1
         clear h2 hpr
         go_wp2_with fail
         refine (K16 _ M5b.out).out.mono ?_
         rintro e u4 ⟨rfl, U4⟩
         have HU4 : Hid (Below w0.heap.size w0 u4) := HU3.out.trans (U4.out.mono HU3.out.size)
         have M5c : Hid (MRd u4 H2 x5 m2) := M5b.out.below U4.out
         have X5c : Hid (u4.heap[q]? = some (.cells #[.int .u16 H2.id, .bool H2.rs, .int .i64 H2.op, .bool H2.aa, .bool H2.tc, .bool H2.rd, .bool H2.ra, .bool H2.ad, .bool H2.cd, .int .i64 H2.rc, .slice x5.q.a x5.q.n x5.q.c, .slice x5.l1.a x5.l1.n x5.l1.c, .slice x5.l2.a x5.l2.n x5.l2.c, .slice x5.l3.a x5.l3.n x5.l3.c] 26)) := (U4.out.block q (box_lt X5b.out)).trans X5b.out
         clear j0 j1 j2 j3 j4 j5 j6 j7 j8 j9 j10 j11 j12 j13 jl
         have j0 := box_cell X5c.out 0 _ rfl; have j1 := box_cell X5c.out 1 _ rfl; have j2 := box_cell X5c.out 2 _ rfl; have j3 := box_cell X5c.out 3 _ rfl; have j4 := box_cell X5c.out 4 _ rfl; have j5 := box_cell X5c.out 5 _ rfl; have j6 := box_cell X5c.out 6 _ rfl; have j7 := box_cell X5c.out 7 _ rfl; have j8 := box_cell X5c.out 8 _ rfl; have j9 := box_cell X5c.out 9 _ rfl; have j10 := box_cell X5c.out 10 _ rfl; have j11 := box_cell X5c.out 11 _ rfl; have j12 := box_cell X5c.out 12 _ rfl; have j13 := box_cell X5c.out 13 _ rfl; have jl := box_lt X5c.out
         go_wp2_with fail
         refine (K16 _ M5c.out).out.mono ?_
         rintro e u5 ⟨rfl, U5⟩
         have HU5 : Hid (Below w0.heap.size w0 u5) := HU4.out.trans (U5.out.mono HU4.out.size)
         go_wp2
         go_ret
         exact ⟨rfl, HB0.out.trans (HU5.out.mono HB0.out.size)⟩
       | some z2 =>
         rw [hpr] at hby
         obtain ⟨h1, h2⟩ := hby
         subst h1
         have hmb := msg_back HOK.out.1 HOK.out.2 (zs := z2.1) (pl := z2.2) hpr
         have HMB := Lib.hid hmb
         have HBT : Hid (BRd u3 ⟨ta, tn, tc⟩ z2.1) := h2
         clear h2 hmb hpr
         go_wp2_with fail
         refine (K16 _ M5b.out).out.mono ?_
         rintro e u4 ⟨rfl, U4⟩
         have HU4 : Hid (Below w0.heap.size w0 u4) := HU3.out.trans (U4.out.mono HU3.out.size)
         have M5c : Hid (MRd u4 H2 x5 m2) := M5b.out.below U4.out
         have X5c : Hid (u4.heap[q]? = some (.cells #[.int .u16 H2.id, .bool H2.rs, .int .i64 H2.op, .bool H2.aa, .bool H2.tc, .bool H2.rd, .bool H2.ra, .bool H2.ad, .bool H2.cd, .int .i64 H2.rc, .slice x5.q.a x5.q.n x5.q.c, .slice x5.l1.a x5.l1.n x5.l1.c, .slice x5.l2.a x5.l2.n x5.l2.c, .slice x5.l3.a x5.l3.n x5.l3.c] 26)) := (U4.out.block q (box_lt X5b.out)).trans X5b.out
         have HB4 := Lib.hid (HBT.out.below U4.out)
         have htn : tn = z2.1.length := HBT.out.len.symm
         have K25 := Lib.hid (mread_some ⟨ta, tn, tc⟩ z2.1 u4 HB4.out (show 1 <= tn by have := HMB.out.2.2; omega) (show tn <= 140737488355328 by have := HMB.out.2.1; omega) m2 HMB.out.1)
         rw [<- HH2.out] at K25
         clear htn
         clear j0 j1 j2 j3 j4 j5 j6 j7 j8 j9 j10 j11 j12 j13 jl
         go_wp2_with fail
         refine K25.out.mono ?_
         rintro e u5 ⟨x6, rfl, U5⟩
         have nb := newq_below u5 (.cells #[.int .u16 H2.id, .bool H2.rs, .int .i64 H2.op, .bool H2.aa, .bool H2.tc, .bool H2.rd, .bool H2.ra, .bool H2.ad, .bool H2.cd, .int .i64 H2.rc, .slice x6.q.a x6.q.n x6.q.c, .slice x6.l1.a x6.l1.n x6.l1.c, .slice x6.l2.a x6.l2.n x6.l2.c, .slice x6.l3.a x6.l3.n x6.l3.c] 26)
         have nx : (u5.alloc (.cells #[.int .u16 H2.id, .bool H2.rs, .int .i64 H2.op, .bool H2.aa, .bool H2.tc, .bool H2.rd, .bool H2.ra, .bool H2.ad, .bool H2.cd, .int .i64 H2.rc, .slice x6.q.a x6.q.n x6.q.c, .slice x6.l1.a x6.l1.n x6.l1.c, .slice x6.l2.a x6.l2.n x6.l2.c, .slice x6.l3.a x6.l3.n x6.l3.c] 26)).heap[u5.heap.size]? = some (.cells #[.int .u16 H2.id, .bool H2.rs, .int .i64 H2.op, .bool H2.aa, .bool H2.tc, .bool H2.rd, .bool H2.ra, .bool H2.ad, .bool H2.cd, .int .i64 H2.rc, .slice x6.q.a x6.q.n x6.q.c, .slice x6.l1.a x6.l1.n x6.l1.c, .slice x6.l2.a x6.l2.n x6.l2.c, .slice x6.l3.a x6.l3.n x6.l3.c] 26) := heap_alloc_new _ _
         have HN5 : Hid (Below u4.heap.size u4 (u5.alloc (.cells #[.int .u16 H2.id, .bool H2.rs, .int .i64 H2.op, .bool H2.aa, .bool H2.tc, .bool H2.rd, .bool H2.ra, .bool H2.ad, .bool H2.cd, .int .i64 H2.rc, .slice x6.q.a x6.q.n x6.q.c, .slice x6.l1.a x6.l1.n x6.l1.c, .slice x6.l2.a x6.l2.n x6.l2.c, .slice x6.l3.a x6.l3.n x6.l3.c] 26))) := U5.out.2.2.trans (nb.mono U5.out.2.2.size)
         have HU6 : Hid (Below w0.heap.size w0 (u5.alloc (.cells #[.int .u16 H2.id, .bool H2.rs, .int .i64 H2.op, .bool H2.aa, .bool H2.tc, .bool H2.rd, .bool H2.ra, .bool H2.ad, .bool H2.cd, .int .i64 H2.rc, .slice x6.q.a x6.q.n x6.q.c, .slice x6.l1.a x6.l1.n x6.l1.c, .slice x6.l2.a x6.l2.n x6.l2.c, .slice x6.l3.a x6.l3.n x6.l3.c] 26))) := HU4.out.trans (HN5.out.mono HU4.out.size)
         have M6 : Hid (MRd (u5.alloc (.cells #[.int .u16 H2.id, .bool H2.rs, .int .i64 H2.op, .bool H2.aa, .bool H2.tc, .bool H2.rd, .bool H2.ra, .bool H2.ad, .bool H2.cd, .int .i64 H2.rc, .slice x6.q.a x6.q.n x6.q.c, .slice x6.l1.a x6.l1.n x6.l1.c, .slice x6.l2.a x6.l2.n x6.l2.c, .slice x6.l3.a x6.l3.n x6.l3.c] 26)) H2 x6 m2) := U5.out.2.1.below nb
         have M5d : Hid (MRd (u5.alloc (.cells #[.int .u16 H2.id, .bool H2.rs, .int .i64 H2.op, .bool H2.aa, .bool H2.tc, .bool H2.rd, .bool H2.ra, .bool H2.ad, .bool H2.cd, .int .i64 H2.rc, .slice x6.q.a x6.q.n x6.q.c, .slice x6.l1.a x6.l1.n x6.l1.c, .slice x6.l2.a x6.l2.n x6.l2.c, .slice x6.l3.a x6.l3.n x6.l3.c] 26)) H2 x5 m2) := M5c.out.below HN5.out
         have X6 := Lib.hid nx
         have X5d : Hid ((u5.alloc (.cells #[.int .u16 H2.id, .bool H2.rs, .int .i64 H2.op, .bool H2.aa, .bool H2.tc, .bool H2.rd, .bool H2.ra, .bool H2.ad, .bool H2.cd, .int .i64 H2.rc, .slice x6.q.a x6.q.n x6.q.c, .slice x6.l1.a x6.l1.n x6.l1.c, .slice x6.l2.a x6.l2.n x6.l2.c, .slice x6.l3.a x6.l3.n x6.l3.c] 26)).heap[q]? = some (.cells #[.int .u16 H2.id, .bool H2.rs, .int .i64 H2.op, .bool H2.aa, .bool H2.tc, .bool H2.rd, .bool H2.ra, .bool H2.ad, .bool H2.cd, .int .i64 H2.rc, .slice x5.q.a x5.q.n x5.q.c, .slice x5.l1.a x5.l1.n x5.l1.c, .slice x5.l2.a x5.l2.n x5.l2.c, .slice x5.l3.a x5.l3.n x5.l3.c] 26)) := (HN5.out.block q (box_lt X5c.out)).trans X5c.out
         clear nb nx K25
         go_upto_region 18 with fail
         generalize u5.alloc (.cells #[.int .u16 H2.id, .bool H2.rs, .int .i64 H2.op, .bool H2.aa, .bool H2.tc, .bool H2.rd, .bool H2.ra, .bool H2.ad, .bool H2.cd, .int .i64 H2.rc, .slice x6.q.a x6.q.n x6.q.c, .slice x6.l1.a x6.l1.n x6.l1.c, .slice x6.l2.a x6.l2.n x6.l2.c, .slice x6.l3.a x6.l3.n x6.l3.c] 26) = u6 at *
         obtain ⟨q2, hq2⟩ : ∃ q2, q2 = u5.heap.size := ⟨_, rfl⟩
         rw [<- hq2] at X6
         simp only [<- hq2]
         clear hq2
         have j0 := box_cell X5d.out 0 _ rfl; have j1 := box_cell X5d.out 1 _ rfl; have j2 := box_cell X5d.out 2 _ rfl; have j3 := box_cell X5d.out 3 _ rfl; have j4 := box_cell X5d.out 4 _ rfl; have j5 := box_cell X5d.out 5 _ rfl; have j6 := box_cell X5d.out 6 _ rfl; have j7 := box_cell X5d.out 7 _ rfl; have j8 := box_cell X5d.out 8 _ rfl; have j9 := box_cell X5d.out 9 _ rfl; have j10 := box_cell X5d.out 10 _ rfl; have j11 := box_cell X5d.out 11 _ rfl; have j12 := box_cell X5d.out 12 _ rfl; have j13 := box_cell X5d.out 13 _ rfl; have jl := box_lt X5d.out
         have i0 := box_cell X6.out 0 _ rfl; have i1 := box_cell X6.out 1 _ rfl; have i2 := box_cell X6.out 2 _ rfl; have i3 := box_cell X6.out 3 _ rfl; have i4 := box_cell X6.out 4 _ rfl; have i5 := box_cell X6.out 5 _ rfl; have i6 := box_cell X6.out 6 _ rfl; have i7 := box_cell X6.out 7 _ rfl; have i8 := box_cell X6.out 8 _ rfl; have i9 := box_cell X6.out 9 _ rfl; have i10 := box_cell X6.out 10 _ rfl; have i11 := box_cell X6.out 11 _ rfl; have i12 := box_cell X6.out 12 _ rfl; have i13 := box_cell X6.out 13 _ rfl; have il := box_lt X6.out
         have K20 := Lib.hid (same_msg H2 x6 x5 m2 u6 M6.out M5d.out)
         go_wp2_with fail
         refine K20.out.mono ?_
         rintro e u7 ⟨rfl, U7⟩
         have HU7 : Hid (Below w0.heap.size w0 u7) := HU6.out.trans (U7.out.mono HU6.out.size)
         go_wp2
         go_ret
         exact ⟨rfl, HB0.out.trans (HU7.out.mono HB0.out.size)⟩
end Go.Proofs.YteplffhfeoephaaGreat
namespace Go.Proofs.YteplffhfeoephaaGreat
open Go.ChangeShapes Go.WideShapes Go.ChangeAt Go.RowKit Go.Maps
set_option maxHeartbeats 16000000 in
theorem backM2 (H : Hd) (x : MA) (m : Mg) (s : Sl) (zs : List Int) (w : World) (hm : MRd w H x m) (ht : x.l1.n + x.l2.n + x.l3.n <= 2000000) (hs : BRd w s zs) (hsn : s.n <= 2000000) (hc : chkM m = 0) (z1 : List Int × PLs) (hpr : prun (pmsg m) (some ([], [])) = some z1) : Calls Tryz.prog 5 #[.agg #[.int .u16 H.id, .bool H.rs, .int .i64 H.op, .bool H.aa, .bool H.tc, .bool H.rd, .bool H.ra, .bool H.ad, .bool H.cd, .int .i64 H.rc, .slice x.q.a x.q.n x.q.c, .slice x.l1.a x.l1.n x.l1.c, .slice x.l2.a x.l2.n x.l2.c, .slice x.l3.a x.l3.n x.l3.c], .slice s.a s.n s.c] w fun e w' => e = .returned (.bool true) /\ Hid (Below w.heap.size w w') := by
 have hb0 := newq_below w (.cells #[.int .u16 H.id, .bool H.rs, .int .i64 H.op, .bool H.aa, .bool H.tc, .bool H.rd, .bool H.ra, .bool H.ad, .bool H.cd, .int .i64 H.rc, .slice x.q.a x.q.n x.q.c, .slice x.l1.a x.l1.n x.l1.c, .slice x.l2.a x.l2.n x.l2.c, .slice x.l3.a x.l3.n x.l3.c] 26)
 have HX : Hid ((w.alloc (.cells #[.int .u16 H.id, .bool H.rs, .int .i64 H.op, .bool H.aa, .bool H.tc, .bool H.rd, .bool H.ra, .bool H.ad, .bool H.cd, .int .i64 H.rc, .slice x.q.a x.q.n x.q.c, .slice x.l1.a x.l1.n x.l1.c, .slice x.l2.a x.l2.n x.l2.c, .slice x.l3.a x.l3.n x.l3.c] 26)).heap[w.heap.size]? = some (.cells #[.int .u16 H.id, .bool H.rs, .int .i64 H.op, .bool H.aa, .bool H.tc, .bool H.rd, .bool H.ra, .bool H.ad, .bool H.cd, .int .i64 H.rc, .slice x.q.a x.q.n x.q.c, .slice x.l1.a x.l1.n x.l1.c, .slice x.l2.a x.l2.n x.l2.c, .slice x.l3.a x.l3.n x.l3.c] 26)) := heap_alloc_new _ _
 have HB0 := Lib.hid hb0
 have HM : Hid (MRd (w.alloc (.cells #[.int .u16 H.id, .bool H.rs, .int .i64 H.op, .bool H.aa, .bool H.tc, .bool H.rd, .bool H.ra, .bool H.ad, .bool H.cd, .int .i64 H.rc, .slice x.q.a x.q.n x.q.c, .slice x.l1.a x.l1.n x.l1.c, .slice x.l2.a x.l2.n x.l2.c, .slice x.l3.a x.l3.n x.l3.c] 26)) H x m) := hm.below hb0
 have HS : Hid (BRd (w.alloc (.cells #[.int .u16 H.id, .bool H.rs, .int .i64 H.op, .bool H.aa, .bool H.tc, .bool H.rd, .bool H.ra, .bool H.ad, .bool H.cd, .int .i64 H.rc, .slice x.q.a x.q.n x.q.c, .slice x.l1.a x.l1.n x.l1.c, .slice x.l2.a x.l2.n x.l2.c, .slice x.l3.a x.l3.n x.l3.c] 26)) s zs) := hs.below hb0
 have HHm : Hid (m.h = H) := hm.h
 have HMb : Hid (Mb m) := hm.b
 clear hb0 hm hs
 obtain ⟨sa, sn, sc⟩ := s
 simp only at hsn HS ⊢
 go_enter Tryz.func5, Tryz.ntmps5
 go_wp2_with fail
 generalize w.alloc (.cells #[.int .u16 H.id, .bool H.rs, .int .i64 H.op, .bool H.aa, .bool H.tc, .bool H.rd, .bool H.ra, .bool H.ad, .bool H.cd, .int .i64 H.rc, .slice x.q.a x.q.n x.q.c, .slice x.l1.a x.l1.n x.l1.c, .slice x.l2.a x.l2.n x.l2.c, .slice x.l3.a x.l3.n x.l3.c] 26) = w0 at *
 obtain ⟨b, hbb⟩ : ∃ b, b = w.heap.size := ⟨_, rfl⟩
 rw [<- hbb] at HX
 simp only [<- hbb]
 clear hbb
 have KM : ∀ W, Below w0.heap.size w0 W -> W.cell? ⟨b, 0, none⟩ = some (.int .u16 H.id) /\ W.cell? ⟨b, 1, none⟩ = some (.bool H.rs) /\ W.cell? ⟨b, 2, none⟩ = some (.int .i64 H.op) /\ W.cell? ⟨b, 3, none⟩ = some (.bool H.aa) /\ W.cell? ⟨b, 4, none⟩ = some (.bool H.tc) /\ W.cell? ⟨b, 5, none⟩ = some (.bool H.rd) /\ W.cell? ⟨b, 6, none⟩ = some (.bool H.ra) /\ W.cell? ⟨b, 7, none⟩ = some (.bool H.ad) /\ W.cell? ⟨b, 8, none⟩ = some (.bool H.cd) /\ W.cell? ⟨b, 9, none⟩ = some (.int .i64 H.rc) /\ W.cell? ⟨b, 10, none⟩ = some (.slice x.q.a x.q.n x.q.c) /\ W.cell? ⟨b, 11, none⟩ = some (.slice x.l1.a x.l1.n x.l1.c) /\ W.cell? ⟨b, 12, none⟩ = some (.slice x.l2.a x.l2.n x.l2.c) /\ W.cell? ⟨b, 13, none⟩ = some (.slice x.l3.a x.l3.n x.l3.c) := fun W hb => by
   have mm := (hb.block b (box_lt HX.out)).trans HX.out
   exact ⟨box_cell mm 0 _ rfl, box_cell mm 1 _ rfl, box_cell mm 2 _ rfl, box_cell mm 3 _ rfl, box_cell mm 4 _ rfl, box_cell mm 5 _ rfl, box_cell mm 6 _ rfl, box_cell mm 7 _ rfl, box_cell mm 8 _ rfl, box_cell mm 9 _ rfl, box_cell mm 10 _ rfl, box_cell mm 11 _ rfl, box_cell mm 12 _ rfl, box_cell mm 13 _ rfl⟩
 have K28 := fun W => Lib.hid (awake10 W)
 go_wp2_with fail
 refine (K28 _).out.mono ?_
 rintro e w1 ⟨rfl, H1⟩
 obtain ⟨k0, k1, k2, k3, k4, k5, k6, k7, k8, k9, k10, k11, k12, k13⟩ := KM w1 H1.out
 have lb : b < w1.heap.size := Nat.lt_of_lt_of_le (box_lt HX.out) (Below.size H1.out)
 have K9 := Lib.hid (largeM H x m w1 (HM.out.below H1.out) ht)
 go_wp2_with fail
 refine K9.out.mono ?_
 rintro e w2 ⟨bl, rfl, H2⟩
 have HB2 : Hid (Below w0.heap.size w0 w2) := H1.out.trans (H2.out.2.mono H1.out.size)
 have HFW := Lib.hid H2.out.1
 clear k0 k1 k2 k3 k4 k5 k6 k7 k8 k9 k10 k11 k12 k13 lb
 clear K9 K28 H1 H2
 obtain ⟨k0, k1, k2, k3, k4, k5, k6, k7, k8, k9, k10, k11, k12, k13⟩ := KM w2 HB2.out
 have lb : b < w2.heap.size := Nat.lt_of_lt_of_le (box_lt HX.out) (Below.size HB2.out)
 cases bl with
 | true =>
   go_wp2
   go_ret
   exact ⟨rfl, HB0.out.trans (HB2.out.mono HB0.out.size)⟩
 | false =>
   by_cases h6 : (6000 : Int) < (sn : Int)
   · go_wp2
     go_ret
     exact ⟨rfl, HB0.out.trans (HB2.out.mono HB0.out.size)⟩
   · have HF : Hid (Fin m) := (HFW.out rfl).fin
     have K11 := Lib.hid (bytes_msg H x m w2 (HM.out.below HB2.out) HF.out)
     go_wp2_with fail
     refine K11.out.mono ?_
     rintro e w3 ⟨⟨pa, pn, pc⟩, er, rfl, H3⟩
     have HB3 : Hid (Below w0.heap.size w0 w3) := HB2.out.trans (H3.out.2.mono HB2.out.size)
     have hby := H3.out.1
     unfold ByR at hby
     clear k0 k1 k2 k3 k4 k5 k6 k7 k8 k9 k10 k11 k12 k13 lb
     clear K11 h6 HFW
     obtain ⟨k0, k1, k2, k3, k4, k5, k6, k7, k8, k9, k10, k11, k12, k13⟩ := KM w3 HB3.out
     have lb : b < w3.heap.size := Nat.lt_of_lt_of_le (box_lt HX.out) (Below.size HB3.out)
     have K16 := fun W (h : MRd W H x m) => Lib.hid (check_msg H x m W h HF.out)
     rw [if_pos hc] at hby
     simp only [hc] at K16
     rw [hpr] at hby
     obtain ⟨h1, h2⟩ := hby
     subst h1
     have hmb := msg_back (chkM_zero.1 hc) HMb.out (zs := z1.1) (pl := z1.2) hpr
     have HMB := Lib.hid hmb
     have HBT : Hid (BRd w3 ⟨pa, pn, pc⟩ z1.1) := h2
     have hpn : pn = z1.1.length := h2.len.symm
     have K24a := Lib.hid (mread_some ⟨pa, pn, pc⟩ z1.1 w3 h2 (show 1 <= pn by have := HMB.out.2.2; omega) (show pn <= 140737488355328 by have := HMB.out.2.1; omega) m HMB.out.1)
     rw [HHm.out] at K24a
     clear h2 hmb hpr hpn hc
     clear k0 k1 k2 k3 k4 k5 k6 k7 k8 k9 k10 k11 k12 k13 lb
     go_wp2_with fail
     refine K24a.out.mono ?_
     rintro e w4 ⟨x4, rfl, H4⟩
     have nb := newq_below w4 (.cells #[.int .u16 H.id, .bool H.rs, .int .i64 H.op, .bool H.aa, .bool H.tc, .bool H.rd, .bool H.ra, .bool H.ad, .bool H.cd, .int .i64 H.rc, .slice x4.q.a x4.q.n x4.q.c, .slice x4.l1.a x4.l1.n x4.l1.c, .slice x4.l2.a x4.l2.n x4.l2.c, .slice x4.l3.a x4.l3.n x4.l3.c] 26)
     have nx : (w4.alloc (.cells #[.int .u16 H.id, .bool H.rs, .int .i64 H.op, .bool H.aa, .bool H.tc, .bool H.rd, .bool H.ra, .bool H.ad, .bool H.cd, .int .i64 H.rc, .slice x4.q.a x4.q.n x4.q.c, .slice x4.l1.a x4.l1.n x4.l1.c, .slice x4.l2.a x4.l2.n x4.l2.c, .slice x4.l3.a x4.l3.n x4.l3.c] 26)).heap[w4.heap.size]? = some (.cells #[.int .u16 H.id, .bool H.rs, .int .i64 H.op, .bool H.aa, .bool H.tc, .bool H.rd, .bool H.ra, .bool H.ad, .bool H.cd, .int .i64 H.rc, .slice x4.q.a x4.q.n x4.q.c, .slice x4.l1.a x4.l1.n x4.l1.c, .slice x4.l2.a x4.l2.n x4.l2.c, .slice x4.l3.a x4.l3.n x4.l3.c] 26) := heap_alloc_new _ _
     have HB5 : Hid (Below w0.heap.size w0 (w4.alloc (.cells #[.int .u16 H.id, .bool H.rs, .int .i64 H.op, .bool H.aa, .bool H.tc, .bool H.rd, .bool H.ra, .bool H.ad, .bool H.cd, .int .i64 H.rc, .slice x4.q.a x4.q.n x4.q.c, .slice x4.l1.a x4.l1.n x4.l1.c, .slice x4.l2.a x4.l2.n x4.l2.c, .slice x4.l3.a x4.l3.n x4.l3.c] 26))) := (HB3.out.trans (H4.out.2.2.mono HB3.out.size)).trans (nb.mono (Nat.le_trans HB3.out.size H4.out.2.2.size))
     have M4 : Hid (MRd (w4.alloc (.cells #[.int .u16 H.id, .bool H.rs, .int .i64 H.op, .bool H.aa, .bool H.tc, .bool H.rd, .bool H.ra, .bool H.ad, .bool H.cd, .int .i64 H.rc, .slice x4.q.a x4.q.n x4.q.c, .slice x4.l1.a x4.l1.n x4.l1.c, .slice x4.l2.a x4.l2.n x4.l2.c, .slice x4.l3.a x4.l3.n x4.l3.c] 26)) H x4 m) := H4.out.2.1.below nb
     have X4 := Lib.hid nx
     clear nb nx K24a
     go_upto_region 7 with fail
     generalize w4.alloc (.cells #[.int .u16 H.id, .bool H.rs, .int .i64 H.op, .bool H.aa, .bool H.tc, .bool H.rd, .bool H.ra, .bool H.ad, .bool H.cd, .int .i64 H.rc, .slice x4.q.a x4.q.n x4.q.c, .slice x4.l1.a x4.l1.n x4.l1.c, .slice x4.l2.a x4.l2.n x4.l2.c, .slice x4.l3.a x4.l3.n x4.l3.c] 26) = w5 at *
     obtain ⟨c4, hc4⟩ : ∃ c4, c4 = w4.heap.size := ⟨_, rfl⟩
     rw [<- hc4] at X4
     simp only [<- hc4]
     clear hc4
     have i0 := box_cell X4.out 0 _ rfl; have i1 := box_cell X4.out 1 _ rfl; have i2 := box_cell X4.out 2 _ rfl; have i3 := box_cell X4.out 3 _ rfl; have i4 := box_cell X4.out 4 _ rfl; have i5 := box_cell X4.out 5 _ rfl; have i6 := box_cell X4.out 6 _ rfl; have i7 := box_cell X4.out 7 _ rfl; have i8 := box_cell X4.out 8 _ rfl; have i9 := box_cell X4.out 9 _ rfl; have i10 := box_cell X4.out 10 _ rfl; have i11 := box_cell X4.out 11 _ rfl; have i12 := box_cell X4.out 12 _ rfl; have i13 := box_cell X4.out 13 _ rfl; have il := box_lt X4.out
     obtain ⟨k0, k1, k2, k3, k4, k5, k6, k7, k8, k9, k10, k11, k12, k13⟩ := KM w5 HB5.out
     have lb : b < w5.heap.size := Nat.lt_of_lt_of_le (box_lt HX.out) (Below.size HB5.out)
     have K20 := Lib.hid (same_msg H x4 x m w5 M4.out (HM.out.below HB5.out))
     go_wp2_with fail
     refine K20.out.mono ?_
     rintro e w6 ⟨rfl, H6⟩
     have HB6 : Hid (Below w0.heap.size w0 w6) := HB5.out.trans (H6.out.mono HB5.out.size)
     clear i0 i1 i2 i3 i4 i5 i6 i7 i8 i9 i10 i11 i12 i13 il K20
     clear k0 k1 k2 k3 k4 k5 k6 k7 k8 k9 k10 k11 k12 k13 lb
     obtain ⟨k0, k1, k2, k3, k4, k5, k6, k7, k8, k9, k10, k11, k12, k13⟩ := KM w6 HB6.out
     have lb : b < w6.heap.size := Nat.lt_of_lt_of_le (box_lt HX.out) (Below.size HB6.out)
     go_wp2_with fail
     refine (K16 _ (HM.out.below HB6.out)).out.mono ?_
     rintro e w7 ⟨rfl, H7⟩
     have HB7 : Hid (Below w0.heap.size w0 w7) := HB6.out.trans (H7.out.mono HB6.out.size)
     clear k0 k1 k2 k3 k4 k5 k6 k7 k8 k9 k10 k11 k12 k13 lb
     clear K16 H7
     go_upto_region 11 with fail
     have HBW : Hid (Below w0.heap.size w0 w7) := HB7.out
     have HS2 : Hid (BRd w7 ⟨sa, sn, sc⟩ zs) := HS.out.below HBW.out
     cases hg : gmsg zs with
     | none =>
       have K24 := Lib.hid (mread_none0 ⟨sa, sn, sc⟩ zs w7 HS2.out (show sn <= 140737488355328 by omega) hg)
       simp only [zeroM] at K24
       clear hg
       go_wp2_with fail
       refine K24.out.mono ?_
       rintro e u1 ⟨rfl, U1⟩
       have HU1 : Hid (Below w0.heap.size w0 (u1.alloc (.cells #[.int .u16 0, .bool false, .int .i64 0, .bool false, .bool false, .bool false, .bool false, .bool false, .bool false, .int .i64 0, .slice none 0 0, .slice none 0 0, .slice none 0 0, .slice none 0 0] 26))) := (HBW.out.trans (U1.out.mono HBW.out.size)).trans ((newq_below _ _).mono (Nat.le_trans HBW.out.size U1.out.size))
       clear K24
       go_wp2
       go_ret
       exact ⟨rfl, HB0.out.trans (HU1.out.mono HB0.out.size)⟩
     | some m2 =>
       have hsd := msg_sound HS2.out.rd.2 hg
       have hne : 1 <= sn := by
         rcases Nat.eq_zero_or_pos sn with h | h
         · have hz : zs = [] := List.length_eq_zero_iff.1 (HS2.out.len.trans h)
           rw [hz, gmsg_nil] at hg
           cases hg
         · exact h
       have K24 := Lib.hid (mread_some ⟨sa, sn, sc⟩ zs w7 HS2.out hne (show sn <= 140737488355328 by omega) m2 hg)
       have HOK : Hid (ChkOk m2 /\ Mb m2) := hsd
       obtain ⟨H2, hH2⟩ : ∃ H2, H2 = m2.h := ⟨_, rfl⟩
       have HH2 : Hid (H2 = m2.h) := hH2
       rw [<- hH2] at K24
       clear hg hsd hne hH2
       go_wp2_with fail
       refine K24.out.mono ?_
       rintro e u1 ⟨x5, rfl, U1⟩
       have nb := newq_below u1 (.cells #[.int .u16 H2.id, .bool H2.rs, .int .i64 H2.op, .bool H2.aa, .bool H2.tc, .bool H2.rd, .bool H2.ra, .bool H2.ad, .bool H2.cd, .int .i64 H2.rc, .slice x5.q.a x5.q.n x5.q.c, .slice x5.l1.a x5.l1.n x5.l1.c, .slice x5.l2.a x5.l2.n x5.l2.c, .slice x5.l3.a x5.l3.n x5.l3.c] 26)
       have nx : (u1.alloc (.cells #[.int .u16 H2.id, .bool H2.rs, .int .i64 H2.op, .bool H2.aa, .bool H2.tc, .bool H2.rd, .bool H2.ra, .bool H2.ad, .bool H2.cd, .int .i64 H2.rc, .slice x5.q.a x5.q.n x5.q.c, .slice x5.l1.a x5.l1.n x5.l1.c, .slice x5.l2.a x5.l2.n x5.l2.c, .slice x5.l3.a x5.l3.n x5.l3.c] 26)).heap[u1.heap.size]? = some (.cells #[.int .u16 H2.id, .bool H2.rs, .int .i64 H2.op, .bool H2.aa, .bool H2.tc, .bool H2.rd, .bool H2.ra, .bool H2.ad, .bool H2.cd, .int .i64 H2.rc, .slice x5.q.a x5.q.n x5.q.c, .slice x5.l1.a x5.l1.n x5.l1.c, .slice x5.l2.a x5.l2.n x5.l2.c, .slice x5.l3.a x5.l3.n x5.l3.c] 26) := heap_alloc_new _ _
       have HU2 : Hid (Below w0.heap.size w0 (u1.alloc (.cells #[.int .u16 H2.id, .bool H2.rs, .int .i64 H2.op, .bool H2.aa, .bool H2.tc, .bool H2.rd, .bool H2.ra, .bool H2.ad, .bool H2.cd, .int .i64 H2.rc, .slice x5.q.a x5.q.n x5.q.c, .slice x5.l1.a x5.l1.n x5.l1.c, .slice x5.l2.a x5.l2.n x5.l2.c, .slice x5.l3.a x5.l3.n x5.l3.c] 26))) := (HBW.out.trans (U1.out.2.2.mono HBW.out.size)).trans (nb.mono (Nat.le_trans HBW.out.size U1.out.2.2.size))
       have M5 : Hid (MRd (u1.alloc (.cells #[.int .u16 H2.id, .bool H2.rs, .int .i64 H2.op, .bool H2.aa, .bool H2.tc, .bool H2.rd, .bool H2.ra, .bool H2.ad, .bool H2.cd, .int .i64 H2.rc, .slice x5.q.a x5.q.n x5.q.c, .slice x5.l1.a x5.l1.n x5.l1.c, .slice x5.l2.a x5.l2.n x5.l2.c, .slice x5.l3.a x5.l3.n x5.l3.c] 26)) H2 x5 m2) := U1.out.2.1.below nb
       have X5 := Lib.hid nx
       clear nb nx K24
       go_upto_region 14 with fail
       generalize u1.alloc (.cells #[.int .u16 H2.id, .bool H2.rs, .int .i64 H2.op, .bool H2.aa, .bool H2.tc, .bool H2.rd, .bool H2.ra, .bool H2.ad, .bool H2.cd, .int .i64 H2.rc, .slice x5.q.a x5.q.n x5.q.c, .slice x5.l1.a x5.l1.n x5.l1.c, .slice x5.l2.a x5.l2.n x5.l2.c, .slice x5.l3.a x5.l3.n x5.l3.c] 26) = u2 at *
       obtain ⟨q, hq⟩ : ∃ q, q = u1.heap.size := ⟨_, rfl⟩
       rw [<- hq] at X5
       simp only [<- hq]
       clear hq
       have j0 := box_cell X5.out 0 _ rfl; have j1 := box_cell X5.out 1 _ rfl; have j2 := box_cell X5.out 2 _ rfl; have j3 := box_cell X5.out 3 _ rfl; have j4 := box_cell X5.out 4 _ rfl; have j5 := box_cell X5.out 5 _ rfl; have j6 := box_cell X5.out 6 _ rfl; have j7 := box_cell X5.out 7 _ rfl; have j8 := box_cell X5.out 8 _ rfl; have j9 := box_cell X5.out 9 _ rfl; have j10 := box_cell X5.out 10 _ rfl; have j11 := box_cell X5.out 11 _ rfl; have j12 := box_cell X5.out 12 _ rfl; have j13 := box_cell X5.out 13 _ rfl; have jl := box_lt X5.out
       have K11 := Lib.hid (bytes_msg H2 x5 m2 u2 M5.out HOK.out.1.fin)
       go_wp2_with fail
       refine K11.out.mono ?_
       rintro e u3 ⟨⟨ta, tn, tc⟩, er, rfl, U3⟩
       have HU3 : Hid (Below w0.heap.size w0 u3) := HU2.out.trans (U3.out.2.mono HU2.out.size)
       have M5b : Hid (MRd u3 H2 x5 m2) := M5.out.below U3.out.2
       have X5b : Hid (u3.heap[q]? = some (.cells #[.int .u16 H2.id, .bool H2.rs, .int .i64 H2.op, .bool H2.aa, .bool H2.tc, .bool H2.rd, .bool H2.ra, .bool H2.ad, .bool H2.cd, .int .i64 H2.rc, .slice x5.q.a x5.q.n x5.q.c, .slice x5.l1.a x5.l1.n x5.l1.c, .slice x5.l2.a x5.l2.n x5.l2.c, .slice x5.l3.a x5.l3.n x5.l3.c] 26)) := (U3.out.2.block q (box_lt X5.out)).trans X5.out
       have hby := U3.out.1
       unfold ByR at hby
       rw [if_pos (chkM_zero.2 HOK.out.1)] at hby
       clear j0 j1 j2 j3 j4 j5 j6 j7 j8 j9 j10 j11 j12 j13 jl
       clear K11
       have j0 := box_cell X5b.out 0 _ rfl; have j1 := box_cell X5b.out 1 _ rfl; have j2 := box_cell X5b.out 2 _ rfl; have j3 := box_cell X5b.out 3 _ rfl; have j4 := box_cell X5b.out 4 _ rfl; have j5 := box_cell X5b.out 5 _ rfl; have j6 := box_cell X5b.out 6 _ rfl; have j7 := box_cell X5b.out 7 _ rfl; have j8 := box_cell X5b.out 8 _ rfl; have j9 := box_cell X5b.out 9 _ rfl; have j10 := box_cell X5b.out 10 _ rfl; have j11 := box_cell X5b.out 11 _ rfl; have j12 := box_cell X5b.out 12 _ rfl; have j13 := box_cell X5b.out 13 _ rfl; have jl := box_lt X5b.out
       have K16 := fun W (h : MRd W H2 x5 m2) => Lib.hid (check_msg H2 x5 m2 W h HOK.out.1.fin)
       simp only [chkM_zero.2 HOK.out.1] at K16
       cases hpr : prun (pmsg m2) (some ([], [])) with
       | none =>
         rw [hpr] at hby
         obtain ⟨h1, h2⟩ := hby
         subst h1
         clear h2 hpr
         go_wp2_with fail
         refine (K16 _ M5b.out).out.mono ?_
         rintro e u4 ⟨rfl, U4⟩
         have HU4 : Hid (Below w0.heap.size w0 u4) := HU3.out.trans (U4.out.mono HU3.out.size)
         have M5c : Hid (MRd u4 H2 x5 m2) := M5b.out.below U4.out
         have X5c : Hid (u4.heap[q]? = some (.cells #[.int .u16 H2.id, .bool H2.rs, .int .i64 H2.op, .bool H2.aa, .bool H2.tc, .bool H2.rd, .bool H2.ra, .bool H2.ad, .bool H2.cd, .int .i64 H2.rc, .slice x5.q.a x5.q.n x5.q.c, .slice x5.l1.a x5.l1.n x5.l1.c, .slice x5.l2.a x5.l2.n x5.l2.c, .slice x5.l3.a x5.l3.n x5.l3.c] 26)) := (U4.out.block q (box_lt X5b.out)).trans X5b.out
         clear j0 j1 j2 j3 j4 j5 j6 j7 j8 j9 j10 j11 j12 j13 jl
         have j0 := box_cell X5c.out 0 _ rfl; have j1 := box_cell X5c.out 1 _ rfl; have j2 := box_cell X5c.out 2 _ rfl; have j3 := box_cell X5c.out 3 _ rfl; have j4 := box_cell X5c.out 4 _ rfl; have j5 := box_cell X5c.out 5 _ rfl; have j6 := box_cell X5c.out 6 _ rfl; have j7 := box_cell X5c.out 7 _ rfl; have j8 := box_cell X5c.out 8 _ rfl; have j9 := box_cell X5c.out 9 _ rfl; have j10 := box_cell X5c.out 10 _ rfl; have j11 := box_cell X5c.out 11 _ rfl; have j12 := box_cell X5c.out 12 _ rfl; have j13 := box_cell X5c.out 13 _ rfl; have jl := box_lt X5c.out
         go_wp2_with fail
         refine (K16 _ M5c.out).out.mono ?_
         rintro e u5 ⟨rfl, U5⟩
         have HU5 : Hid (Below w0.heap.size w0 u5) := HU4.out.trans (U5.out.mono HU4.out.size)
         go_wp2
         go_ret
         exact ⟨rfl, HB0.out.trans (HU5.out.mono HB0.out.size)⟩
       | some z2 =>
         rw [hpr] at hby
         obtain ⟨h1, h2⟩ := hby
         subst h1
         have hmb := msg_back HOK.out.1 HOK.out.2 (zs := z2.1) (pl := z2.2) hpr
         have HMB := Lib.hid hmb
         have HBT : Hid (BRd u3 ⟨ta, tn, tc⟩ z2.1) := h2
         clear h2 hmb hpr
         go_wp2_with fail
         refine (K16 _ M5b.out).out.mono ?_
         rintro e u4 ⟨rfl, U4⟩
         have HU4 : Hid (Below w0.heap.size w0 u4) := HU3.out.trans (U4.out.mono HU3.out.size)
         have M5c : Hid (MRd u4 H2 x5 m2) := M5b.out.below U4.out
         have X5c : Hid (u4.heap[q]? = some (.cells #[.int .u16 H2.id, .bool H2.rs, .int .i64 H2.op, .bool H2.aa, .bool H2.tc, .bool H2.rd, .bool H2.ra, .bool H2.ad, .bool H2.cd, .int .i64 H2.rc, .slice x5.q.a x5.q.n x5.q.c, .slice x5.l1.a x5.l1.n x5.l1.c, .slice x5.l2.a x5.l2.n x5.l2.c, .slice x5.l3.a x5.l3.n x5.l3.c] 26)) := (U4.out.block q (box_lt X5b.out)).trans X5b.out
         have HB4 := Lib.hid (HBT.out.below U4.out)
         have htn : tn = z2.1.length := HBT.out.len.symm
         have K25 := Lib.hid (mread_some ⟨ta, tn, tc⟩ z2.1 u4 HB4.out (show 1 <= tn by have := HMB.out.2.2; omega) (show tn <= 140737488355328 by have := HMB.out.2.1; omega) m2 HMB.out.1)
         rw [<- HH2.out] at K25
         clear htn
         clear j0 j1 j2 j3 j4 j5 j6 j7 j8 j9 j10 j11 j12 j13 jl
         go_wp2_with fail
         refine K25.out.mono ?_
         rintro e u5 ⟨x6, rfl, U5⟩
         have nb := newq_below u5 (.cells #[.int .u16 H2.id, .bool H2.rs, .int .i64 H2.op, .bool H2.aa, .bool H2.tc, .bool H2.rd, .bool H2.ra, .bool H2.ad, .bool H2.cd, .int .i64 H2.rc, .slice x6.q.a x6.q.n x6.q.c, .slice x6.l1.a x6.l1.n x6.l1.c, .slice x6.l2.a x6.l2.n x6.l2.c, .slice x6.l3.a x6.l3.n x6.l3.c] 26)
         have nx : (u5.alloc (.cells #[.int .u16 H2.id, .bool H2.rs, .int .i64 H2.op, .bool H2.aa, .bool H2.tc, .bool H2.rd, .bool H2.ra, .bool H2.ad, .bool H2.cd, .int .i64 H2.rc, .slice x6.q.a x6.q.n x6.q.c, .slice x6.l1.a x6.l1.n x6.l1.c, .slice x6.l2.a x6.l2.n x6.l2.c, .slice x6.l3.a x6.l3.n x6.l3.c] 26)).heap[u5.heap.size]? = some (.cells #[.int .u16 H2.id, .bool H2.rs, .int .i64 H2.op, .bool H2.aa, .bool H2.tc, .bool H2.rd, .bool H2.ra, .bool H2.ad, .bool H2.cd, .int .i64 H2.rc, .slice x6.q.a x6.q.n x6.q.c, .slice x6.l1.a x6.l1.n x6.l1.c, .slice x6.l2.a x6.l2.n x6.l2.c, .slice x6.l3.a x6.l3.n x6.l3.c] 26) := heap_alloc_new _ _
         have HN5 : Hid (Below u4.heap.size u4 (u5.alloc (.cells #[.int .u16 H2.id, .bool H2.rs, .int .i64 H2.op, .bool H2.aa, .bool H2.tc, .bool H2.rd, .bool H2.ra, .bool H2.ad, .bool H2.cd, .int .i64 H2.rc, .slice x6.q.a x6.q.n x6.q.c, .slice x6.l1.a x6.l1.n x6.l1.c, .slice x6.l2.a x6.l2.n x6.l2.c, .slice x6.l3.a x6.l3.n x6.l3.c] 26))) := U5.out.2.2.trans (nb.mono U5.out.2.2.size)
         have HU6 : Hid (Below w0.heap.size w0 (u5.alloc (.cells #[.int .u16 H2.id, .bool H2.rs, .int .i64 H2.op, .bool H2.aa, .bool H2.tc, .bool H2.rd, .bool H2.ra, .bool H2.ad, .bool H2.cd, .int .i64 H2.rc, .slice x6.q.a x6.q.n x6.q.c, .slice x6.l1.a x6.l1.n x6.l1.c, .slice x6.l2.a x6.l2.n x6.l2.c, .slice x6.l3.a x6.l3.n x6.l3.c] 26))) := HU4.out.trans (HN5.out.mono HU4.out.size)
         have M6 : Hid (MRd (u5.alloc (.cells #[.int .u16 H2.id, .bool H2.rs, .int .i64 H2.op, .bool H2.aa, .bool H2.tc, .bool H2.rd, .bool H2.ra, .bool H2.ad, .bool H2.cd, .int .i64 H2.rc, .slice x6.q.a x6.q.n x6.q.c, .slice x6.l1.a x6.l1.n x6.l1.c, .slice x6.l2.a x6.l2.n x6.l2.c, .slice x6.l3.a x6.l3.n x6.l3.c] 26)) H2 x6 m2) := U5.out.2.1.below nb
         have M5d : Hid (MRd (u5.alloc (.cells #[.int .u16 H2.id, .bool H2.rs, .int .i64 H2.op, .bool H2.aa, .bool H2.tc, .bool H2.rd, .bool H2.ra, .bool H2.ad, .bool H2.cd, .int .i64 H2.rc, .slice x6.q.a x6.q.n x6.q.c, .slice x6.l1.a x6.l1.n x6.l1.c, .slice x6.l2.a x6.l2.n x6.l2.c, .slice x6.l3.a x6.l3.n x6.l3.c] 26)) H2 x5 m2) := M5c.out.below HN5.out
         have X6 := Lib.hid nx
         have X5d : Hid ((u5.alloc (.cells #[.int .u16 H2.id, .bool H2.rs, .int .i64 H2.op, .bool H2.aa, .bool H2.tc, .bool H2.rd, .bool H2.ra, .bool H2.ad, .bool H2.cd, .int .i64 H2.rc, .slice x6.q.a x6.q.n x6.q.c, .slice x6.l1.a x6.l1.n x6.l1.c, .slice x6.l2.a x6.l2.n x6.l2.c, .slice x6.l3.a x6.l3.n x6.l3.c] 26)).heap[q]? = some (.cells #[.int .u16 H2.id, .bool H2.rs, .int .i64 H2.op, .bool H2.aa, .bool H2.tc, .bool H2.rd, .bool H2.ra, .bool H2.ad, .bool H2.cd, .int .i64 H2.rc, .slice x5.q.a x5.q.n x5.q.c, .slice x5.l1.a x5.l1.n x5.l1.c, .slice x5.l2.a x5.l2.n x5.l2.c, .slice x5.l3.a x5.l3.n x5.l3.c] 26)) := (HN5.out.block q (box_lt X5c.out)).trans X5c.out
         clear nb nx K25
         go_upto_region 18 with fail
         generalize u5.alloc (.cells #[.int .u16 H2.id, .bool H2.rs, .int .i64 H2.op, .bool H2.aa, .bool H2.tc, .bool H2.rd, .bool H2.ra, .bool H2.ad, .bool H2.cd, .int .i64 H2.rc, .slice x6.q.a x6.q.n x6.q.c, .slice x6.l1.a x6.l1.n x6.l1.c, .slice x6.l2.a x6.l2.n x6.l2.c, .slice x6.l3.a x6.l3.n x6.l3.c] 26) = u6 at *
         obtain ⟨q2, hq2⟩ : ∃ q2, q2 = u5.heap.size := ⟨_, rfl⟩
         rw [<- hq2] at X6
         simp only [<- hq2]
         clear hq2
         have j0 := box_cell X5d.out 0 _ rfl; have j1 := box_cell X5d.out 1 _ rfl; have j2 := box_cell X5d.out 2 _ rfl; have j3 := box_cell X5d.out 3 _ rfl; have j4 := box_cell X5d.out 4 _ rfl; have j5 := box_cell X5d.out 5 _ rfl; have j6 := box_cell X5d.out 6 _ rfl; have j7 := box_cell X5d.out 7 _ rfl; have j8 := box_cell X5d.out 8 _ rfl; have j9 := box_cell X5d.out 9 _ rfl; have j10 := box_cell X5d.out 10 _ rfl; have j11 := box_cell X5d.out 11 _ rfl; have j12 := box_cell X5d.out 12 _ rfl; have j13 := box_cell X5d.out 13 _ rfl; have jl := box_lt X5d.out
         have i0 := box_cell X6.out 0 _ rfl; have i1 := box_cell X6.out 1 _ rfl; have i2 := box_cell X6.out 2 _ rfl; have i3 := box_cell X6.out 3 _ rfl; have i4 := box_cell X6.out 4 _ rfl; have i5 := box_cell X6.out 5 _ rfl; have i6 := box_cell X6.out 6 _ rfl; have i7 := box_cell X6.out 7 _ rfl; have i8 := box_cell X6.out 8 _ rfl; have i9 := box_cell X6.out 9 _ rfl; have i10 := box_cell X6.out 10 _ rfl; have i11 := box_cell X6.out 11 _ rfl; have i12 := box_cell X6.out 12 _ rfl; have i13 := box_cell X6.out 13 _ rfl; have il := box_lt X6.out
         have K20 := Lib.hid (same_msg H2 x6 x5 m2 u6 M6.out M5d.out)
         go_wp2_with fail
         refine K20.out.mono ?_
         rintro e u7 ⟨rfl, U7⟩
         have HU7 : Hid (Below w0.heap.size w0 u7) := HU6.out.trans (U7.out.mono HU6.out.size)
         go_wp2
         go_ret
         exact ⟨rfl, HB0.out.trans (HU7.out.mono HB0.out.size)⟩
end Go.Proofs.YteplffhfeoephaaGreat
namespace Go.Proofs.YteplffhfeoephaaGreat
open Go.ChangeShapes Go.WideShapes Go.ChangeAt Go.RowKit Go.Maps
set_option maxHeartbeats 16000000 in
theorem backM3 (H : Hd) (x : MA) (m : Mg) (s : Sl) (zs : List Int) (w : World) (hm : MRd w H x m) (ht : x.l1.n + x.l2.n + x.l3.n <= 2000000) (hs : BRd w s zs) (hsn : s.n <= 2000000) (hc : ¬ chkM m = 0) : Calls Tryz.prog 5 #[.agg #[.int .u16 H.id, .bool H.rs, .int .i64 H.op, .bool H.aa, .bool H.tc, .bool H.rd, .bool H.ra, .bool H.ad, .bool H.cd, .int .i64 H.rc, .slice x.q.a x.q.n x.q.c, .slice x.l1.a x.l1.n x.l1.c, .slice x.l2.a x.l2.n x.l2.c, .slice x.l3.a x.l3.n x.l3.c], .slice s.a s.n s.c] w fun e w' => e = .returned (.bool true) /\ Hid (Below w.heap.size w w') := by
 have hb0 := newq_below w (.cells #[.int .u16 H.id, .bool H.rs, .int .i64 H.op, .bool H.aa, .bool H.tc, .bool H.rd, .bool H.ra, .bool H.ad, .bool H.cd, .int .i64 H.rc, .slice x.q.a x.q.n x.q.c, .slice x.l1.a x.l1.n x.l1.c, .slice x.l2.a x.l2.n x.l2.c, .slice x.l3.a x.l3.n x.l3.c] 26)
 have HX : Hid ((w.alloc (.cells #[.int .u16 H.id, .bool H.rs, .int .i64 H.op, .bool H.aa, .bool H.tc, .bool H.rd, .bool H.ra, .bool H.ad, .bool H.cd, .int .i64 H.rc, .slice x.q.a x.q.n x.q.c, .slice x.l1.a x.l1.n x.l1.c, .slice x.l2.a x.l2.n x.l2.c, .slice x.l3.a x.l3.n x.l3.c] 26)).heap[w.heap.size]? = some (.cells #[.int .u16 H.id, .bool H.rs, .int .i64 H.op, .bool H.aa, .bool H.tc, .bool H.rd, .bool H.ra, .bool H.ad, .bool H.cd, .int .i64 H.rc, .slice x.q.a x.q.n x.q.c, .slice x.l1.a x.l1.n x.l1.c, .slice x.l2.a x.l2.n x.l2.c, .slice x.l3.a x.l3.n x.l3.c] 26)) := heap_alloc_new _ _
 have HB0 := Lib.hid hb0
 have HM : Hid (MRd (w.alloc (.cells #[.int .u16 H.id, .bool H.rs, .int .i64 H.op, .bool H.aa, .bool H.tc, .bool H.rd, .bool H.ra, .bool H.ad, .bool H.cd, .int .i64 H.rc, .slice x.q.a x.q.n x.q.c, .slice x.l1.a x.l1.n x.l1.c, .slice x.l2.a x.l2.n x.l2.c, .slice x.l3.a x.l3.n x.l3.c] 26)) H x m) := hm.below hb0
 have HS : Hid (BRd (w.alloc (.cells #[.int .u16 H.id, .bool H.rs, .int .i64 H.op, .bool H.aa, .bool H.tc, .bool H.rd, .bool H.ra, .bool H.ad, .bool H.cd, .int .i64 H.rc, .slice x.q.a x.q.n x.q.c, .slice x.l1.a x.l1.n x.l1.c, .slice x.l2.a x.l2.n x.l2.c, .slice x.l3.a x.l3.n x.l3.c] 26)) s zs) := hs.below hb0
 have HHm : Hid (m.h = H) := hm.h
 have HMb : Hid (Mb m) := hm.b
 clear hb0 hm hs
 obtain ⟨sa, sn, sc⟩ := s
 simp only at hsn HS ⊢
 go_enter Tryz.func5, Tryz.ntmps5
 go_wp2_with fail
 generalize w.alloc (.cells #[.int .u16 H.id, .bool H.rs, .int .i64 H.op, .bool H.aa, .bool H.tc, .bool H.rd, .bool H.ra, .bool H.ad, .bool H.cd, .int .i64 H.rc, .slice x.q.a x.q.n x.q.c, .slice x.l1.a x.l1.n x.l1.c, .slice x.l2.a x.l2.n x.l2.c, .slice x.l3.a x.l3.n x.l3.c] 26) = w0 at *
 obtain ⟨b, hbb⟩ : ∃ b, b = w.heap.size := ⟨_, rfl⟩
 rw [<- hbb] at HX
 simp only [<- hbb]
 clear hbb
 have KM : ∀ W, Below w0.heap.size w0 W -> W.cell? ⟨b, 0, none⟩ = some (.int .u16 H.id) /\ W.cell? ⟨b, 1, none⟩ = some (.bool H.rs) /\ W.cell? ⟨b, 2, none⟩ = some (.int .i64 H.op) /\ W.cell? ⟨b, 3, none⟩ = some (.bool H.aa) /\ W.cell? ⟨b, 4, none⟩ = some (.bool H.tc) /\ W.cell? ⟨b, 5, none⟩ = some (.bool H.rd) /\ W.cell? ⟨b, 6, none⟩ = some (.bool H.ra) /\ W.cell? ⟨b, 7, none⟩ = some (.bool H.ad) /\ W.cell? ⟨b, 8, none⟩ = some (.bool H.cd) /\ W.cell? ⟨b, 9, none⟩ = some (.int .i64 H.rc) /\ W.cell? ⟨b, 10, none⟩ = some (.slice x.q.a x.q.n x.q.c) /\ W.cell? ⟨b, 11, none⟩ = some (.slice x.l1.a x.l1.n x.l1.c) /\ W.cell? ⟨b, 12, none⟩ = some (.slice x.l2.a x.l2.n x.l2.c) /\ W.cell? ⟨b, 13, none⟩ = some (.slice x.l3.a x.l3.n x.l3.c) := fun W hb => by
   have mm := (hb.block b (box_lt HX.out)).trans HX.out
   exact ⟨box_cell mm 0 _ rfl, box_cell mm 1 _ rfl, box_cell mm 2 _ rfl, box_cell mm 3 _ rfl, box_cell mm 4 _ rfl, box_cell mm 5 _ rfl, box_cell mm 6 _ rfl, box_cell mm 7 _ rfl, box_cell mm 8 _ rfl, box_cell mm 9 _ rfl, box_cell mm 10 _ rfl, box_cell mm 11 _ rfl, box_cell mm 12 _ rfl, box_cell mm 13 _ rfl⟩
 have K28 := fun W => Lib.hid (awake10 W)
 go_wp2_with fail
 refine (K28 _).out.mono ?_
 rintro e w1 ⟨rfl, H1⟩
 obtain ⟨k0, k1, k2, k3, k4, k5, k6, k7, k8, k9, k10, k11, k12, k13⟩ := KM w1 H1.out
 have lb : b < w1.heap.size := Nat.lt_of_lt_of_le (box_lt HX.out) (Below.size H1.out)
 have K9 := Lib.hid (largeM H x m w1 (HM.out.below H1.out) ht)
 go_wp2_with fail
 refine K9.out.mono ?_
 rintro e w2 ⟨bl, rfl, H2⟩
 have HB2 : Hid (Below w0.heap.size w0 w2) := H1.out.trans (H2.out.2.mono H1.out.size)
 have HFW := Lib.hid H2.out.1
 clear k0 k1 k2 k3 k4 k5 k6 k7 k8 k9 k10 k11 k12 k13 lb
 clear K9 K28 H1 H2
 obtain ⟨k0, k1, k2, k3, k4, k5, k6, k7, k8, k9, k10, k11, k12, k13⟩ := KM w2 HB2.out
 have lb : b < w2.heap.size := Nat.lt_of_lt_of_le (box_lt HX.out) (Below.size HB2.out)
 cases bl with
 | true =>
   go_wp2
   go_ret
   exact ⟨rfl, HB0.out.trans (HB2.out.mono HB0.out.size)⟩
 | false =>
   by_cases h6 : (6000 : Int) < (sn : Int)
   · go_wp2
     go_ret
     exact ⟨rfl, HB0.out.trans (HB2.out.mono HB0.out.size)⟩
   · have HF : Hid (Fin m) := (HFW.out rfl).fin
     have K11 := Lib.hid (bytes_msg H x m w2 (HM.out.below HB2.out) HF.out)
     go_wp2_with fail
     refine K11.out.mono ?_
     rintro e w3 ⟨⟨pa, pn, pc⟩, er, rfl, H3⟩
     have HB3 : Hid (Below w0.heap.size w0 w3) := HB2.out.trans (H3.out.2.mono HB2.out.size)
     have hby := H3.out.1
     unfold ByR at hby
     clear k0 k1 k2 k3 k4 k5 k6 k7 k8 k9 k10 k11 k12 k13 lb
     clear K11 h6 HFW
     obtain ⟨k0, k1, k2, k3, k4, k5, k6, k7, k8, k9, k10, k11, k12, k13⟩ := KM w3 HB3.out
     have lb : b < w3.heap.size := Nat.lt_of_lt_of_le (box_lt HX.out) (Below.size HB3.out)
     have K16 := fun W (h : MRd W H x m) => Lib.hid (check_msg H x m W h HF.out)
     rw [if_neg hc] at hby
     obtain ⟨h1, h2⟩ := hby
     generalize hq0 : chkM m = q0 at *
     subst h1
     have hqb : (er == 0) = false := by simp [hc]
     have hqe : (er != er) = false := by simp
     clear h2 hq0
     go_wp2_with fail
     refine (K16 _ (HM.out.below HB3.out)).out.mono ?_
     rintro e w4 ⟨rfl, H4⟩
     have HB4 : Hid (Below w0.heap.size w0 w4) := HB3.out.trans (H4.out.mono HB3.out.size)
     clear k0 k1 k2 k3 k4 k5 k6 k7 k8 k9 k10 k11 k12 k13 lb
     clear K16 H4
     go_upto_region 11 with fail
     have HBW : Hid (Below w0.heap.size w0 w4) := HB4.out
     have HS2 : Hid (BRd w4 ⟨sa, sn, sc⟩ zs) := HS.out.below HBW.out
     cases hg : gmsg zs with
     | none =>
       have K24 := Lib.hid (mread_none0 ⟨sa, sn, sc⟩ zs w4 HS2.out (show sn <= 140737488355328 by omega) hg)
       simp only [zeroM] at K24
       clear hg
       go_wp2_with fail
       refine K24.out.mono ?_
       rintro e u1 ⟨rfl, U1⟩
       have HU1 : Hid (Below w0.heap.size w0 (u1.alloc (.cells #[.int .u16 0, .bool false, .int .i64 0, .bool false, .bool false, .bool false, .bool false, .bool false, .bool false, .int .i64 0, .slice none 0 0, .slice none 0 0, .slice none 0 0, .slice none 0 0] 26))) := (HBW.out.trans (U1.out.mono HBW.out.size)).trans ((newq_below _ _).mono (Nat.le_trans HBW.out.size U1.out.size))
       clear K24
       go_wp2
       go_ret
       exact ⟨rfl, HB0.out.trans (HU1.out.mono HB0.out.size)⟩
     | some m2 =>
       have hsd := msg_sound HS2.out.rd.2 hg
       have hne : 1 <= sn := by
         rcases Nat.eq_zero_or_pos sn with h | h
         · have hz : zs = [] := List.length_eq_zero_iff.1 (HS2.out.len.trans h)
           rw [hz, gmsg_nil] at hg
           cases hg
         · exact h
       have K24 := Lib.hid (mread_some ⟨sa, sn, sc⟩ zs w4 HS2.out hne (show sn <= 140737488355328 by omega) m2 hg)
       have HOK : Hid (ChkOk m2 /\ Mb m2) := hsd
       obtain ⟨H2, hH2⟩ : ∃ H2, H2 = m2.h := ⟨_, rfl⟩
       have HH2 : Hid (H2 = m2.h) := hH2
       rw [<- hH2] at K24
       clear hg hsd hne hH2
       go_wp2_with fail
       refine K24.out.mono ?_
       rintro e u1 ⟨x5, rfl, U1⟩
       have nb := newq_below u1 (.cells #[.int .u16 H2.id, .bool H2.rs, .int .i64 H2.op, .bool H2.aa, .bool H2.tc, .bool H2.rd, .bool H2.ra, .bool H2.ad, .bool H2.cd, .int .i64 H2.rc, .slice x5.q.a x5.q.n x5.q.c, .slice x5.l1.a x5.l1.n x5.l1.c, .slice x5.l2.a x5.l2.n x5.l2.c, .slice x5.l3.a x5.l3.n x5.l3.c] 26)
       have nx : (u1.alloc (.cells #[.int .u16 H2.id, .bool H2.rs, .int .i64 H2.op, .bool H2.aa, .bool H2.tc, .bool H2.rd, .bool H2.ra, .bool H2.ad, .bool H2.cd, .int .i64 H2.rc, .slice x5.q.a x5.q.n x5.q.c, .slice x5.l1.a x5.l1.n x5.l1.c, .slice x5.l2.a x5.l2.n x5.l2.c, .slice x5.l3.a x5.l3.n x5.l3.c] 26)).heap[u1.heap.size]? = some (.cells #[.int .u16 H2.id, .bool H2.rs, .int .i64 H2.op, .bool H2.aa, .bool H2.tc, .bool H2.rd, .bool H2.ra, .bool H2.ad, .bool H2.cd, .int .i64 H2.rc, .slice x5.q.a x5.q.n x5.q.c, .slice x5.l1.a x5.l1.n x5.l1.c, .slice x5.l2.a x5.l2.n x5.l2.c, .slice x5.l3.a x5.l3.n x5.l3.c] 26) := heap_alloc_new _ _
       have HU2 : Hid (Below w0.heap.size w0 (u1.alloc (.cells #[.int .u16 H2.id, .bool H2.rs, .int .i64 H2.op, .bool H2.aa, .bool H2.tc, .bool H2.rd, .bool H2.ra, .bool H2.ad, .bool H2.cd, .int .i64 H2.rc, .slice x5.q.a x5.q.n x5.q.c, .slice x5.l1.a x5.l1.n x5.l1.c, .slice x5.l2.a x5.l2.n x5.l2.c, .slice x5.l3.a x5.l3.n x5.l3.c] 26))) := (HBW.out.trans (U1.out.2.2.mono HBW.out.size)).trans (nb.mono (Nat.le_trans HBW.out.size U1.out.2.2.size))
       have M5 : Hid (MRd (u1.alloc (.cells #[.int .u16 H2.id, .bool H2.rs, .int .i64 H2.op, .bool H2.aa, .bool H2.tc, .bool H2.rd, .bool H2.ra, .bool H2.ad, .bool H2.cd, .int .i64 H2.rc, .slice x5.q.a x5.q.n x5.q.c, .slice x5.l1.a x5.l1.n x5.l1.c, .slice x5.l2.a x5.l2.n x5.l2.c, .slice x5.l3.a x5.l3.n x5.l3.c] 26)) H2 x5 m2) := U1.out.2.1.below nb
       have X5 := Lib.hid nx
       clear nb nx K24
       go_upto_region 14 with fail
       generalize u1.alloc (.cells #[.int .u16 H2.id, .bool H2.rs, .int .i64 H2.op, .bool H2.aa, .bool H2.tc, .bool H2.rd, .bool H2.ra, .bool H2.ad, .bool H2.cd, .int .i64 H2.rc, .slice x5.q.a x5.q.n x5.q.c, .slice x5.l1.a x5.l1.n x5.l1.c, .slice x5.l2.a x5.l2.n x5.l2.c, .slice x5.l3.a x5.l3.n x5.l3.c] 26) = u2 at *
       obtain ⟨q, hq⟩ : ∃ q, q = u1.heap.size := ⟨_, rfl⟩
       rw [<- hq] at X5
       simp only [<- hq]
       clear hq
       have j0 := box_cell X5.out 0 _ rfl; have j1 := box_cell X5.out 1 _ rfl; have j2 := box_cell X5.out 2 _ rfl; have j3 := box_cell X5.out 3 _ rfl; have j4 := box_cell X5.out 4 _ rfl; have j5 := box_cell X5.out 5 _ rfl; have j6 := box_cell X5.out 6 _ rfl; have j7 := box_cell X5.out 7 _ rfl; have j8 := box_cell X5.out 8 _ rfl; have j9 := box_cell X5.out 9 _ rfl; have j10 := box_cell X5.out 10 _ rfl; have j11 := box_cell X5.out 11 _ rfl; have j12 := box_cell X5.out 12 _ rfl; have j13 := box_cell X5.out 13 _ rfl; have jl := box_lt X5.out
       have K11 := Lib.hid (bytes_msg H2 x5 m2 u2 M5.out HOK.out.1.fin)
       go_wp2_with fail
       refine K11.out.mono ?_
       rintro e u3 ⟨⟨ta, tn, tc⟩, er, rfl, U3⟩
       have HU3 : Hid (Below w0.heap.size w0 u3) := HU2.out.trans (U3.out.2.mono HU2.out.size)
       have M5b : Hid (MRd u3 H2 x5 m2) := M5.out.below U3.out.2
       have X5b : Hid (u3.heap[q]? = some (.cells #[.int .u16 H2.id, .bool H2.rs, .int .i64 H2.op, .bool H2.aa, .bool H2.tc, .bool H2.rd, .bool H2.ra, .bool H2.ad, .bool H2.cd, .int .i64 H2.rc, .slice x5.q.a x5.q.n x5.q.c, .slice x5.l1.a x5.l1.n x5.l1.c, .slice x5.l2.a x5.l2.n x5.l2.c, .slice x5.l3.a x5.l3.n x5.l3.c] 26)) := (U3.out.2.block q (box_lt X5.out)).trans X5.out
       have hby := U3.out.1
       unfold ByR at hby
       rw [if_pos (chkM_zero.2 HOK.out.1)] at hby
       clear j0 j1 j2 j3 j4 j5 j6 j7 j8 j9 j10 j11 j12 j13 jl
       clear K11
       have j0 := box_cell X5b.out 0 _ rfl; have j1 := box_cell X5b.out 1 _ rfl; have j2 := box_cell X5b.out 2 _ rfl; have j3 := box_cell X5b.out 3 _ rfl; have j4 := box_cell X5b.out 4 _ rfl; have j5 := box_cell X5b.out 5 _ rfl; have j6 := box_cell X5b.out 6 _ rfl; have j7 := box_cell X5b.out 7 _ rfl; have j8 := box_cell X5b.out 8 _ rfl; have j9 := box_cell X5b.out 9 _ rfl; have j10 := box_cell X5b.out 10 _ rfl; have j11 := box_cell X5b.out 11 _ rfl; have j12 := box_cell X5b.out 12 _ rfl; have j13 := box_cell X5b.out 13 _ rfl; have jl := box_lt X5b.out
       have K16 := fun W (h : MRd W H2 x5 m2) => Lib.hid (check_msg H2 x5 m2 W h HOK.out.1.fin)
       simp only [chkM_zero.2 HOK.out.1] at K16
       cases hpr : prun (pmsg m2) (some ([], [])) with
       | none =>
         rw [hpr] at hby
         obtain ⟨h1, h2⟩ := hby
         subst h1
         clear h2 hpr
         go_wp2_with fail
         refine (K16 _ M5b.out).out.mono ?_
         rintro e u4 ⟨rfl, U4⟩
         have HU4 : Hid (Below w0.heap.size w0 u4) := HU3.out.trans (U4.out.mono HU3.out.size)
         have M5c : Hid (MRd u4 H2 x5 m2) := M5b.out.below U4.out
         have X5c : Hid (u4.heap[q]? = some (.cells #[.int .u16 H2.id, .bool H2.rs, .int .i64 H2.op, .bool H2.aa, .bool H2.tc, .bool H2.rd, .bool H2.ra, .bool H2.ad, .bool H2.cd, .int .i64 H2.rc, .slice x5.q.a x5.q.n x5.q.c, .slice x5.l1.a x5.l1.n x5.l1.c, .slice x5.l2.a x5.l2.n x5.l2.c, .slice x5.l3.a x5.l3.n x5.l3.c] 26)) := (U4.out.block q (box_lt X5b.out)).trans X5b.out
         clear j0 j1 j2 j3 j4 j5 j6 j7 j8 j9 j10 j11 j12 j13 jl
         have j0 := box_cell X5c.out 0 _ rfl; have j1 := box_cell X5c.out 1 _ rfl; have j2 := box_cell X5c.out 2 _ rfl; have j3 := box_cell X5c.out 3 _ rfl; have j4 := box_cell X5c.out 4 _ rfl; have j5 := box_cell X5c.out 5 _ rfl; have j6 := box_cell X5c.out 6 _ rfl; have j7 := box_cell X5c.out 7 _ rfl; have j8 := box_cell X5c.out 8 _ rfl; have j9 := box_cell X5c.out 9 _ rfl; have j10 := box_cell X5c.out 10 _ rfl; have j11 := box_cell X5c.out 11 _ rfl; have j12 := box_cell X5c.out 12 _ rfl; have j13 := box_cell X5c.out 13 _ rfl; have jl := box_lt X5c.out
         go_wp2_with fail
         refine (K16 _ M5c.out).out.mono ?_
         rintro e u5 ⟨rfl, U5⟩
         have HU5 : Hid (Below w0.heap.size w0 u5) := HU4.out.trans (U5.out.mono HU4.out.size)
         go_wp2
         go_ret
         exact ⟨rfl, HB0.out.trans (HU5.out.mono HB0.out.size)⟩
       | some z2 =>
         rw [hpr] at hby
         obtain ⟨h1, h2⟩ := hby
         subst h1
         have hmb := msg_back HOK.out.1 HOK.out.2 (zs := z2.1) (pl := z2.2) hpr
         have HMB := Lib.hid hmb
         have HBT : Hid (BRd u3 ⟨ta, tn, tc⟩ z2.1) := h2
         clear h2 hmb hpr
         go_wp2_with fail
         refine (K16 _ M5b.out).out.mono ?_
         rintro e u4 ⟨rfl, U4⟩
         have HU4 : Hid (Below w0.heap.size w0 u4) := HU3.out.trans (U4.out.mono HU3.out.size)
         have M5c : Hid (MRd u4 H2 x5 m2) := M5b.out.below U4.out
         have X5c : Hid (u4.heap[q]? = some (.cells #[.int .u16 H2.id, .bool H2.rs, .int .i64 H2.op, .bool H2.aa, .bool H2.tc, .bool H2.rd, .bool H2.ra, .bool H2.ad, .bool H2.cd, .int .i64 H2.rc, .slice x5.q.a x5.q.n x5.q.c, .slice x5.l1.a x5.l1.n x5.l1.c, .slice x5.l2.a x5.l2.n x5.l2.c, .slice x5.l3.a x5.l3.n x5.l3.c] 26)) := (U4.out.block q (box_lt X5b.out)).trans X5b.out
         have HB4 := Lib.hid (HBT.out.below U4.out)
         have htn : tn = z2.1.length := HBT.out.len.symm
         have K25 := Lib.hid (mread_some ⟨ta, tn, tc⟩ z2.1 u4 HB4.out (show 1 <= tn by have := HMB.out.2.2; omega) (show tn <= 140737488355328 by have := HMB.out.2.1; omega) m2 HMB.out.1)
         rw [<- HH2.out] at K25
         clear htn
         clear j0 j1 j2 j3 j4 j5 j6 j7 j8 j9 j10 j11 j12 j13 jl
         go_wp2_with fail
         refine K25.out.mono ?_
         rintro e u5 ⟨x6, rfl, U5⟩
         have nb := newq_below u5 (.cells #[.int .u16 H2.id, .bool H2.rs, .int .i64 H2.op, .bool H2.aa, .bool H2.tc, .bool H2.rd, .bool H2.ra, .bool H2.ad, .bool H2.cd, .int .i64 H2.rc, .slice x6.q.a x6.q.n x6.q.c, .slice x6.l1.a x6.l1.n x6.l1.c, .slice x6.l2.a x6.l2.n x6.l2.c, .slice x6.l3.a x6.l3.n x6.l3.c] 26)
         have nx : (u5.alloc (.cells #[.int .u16 H2.id, .bool H2.rs, .int .i64 H2.op, .bool H2.aa, .bool H2.tc, .bool H2.rd, .bool H2.ra, .bool H2.ad, .bool H2.cd, .int .i64 H2.rc, .slice x6.q.a x6.q.n x6.q.c, .slice x6.l1.a x6.l1.n x6.l1.c, .slice x6.l2.a x6.l2.n x6.l2.c, .slice x6.l3.a x6.l3.n x6.l3.c] 26)).heap[u5.heap.size]? = some (.cells #[.int .u16 H2.id, .bool H2.rs, .int .i64 H2.op, .bool H2.aa, .bool H2.tc, .bool H2.rd, .bool H2.ra, .bool H2.ad, .bool H2.cd, .int .i64 H2.rc, .slice x6.q.a x6.q.n x6.q.c, .slice x6.l1.a x6.l1.n x6.l1.c, .slice x6.l2.a x6.l2.n x6.l2.c, .slice x6.l3.a x6.l3.n x6.l3.c] 26) := heap_alloc_new _ _
         have HN5 : Hid (Below u4.heap.size u4 (u5.alloc (.cells #[.int .u16 H2.id, .bool H2.rs, .int .i64 H2.op, .bool H2.aa, .bool H2.tc, .bool H2.rd, .bool H2.ra, .bool H2.ad, .bool H2.cd, .int .i64 H2.rc, .slice x6.q.a x6.q.n x6.q.c, .slice x6.l1.a x6.l1.n x6.l1.c, .slice x6.l2.a x6.l2.n x6.l2.c, .slice x6.l3.a x6.l3.n x6.l3.c] 26))) := U5.out.2.2.trans (nb.mono U5.out.2.2.size)
         have HU6 : Hid (Below w0.heap.size w0 (u5.alloc (.cells #[.int .u16 H2.id, .bool H2.rs, .int .i64 H2.op, .bool H2.aa, .bool H2.tc, .bool H2.rd, .bool H2.ra, .bool H2.ad, .bool H2.cd, .int .i64 H2.rc, .slice x6.q.a x6.q.n x6.q.c, .slice x6.l1.a x6.l1.n x6.l1.c, .slice x6.l2.a x6.l2.n x6.l2.c, .slice x6.l3.a x6.l3.n x6.l3.c] 26))) := HU4.out.trans (HN5.out.mono HU4.out.size)
         have M6 : Hid (MRd (u5.alloc (.cells #[.int .u16 H2.id, .bool H2.rs, .int .i64 H2.op, .bool H2.aa, .bool H2.tc, .bool H2.rd, .bool H2.ra, .bool H2.ad, .bool H2.cd, .int .i64 H2.rc, .slice x6.q.a x6.q.n x6.q.c, .slice x6.l1.a x6.l1.n x6.l1.c, .slice x6.l2.a x6.l2.n x6.l2.c, .slice x6.l3.a x6.l3.n x6.l3.c] 26)) H2 x6 m2) := U5.out.2.1.below nb
         have M5d : Hid (MRd (u5.alloc (.cells #[.int .u16 H2.id, .bool H2.rs, .int .i64 H2.op, .bool H2.aa, .bool H2.tc, .bool H2.rd, .bool H2.ra, .bool H2.ad, .bool H2.cd, .int .i64 H2.rc, .slice x6.q.a x6.q.n x6.q.c, .slice x6.l1.a x6.l1.n x6.l1.c, .slice x6.l2.a x6.l2.n x6.l2.c, .slice x6.l3.a x6.l3.n x6.l3.c] 26)) H2 x5 m2) := M5c.out.below HN5.out
         have X6 := Lib.hid nx
         have X5d : Hid ((u5.alloc (.cells #[.int .u16 H2.id, .bool H2.rs, .int .i64 H2.op, .bool H2.aa, .bool H2.tc, .bool H2.rd, .bool H2.ra, .bool H2.ad, .bool H2.cd, .int .i64 H2.rc, .slice x6.q.a x6.q.n x6.q.c, .slice x6.l1.a x6.l1.n x6.l1.c, .slice x6.l2.a x6.l2.n x6.l2.c, .slice x6.l3.a x6.l3.n x6.l3.c] 26)).heap[q]? = some (.cells #[.int .u16 H2.id, .bool H2.rs, .int .i64 H2.op, .bool H2.aa, .bool H2.tc, .bool H2.rd, .bool H2.ra, .bool H2.ad, .bool H2.cd, .int .i64 H2.rc, .slice x5.q.a x5.q.n x5.q.c, .slice x5.l1.a x5.l1.n x5.l1.c, .slice x5.l2.a x5.l2.n x5.l2.c, .slice x5.l3.a x5.l3.n x5.l3.c] 26)) := (HN5.out.block q (box_lt X5c.out)).trans X5c.out
         clear nb nx K25
         go_upto_region 18 with fail
         generalize u5.alloc (.cells #[.int .u16 H2.id, .bool H2.rs, .int .i64 H2.op, .bool H2.aa, .bool H2.tc, .bool H2.rd, .bool H2.ra, .bool H2.ad, .bool H2.cd, .int .i64 H2.rc, .slice x6.q.a x6.q.n x6.q.c, .slice x6.l1.a x6.l1.n x6.l1.c, .slice x6.l2.a x6.l2.n x6.l2.c, .slice x6.l3.a x6.l3.n x6.l3.c] 26) = u6 at *
         obtain ⟨q2, hq2⟩ : ∃ q2, q2 = u5.heap.size := ⟨_, rfl⟩
         rw [<- hq2] at X6
         simp only [<- hq2]
         clear hq2
         have j0 := box_cell X5d.out 0 _ rfl; have j1 := box_cell X5d.out 1 _ rfl; have j2 := box_cell X5d.out 2 _ rfl; have j3 := box_cell X5d.out 3 _ rfl; have j4 := box_cell X5d.out 4 _ rfl; have j5 := box_cell X5d.out 5 _ rfl; have j6 := box_cell X5d.out 6 _ rfl; have j7 := box_cell X5d.out 7 _ rfl; have j8 := box_cell X5d.out 8 _ rfl; have j9 := box_cell X5d.out 9 _ rfl; have j10 := box_cell X5d.out 10 _ rfl; have j11 := box_cell X5d.out 11 _ rfl; have j12 := box_cell X5d.out 12 _ rfl; have j13 := box_cell X5d.out 13 _ rfl; have jl := box_lt X5d.out
         have i0 := box_cell X6.out 0 _ rfl; have i1 := box_cell X6.out 1 _ rfl; have i2 := box_cell X6.out 2 _ rfl; have i3 := box_cell X6.out 3 _ rfl; have i4 := box_cell X6.out 4 _ rfl; have i5 := box_cell X6.out 5 _ rfl; have i6 := box_cell X6.out 6 _ rfl; have i7 := box_cell X6.out 7 _ rfl; have i8 := box_cell X6.out 8 _ rfl; have i9 := box_cell X6.out 9 _ rfl; have i10 := box_cell X6.out 10 _ rfl; have i11 := box_cell X6.out 11 _ rfl; have i12 := box_cell X6.out 12 _ rfl; have i13 := box_cell X6.out 13 _ rfl; have il := box_lt X6.out
         have K20 := Lib.hid (same_msg H2 x6 x5 m2 u6 M6.out M5d.out)
         go_wp2_with fail
         refine K20.out.mono ?_
         rintro e u7 ⟨rfl, U7⟩
         have HU7 : Hid (Below w0.heap.size w0 u7) := HU6.out.trans (U7.out.mono HU6.out.size)
         go_wp2
         go_ret
         exact ⟨rfl, HB0.out.trans (HU7.out.mono HB0.out.size)⟩
end Go.Proofs.YteplffhfeoephaaGreat
namespace Go.Proofs.YteplffhfeoephaaGreat
open Go.ChangeShapes Go.WideShapes Go.ChangeAt Go.RowKit Go.Maps
theorem backM (H : Hd) (x : MA) (m : Mg) (s : Sl) (zs : List Int) (w : World) (hm : MRd w H x m) (ht : x.l1.n + x.l2.n + x.l3.n <= 2000000) (hs : BRd w s zs) (hsn : s.n <= 2000000) : Calls Tryz.prog 5 #[.agg #[.int .u16 H.id, .bool H.rs, .int .i64 H.op, .bool H.aa, .bool H.tc, .bool H.rd, .bool H.ra, .bool H.ad, .bool H.cd, .int .i64 H.rc, .slice x.q.a x.q.n x.q.c, .slice x.l1.a x.l1.n x.l1.c, .slice x.l2.a x.l2.n x.l2.c, .slice x.l3.a x.l3.n x.l3.c], .slice s.a s.n s.c] w fun e w' => e = .returned (.bool true) /\ Below w.heap.size w w' := by
 by_cases hc : chkM m = 0
 · cases hpr : prun (pmsg m) (some ([], [])) with
   | none =>
     refine (backM1 H x m s zs w hm ht hs hsn hc hpr).mono ?_
     rintro e w' ⟨h1, h2⟩
     exact ⟨h1, h2.out⟩
   | some z1 =>
     refine (backM2 H x m s zs w hm ht hs hsn hc z1 hpr).mono ?_
     rintro e w' ⟨h1, h2⟩
     exact ⟨h1, h2.out⟩
 · refine (backM3 H x m s zs w hm ht hs hsn hc).mono ?_
   rintro e w' ⟨h1, h2⟩
   exact ⟨h1, h2.out⟩
end Go.Proofs.YteplffhfeoephaaGreat
namespace Go.Proofs.YteplffhfeoephaaGreat
open Go.ChangeShapes Go.WideShapes Go.ChangeAt Go.RowKit Go.Deep Go.Maps
set_option maxRecDepth 100000
variable {H : Type} {enc : TypeId × Value -> H} {W : World}
theorem bulk_pos (d : DataW H) : 1 <= Rows.uptoBulk d := by
 cases d with
 | lit l => cases l <;> simp [Rows.uptoBulk]
 | _ => simp [Rows.uptoBulk]
theorem bulk_len : ∀ l : List (DataW H), l.length <= Rows.uptoBulkAll l
 | [] => by simp [Rows.uptoBulkAll]
 | d :: l => by
   have h1 := bulk_len l
   have h2 := bulk_pos d
   simp only [Rows.uptoBulkAll, List.length_cons]
   omega
theorem bulk_slice {t e : TypeId} {a : Option Addr} {len cap fuel : Nat} {x : DataW H × List MemPlace} (ht : Tryz.prog.underlying t = some (.slice e)) (hf : DataW.trod enc Tryz.prog W 0 (fun _ => true) true fuel t [Value.slice a len cap] = some x) : len <= Rows.uptoBulk x.1 := by
 rcases DataW.trod_slice ht hf with ⟨hcs, _⟩ | ⟨x', l, c, elems, rest, n, _, hcs, hx, _, hl, hm, hel, hcell, _⟩
 · simp at hcs
   omega
 · simp at hcs
   obtain ⟨_, rfl, _⟩ := hcs
   rw [hx]
   have := bulk_len (elems.map (·.1))
   simp only [Rows.uptoBulk, List.length_map] at this ⊢
   omega
theorem list14 {α : Type} {l : List α} (h : l.length = 14) : ∃ v0 v1 v2 v3 v4 v5 v6 v7 v8 v9 v10 v11 v12 v13, l = [v0, v1, v2, v3, v4, v5, v6, v7, v8, v9, v10, v11, v12, v13] := by
 match l, h with
 | [v0, v1, v2, v3, v4, v5, v6, v7, v8, v9, v10, v11, v12, v13], _ => exact ⟨v0, v1, v2, v3, v4, v5, v6, v7, v8, v9, v10, v11, v12, v13, rfl⟩
theorem cells24 : Tryz.prog.cellsOf 24 = 1 := by kernel_rfl
theorem bulk_message {fuel : Nat} {d : DataW H} {p : List MemPlace} {v0 v1 v2 v3 v4 v5 v6 v7 v8 v9 v10 : Value} {a1 a2 a3 : Option Addr} {n1 n2 n3 c1 c2 c3 : Nat} (h : DataW.trod enc Tryz.prog W 0 (fun _ => true) true fuel 26 [v0, v1, v2, v3, v4, v5, v6, v7, v8, v9, v10, .slice a1 n1 c1, .slice a2 n2 c2, .slice a3 n3 c3] = some (d, p)) : n1 + n2 + n3 <= Rows.uptoBulk d := by
 obtain ⟨xs, n, _, hx, _, hlen, hall⟩ := DataW.trod_struct Tryz.underlying26 h
 have e1 := hall 11 _ rfl
 have e2 := hall 12 _ rfl
 have e3 := hall 13 _ rfl
 obtain ⟨y0, y1, y2, y3, y4, y5, y6, y7, y8, y9, y10, y11, y12, y13, rfl⟩ := list14 (hlen.trans rfl)
 replace e1 : DataW.trod enc Tryz.prog W 0 (fun _ => true) true n 24 (List.take (Tryz.prog.cellsOf 24) [.slice a1 n1 c1, .slice a2 n2 c2, .slice a3 n3 c3]) = some y11 := e1
 replace e2 : DataW.trod enc Tryz.prog W 0 (fun _ => true) true n 24 (List.take (Tryz.prog.cellsOf 24) [.slice a2 n2 c2, .slice a3 n3 c3]) = some y12 := e2
 replace e3 : DataW.trod enc Tryz.prog W 0 (fun _ => true) true n 24 (List.take (Tryz.prog.cellsOf 24) [.slice a3 n3 c3]) = some y13 := e3
 rw [cells24] at e1 e2 e3
 have b1 := bulk_slice Tryz.underlying24 (show DataW.trod enc Tryz.prog W 0 (fun _ => true) true n 24 [.slice a1 n1 c1] = some y11 from e1)
 have b2 := bulk_slice Tryz.underlying24 (show DataW.trod enc Tryz.prog W 0 (fun _ => true) true n 24 [.slice a2 n2 c2] = some y12 from e2)
 have b3 := bulk_slice Tryz.underlying24 (show DataW.trod enc Tryz.prog W 0 (fun _ => true) true n 24 [.slice a3 n3 c3] = some y13 from e3)
 have hd : d = .agg [y0.1, y1.1, y2.1, y3.1, y4.1, y5.1, y6.1, y7.1, y8.1, y9.1, y10.1, y11.1, y12.1, y13.1] := congrArg (·.1) hx
 rw [hd]
 simp only [Rows.uptoBulk, Rows.uptoBulkAll]
 omega
theorem open_messageB {base : Nat} {v : Value} {d : DataW H} {p : List MemPlace} (hv : Value.okWide Tryz.prog W .any base 26 v) (h : DataW.Trod enc Tryz.prog W 0 (fun _ => true) true 26 v d p) : ∃ (HH : Hd) (x : MA) (m : Mg), v = .agg #[.int .u16 HH.id, .bool HH.rs, .int .i64 HH.op, .bool HH.aa, .bool HH.tc, .bool HH.rd, .bool HH.ra, .bool HH.ad, .bool HH.cd, .int .i64 HH.rc, .slice x.q.a x.q.n x.q.c, .slice x.l1.a x.l1.n x.l1.c, .slice x.l2.a x.l2.n x.l2.c, .slice x.l3.a x.l3.n x.l3.c] /\ MRd W HH x m /\ x.l1.n + x.l2.n + x.l3.n <= Rows.uptoBulk d := by
 obtain ⟨HH, x, m, rfl, hm⟩ := open_message hv h
 obtain ⟨fuel, hf⟩ := h
 exact ⟨HH, x, m, rfl, hm, bulk_message hf⟩
theorem open_bytesB {a : Option Addr} {len cap : Nat} {d : DataW H} {p : List MemPlace} (h : DataW.Trod enc Tryz.prog W 0 (fun _ => true) true 29 (.slice a len cap) d p) : ∃ zs, BRd W ⟨a, len, cap⟩ zs /\ len <= Rows.uptoBulk d := by
 obtain ⟨fuel, hf⟩ := h
 obtain ⟨zs, hz⟩ := open_bytesD hf
 exact ⟨zs, hz, bulk_slice Tryz.underlying29 hf⟩
end Go.Proofs.YteplffhfeoephaaGreat
