/- Texts laid together, in parts: Mrg Mrh Mpt Mri Xf Mrk Mrm Mrn Mro Mrp Mrq. -/
import Derived.Test.YtkjnbgekaifdfaaGreatWpg
import Derived.Deep.AppendLies
import Derived.Deep.RegionLaw
import Derived.Defers
import Derived.Recover
set_option maxRecDepth 100000
set_option linter.unusedVariables false
set_option linter.unusedSimpArgs false
namespace Go.Proofs.YtkjnbgekaifdfaaGreat
open Go.ChangeShapes Go.WideShapes Go.ChangeAt Go.RowKit Go.Maps
def RrP (r b o n c : Nat) (zs : List Int) (w : World) (x : Rec × Nat) (e : Ending) (w' : World) : Prop := ∃ y : RA, e = .returned (.agg #[.slice y.o.a y.o.n y.o.c, .int .u16 x.1.t, .int .u16 x.1.cl, .int .u32 x.1.tt, .slice y.d.p1.a y.d.p1.n y.d.p1.c, .slice y.d.p2.a y.d.p2.n y.d.p2.c, .slice y.d.p3.a y.d.p3.n y.d.p3.c, .slice y.d.p4.a y.d.p4.n y.d.p4.c]) /\ Hid (Rdr w' r (some ⟨b, o, none⟩) n c zs x.2 /\ Owx1 w.heap.size w' y.o x.1.ow /\ DOwx w.heap.size w' y.d x.1.d /\ w.grownBy w' (some r))
theorem grown_put8 (w : World) (g : Nat) (x0 x1 x2 x3 x4 x5 x6 x7 : Value) : w.grownBy ((((((((w.setCell ⟨g, 0, none⟩ x0).setCell ⟨g, 1, none⟩ x1).setCell ⟨g, 2, none⟩ x2).setCell ⟨g, 3, none⟩ x3).setCell ⟨g, 4, none⟩ x4).setCell ⟨g, 5, none⟩ x5).setCell ⟨g, 6, none⟩ x6).setCell ⟨g, 7, none⟩ x7) (some g) :=
 grown_trans (grown_trans (grown_trans (grown_trans (grown_trans (grown_trans (grown_trans (grown_set w g 0 _) (grown_set _ g 1 _)) (grown_set _ g 2 _)) (grown_set _ g 3 _)) (grown_set _ g 4 _)) (grown_set _ g 5 _)) (grown_set _ g 6 _)) (grown_set _ g 7 _)
set_option maxHeartbeats 2000000 in
theorem rrec_yes (r b o n c : Nat) (zs : List Int) (p : Nat) (x : Rec × Nat) (w : World) (h : Rdr w r (some ⟨b, o, none⟩) n c zs p) (h1 : 1 <= n) (hx : grec zs p = some x) :
   Calls Tryz.prog 59 #[.pointer (some ⟨r, 0, none⟩)] w (RrP r b o n c zs w x) := by
 rw [grec_k] at hx
 simp only [Option.bind_eq_some_iff, Option.map_eq_some_iff] at hx
 obtain ⟨nn, ho, k, hk, l, hll, s, hs, d, hd, rfl⟩ := hx
 have hsb := g16_bd h.rd.2 hs
 have K1 : Hid (∀ W, Rdr W r (some ⟨b, o, none⟩) n c zs p -> Calls Tryz.prog 89 #[.pointer (some ⟨r, 0, none⟩)] W fun e w' => ∃ s : Sl, e = .returned (.slice s.a s.n s.c) /\ Hid (Rdr w' r (some ⟨b, o, none⟩) n c zs nn.2 /\ Owx1 W.heap.size w' s nn.1 /\ W.grownBy w' (some r))) := fun W hW => rnm_yes r (some ⟨b, o, none⟩) n c zs p nn W hW ho
 have K2 : Hid (∀ W, Rdr W r (some ⟨b, o, none⟩) n c zs nn.2 -> Calls Tryz.prog 90 #[.pointer (some ⟨r, 0, none⟩)] W fun e w' => e = .returned (.tuple #[.int .u16 k.1.1, .int .u16 k.1.2]) /\ Hid (Rdr w' r (some ⟨b, o, none⟩) n c zs k.2 /\ W.grownBy w' (some r))) := fun W hW => rkind_yes r (some ⟨b, o, none⟩) n c zs nn.2 k W hW hk
 have K3 : Hid (∀ W, Rdr W r (some ⟨b, o, none⟩) n c zs k.2 -> Calls Tryz.prog 91 #[.pointer (some ⟨r, 0, none⟩)] W fun e w' => e = .returned (.int .u32 l.1) /\ Hid (Rdr w' r (some ⟨b, o, none⟩) n c zs l.2 /\ W.grownBy w' (some r))) := fun W hW => r32_yes r (some ⟨b, o, none⟩) n c zs k.2 l W hW hll
 have K4 : Hid (∀ W, Rdr W r (some ⟨b, o, none⟩) n c zs l.2 -> Calls Tryz.prog 93 #[.pointer (some ⟨r, 0, none⟩)] W fun e w' => e = .returned (.int .i64 s.1) /\ Hid (Rdr w' r (some ⟨b, o, none⟩) n c zs s.2 /\ W.grownBy w' (some r))) := fun W hW => r16_yes r (some ⟨b, o, none⟩) n c zs l.2 s W hW hs
 have K5 : Hid (∀ W, Rdr W r (some ⟨b, o, none⟩) n c zs s.2 -> Calls Tryz.prog 92 #[.pointer (some ⟨r, 0, none⟩), .int .u16 k.1.1, .int .i64 s.1] W (RdDP r b o n c zs W d)) := fun W hW => rdata_yes r b o n c zs s.2 k.1.1 s.1 d W hW h1 hsb hd
 have hrw := box_lt h.box
 have hbw := h.blt h1
 obtain ⟨n1, n2⟩ := nn
 obtain ⟨⟨k1, k2⟩, k3⟩ := k
 obtain ⟨l1, l2⟩ := l
 obtain ⟨s1, s2⟩ := s
 obtain ⟨d1, d2⟩ := d
 simp only at K1 K2 K3 K4 K5
 have hb0 : Below w.heap.size w (w.alloc (.cells #[.slice none 0 0, .int .u16 0, .int .u16 0, .int .u32 0, .slice none 0 0, .slice none 0 0, .slice none 0 0, .slice none 0 0] 62)) := newq_below _ _
 have HR0 := Lib.hid (h.below hb0)
 have HD0 : Hid ((w.alloc (.cells #[.slice none 0 0, .int .u16 0, .int .u16 0, .int .u32 0, .slice none 0 0, .slice none 0 0, .slice none 0 0, .slice none 0 0] 62)).heap[w.heap.size]? = some (.cells #[.slice none 0 0, .int .u16 0, .int .u16 0, .int .u32 0, .slice none 0 0, .slice none 0 0, .slice none 0 0, .slice none 0 0] 62)) := heap_alloc_new _ _
 have HB0 := Lib.hid hb0
 obtain ⟨R, hR⟩ : ∃ R, R = w.heap.size := ⟨_, rfl⟩
 have HRR := Lib.hid hR
 rw [<- hR] at HD0 hrw hbw
 clear h ho hk hb0 hll hs hd
 go_enter Tryz.func59, Tryz.ntmps59
 go_wp2_with fail
 simp only [<- hR]
 generalize w.alloc (.cells #[.slice none 0 0, .int .u16 0, .int .u16 0, .int .u32 0, .slice none 0 0, .slice none 0 0, .slice none 0 0, .slice none 0 0] 62) = w0 at *
 clear hR
 refine (K1.out w0 HR0.out).mono ?_
 rintro e1 w1 ⟨s1', rfl, H1⟩
 go_wp2_with fail
 refine (K2.out w1 H1.out.1).mono ?_
 rintro e2 w2 ⟨rfl, H2⟩
 go_wp2_with fail
 refine (K3.out w2 H2.out.1).mono ?_
 rintro e3 w3 ⟨rfl, H3⟩
 have HG3 : Hid (w0.grownBy w3 (some r)) := grown_trans (grown_trans H1.out.2.2 H2.out.2) H3.out.2
 have HL0 := Lib.hid (box_lt HD0.out)
 have hrw0 : r < w0.heap.size := by have := HL0.out; omega
 have HO3 : Hid (Owx1 w0.heap.size w3 s1' n1) := (H1.out.2.1.go H2.out.2 hrw0).go H3.out.2 hrw0
 have HR3 := Lib.hid H3.out.1
 clear H1 H2 H3 K1 K2 K3 HR0
 go_wp2_with fail
 refine (K4.out w3 HR3.out).mono ?_
 rintro e4 w4 ⟨rfl, H4⟩
 go_wp2_with fail
 refine (K5.out w4 H4.out.1).mono ?_
 rintro e5 w5 ⟨y5, rfl, H5⟩
 have HG5 : Hid (w0.grownBy w5 (some r)) := grown_trans HG3.out (grown_trans H4.out.2 H5.out.2.2)
 have HD5 : Hid (w5.heap[R]? = some (.cells #[.slice none 0 0, .int .u16 0, .int .u16 0, .int .u32 0, .slice none 0 0, .slice none 0 0, .slice none 0 0, .slice none 0 0] 62)) := (HG5.out.block R HL0.out (fun e => by injection e with e; omega)).trans HD0.out
 have HO5 : Hid (Owx1 w0.heap.size w5 s1' n1) := (HO3.out.go H4.out.2 hrw0).go H5.out.2.2 hrw0
 have HX5 : Hid (DOwx w0.heap.size w5 y5 d1) := H5.out.2.1.mono (Nat.le_trans HG3.out.size H4.out.2.size)
 have HR5 := Lib.hid H5.out.1
 clear H4 H5 K4 K5 HR3 HO3 HG3 HD0
 have z0 := box_cell HD5.out 0 _ rfl
 have z1 := box_cell HD5.out 1 _ rfl
 have z2 := box_cell HD5.out 2 _ rfl
 have z3 := box_cell HD5.out 3 _ rfl
 have z4 := box_cell HD5.out 4 _ rfl
 have z5 := box_cell HD5.out 5 _ rfl
 have z6 := box_cell HD5.out 6 _ rfl
 have z7 := box_cell HD5.out 7 _ rfl
 have f0 := box_frozen HD5.out 0
 have f1 := box_frozen HD5.out 1
 have f2 := box_frozen HD5.out 2
 have f3 := box_frozen HD5.out 3
 have f4 := box_frozen HD5.out 4
 have f5 := box_frozen HD5.out 5
 have f6 := box_frozen HD5.out 6
 have f7 := box_frozen HD5.out 7
 have hlt := box_lt HD5.out
 obtain ⟨⟨u1, v1, x1⟩, ⟨u2, v2, x2⟩, ⟨u3, v3, x3⟩, ⟨u4, v4, x4⟩⟩ := y5
 obtain ⟨sa, sn, sc⟩ := s1'
 simp only
 go_wp2_with fail
 have z8 := Lib.hid (put8 HD5.out (.slice sa sn sc) (.int .u16 (k1 : Int)) (.int .u16 (k2 : Int)) (.int .u32 (l1 : Int)) (.slice u1 v1 x1) (.slice u2 v2 x2) (.slice u3 v3 x3) (.slice u4 v4 x4))
 have HG8 := Lib.hid (grown_put8 w5 R (.slice sa sn sc) (.int .u16 (k1 : Int)) (.int .u16 (k2 : Int)) (.int .u32 (l1 : Int)) (.slice u1 v1 x1) (.slice u2 v2 x2) (.slice u3 v3 x3) (.slice u4 v4 x4))
 clear z0 z1 z2 z3 z4 z5 z6 z7 f0 f1 f2 f3 f4 f5 f6 f7 hlt
 generalize ((((((((w5.setCell ⟨R, 0, none⟩ (.slice sa sn sc)).setCell ⟨R, 1, none⟩ (.int .u16 (k1 : Int))).setCell ⟨R, 2, none⟩ (.int .u16 (k2 : Int))).setCell ⟨R, 3, none⟩ (.int .u32 (l1 : Int))).setCell ⟨R, 4, none⟩ (.slice u1 v1 x1)).setCell ⟨R, 5, none⟩ (.slice u2 v2 x2)).setCell ⟨R, 6, none⟩ (.slice u3 v3 x3)).setCell ⟨R, 7, none⟩ (.slice u4 v4 x4)) = w8 at *
 have y0 := box_cell z8.out 0 _ rfl
 have y1 := box_cell z8.out 1 _ rfl
 have y2 := box_cell z8.out 2 _ rfl
 have y3 := box_cell z8.out 3 _ rfl
 have y4 := box_cell z8.out 4 _ rfl
 have y5 := box_cell z8.out 5 _ rfl
 have y6 := box_cell z8.out 6 _ rfl
 have y7 := box_cell z8.out 7 _ rfl
 refine bodyPost_ret (v := .agg #[.slice sa sn sc, .int .u16 (k1 : Int), .int .u16 (k2 : Int), .int .u32 (l1 : Int), .slice u1 v1 x1, .slice u2 v2 x2, .slice u3 v3 x3, .slice u4 v4 x4]) (by simp [results, Tryz.results59, go_sem, y0, y1, y2, y3, y4, y5, y6, y7]) rfl ⟨⟨⟨sa, sn, sc⟩, ⟨⟨u1, v1, x1⟩, ⟨u2, v2, x2⟩, ⟨u3, v3, x3⟩, ⟨u4, v4, x4⟩⟩⟩, rfl, HR5.out.far h1 HG8.out hrw hbw, ?_, ?_, ?_⟩
 · exact (HO5.out.keep fun j h1 h2 h3 => HG8.out.block j (by omega) (fun e => by injection e with e; have := HL0.out; omega)).mono HB0.out.size
 · exact (HX5.out.keep fun j h1 h2 => HG8.out.block j (by omega) (fun e => by injection e with e; have := HL0.out; omega)).mono HB0.out.size
 · exact grown_apx (grown_trans (grown_of HB0.out) HG5.out) HG8.out (fun j e => by injection e with e; rw [<- e, HRR.out]; exact Nat.le_refl _)
end Go.Proofs.YtkjnbgekaifdfaaGreat
namespace Go.Proofs.YtkjnbgekaifdfaaGreat
open Go.ChangeShapes Go.WideShapes Go.ChangeAt Go.RowKit Go.Maps
set_option maxHeartbeats 2000000 in
theorem rrec_no0 (r b o n c : Nat) (zs : List Int) (p : Nat) (w : World) (h : Rdr w r (some ⟨b, o, none⟩) n c zs p) (h1 : 1 <= n) (h_nn : gnm zs p = none) :
   Calls Tryz.prog 59 #[.pointer (some ⟨r, 0, none⟩)] w fun e w' => e = .panicked thrown /\ Hid (w.grownBy w' (some r)) := by
 have K0 : Hid (∀ W, Rdr W r (some ⟨b, o, none⟩) n c zs p -> Calls Tryz.prog 89 #[.pointer (some ⟨r, 0, none⟩)] W fun e w' => e = .panicked thrown /\ Hid (W.grownBy w' (some r))) := fun W hW => rnm_no r (some ⟨b, o, none⟩) n c zs p W hW h_nn
 have hb0 : Below w.heap.size w (w.alloc (.cells #[.slice none 0 0, .int .u16 0, .int .u16 0, .int .u32 0, .slice none 0 0, .slice none 0 0, .slice none 0 0, .slice none 0 0] 62)) := newq_below _ _
 have HR0 := Lib.hid (h.below hb0)
 have HB0 := Lib.hid hb0
 clear h hb0 h_nn
 go_enter Tryz.func59, Tryz.ntmps59
 go_wp2_with fail
 generalize w.alloc (.cells #[.slice none 0 0, .int .u16 0, .int .u16 0, .int .u32 0, .slice none 0 0, .slice none 0 0, .slice none 0 0, .slice none 0 0] 62) = w0 at *
 refine (K0.out w0 HR0.out).mono ?_
 rintro e1 w1 ⟨rfl, H0⟩
 go_wp2
 exact ⟨rfl, rfl, grown_trans (grown_of HB0.out) H0.out⟩
set_option maxHeartbeats 2000000 in
theorem rrec_no1 (r b o n c : Nat) (zs : List Int) (p : Nat) (w : World) (h : Rdr w r (some ⟨b, o, none⟩) n c zs p) (h1 : 1 <= n) (nn : List ByteArray × Nat) (h_nn : gnm zs p = some nn) (h_k : gkind zs nn.2 = none) :
   Calls Tryz.prog 59 #[.pointer (some ⟨r, 0, none⟩)] w fun e w' => e = .panicked thrown /\ Hid (w.grownBy w' (some r)) := by
 have K0 : Hid (∀ W, Rdr W r (some ⟨b, o, none⟩) n c zs p -> Calls Tryz.prog 89 #[.pointer (some ⟨r, 0, none⟩)] W fun e w' => ∃ s : Sl, e = .returned (.slice s.a s.n s.c) /\ Hid (Rdr w' r (some ⟨b, o, none⟩) n c zs nn.2 /\ Owx1 W.heap.size w' s nn.1 /\ W.grownBy w' (some r))) := fun W hW => rnm_yes r (some ⟨b, o, none⟩) n c zs p nn W hW h_nn
 have K1 : Hid (∀ W, Rdr W r (some ⟨b, o, none⟩) n c zs nn.2 -> Calls Tryz.prog 90 #[.pointer (some ⟨r, 0, none⟩)] W fun e w' => e = .panicked thrown /\ Hid (W.grownBy w' (some r))) := fun W hW => rkind_no r (some ⟨b, o, none⟩) n c zs nn.2 W hW h_k
 have hb0 : Below w.heap.size w (w.alloc (.cells #[.slice none 0 0, .int .u16 0, .int .u16 0, .int .u32 0, .slice none 0 0, .slice none 0 0, .slice none 0 0, .slice none 0 0] 62)) := newq_below _ _
 have HR0 := Lib.hid (h.below hb0)
 have HB0 := Lib.hid hb0
 clear h hb0 h_nn h_k
 go_enter Tryz.func59, Tryz.ntmps59
 go_wp2_with fail
 generalize w.alloc (.cells #[.slice none 0 0, .int .u16 0, .int .u16 0, .int .u32 0, .slice none 0 0, .slice none 0 0, .slice none 0 0, .slice none 0 0] 62) = w0 at *
 refine (K0.out w0 HR0.out).mono ?_
 rintro e1 w1 ⟨s0, rfl, H0⟩
 go_wp2_with fail
 refine (K1.out w1 H0.out.1).mono ?_
 rintro e2 w2 ⟨rfl, H1⟩
 go_wp2
 exact ⟨rfl, rfl, grown_trans (grown_trans (grown_of HB0.out) H0.out.2.2) H1.out⟩
set_option maxHeartbeats 2000000 in
theorem rrec_no2 (r b o n c : Nat) (zs : List Int) (p : Nat) (w : World) (h : Rdr w r (some ⟨b, o, none⟩) n c zs p) (h1 : 1 <= n) (nn : List ByteArray × Nat) (h_nn : gnm zs p = some nn) (k : (Nat × Nat) × Nat) (h_k : gkind zs nn.2 = some k) (h_l : g32 zs k.2 = none) :
   Calls Tryz.prog 59 #[.pointer (some ⟨r, 0, none⟩)] w fun e w' => e = .panicked thrown /\ Hid (w.grownBy w' (some r)) := by
 have K0 : Hid (∀ W, Rdr W r (some ⟨b, o, none⟩) n c zs p -> Calls Tryz.prog 89 #[.pointer (some ⟨r, 0, none⟩)] W fun e w' => ∃ s : Sl, e = .returned (.slice s.a s.n s.c) /\ Hid (Rdr w' r (some ⟨b, o, none⟩) n c zs nn.2 /\ Owx1 W.heap.size w' s nn.1 /\ W.grownBy w' (some r))) := fun W hW => rnm_yes r (some ⟨b, o, none⟩) n c zs p nn W hW h_nn
 have K1 : Hid (∀ W, Rdr W r (some ⟨b, o, none⟩) n c zs nn.2 -> Calls Tryz.prog 90 #[.pointer (some ⟨r, 0, none⟩)] W fun e w' => e = .returned (.tuple #[.int .u16 k.1.1, .int .u16 k.1.2]) /\ Hid (Rdr w' r (some ⟨b, o, none⟩) n c zs k.2 /\ W.grownBy w' (some r))) := fun W hW => rkind_yes r (some ⟨b, o, none⟩) n c zs nn.2 k W hW h_k
 have K2 : Hid (∀ W, Rdr W r (some ⟨b, o, none⟩) n c zs k.2 -> Calls Tryz.prog 91 #[.pointer (some ⟨r, 0, none⟩)] W fun e w' => e = .panicked thrown /\ Hid (W.grownBy w' (some r))) := fun W hW => r32_no r (some ⟨b, o, none⟩) n c zs k.2 W hW h_l
 have hb0 : Below w.heap.size w (w.alloc (.cells #[.slice none 0 0, .int .u16 0, .int .u16 0, .int .u32 0, .slice none 0 0, .slice none 0 0, .slice none 0 0, .slice none 0 0] 62)) := newq_below _ _
 have HR0 := Lib.hid (h.below hb0)
 have HB0 := Lib.hid hb0
 clear h hb0 h_nn h_k h_l
 go_enter Tryz.func59, Tryz.ntmps59
 go_wp2_with fail
 generalize w.alloc (.cells #[.slice none 0 0, .int .u16 0, .int .u16 0, .int .u32 0, .slice none 0 0, .slice none 0 0, .slice none 0 0, .slice none 0 0] 62) = w0 at *
 refine (K0.out w0 HR0.out).mono ?_
 rintro e1 w1 ⟨s0, rfl, H0⟩
 go_wp2_with fail
 refine (K1.out w1 H0.out.1).mono ?_
 rintro e2 w2 ⟨rfl, H1⟩
 go_wp2_with fail
 refine (K2.out w2 H1.out.1).mono ?_
 rintro e3 w3 ⟨rfl, H2⟩
 go_wp2
 exact ⟨rfl, rfl, grown_trans (grown_trans (grown_trans (grown_of HB0.out) H0.out.2.2) H1.out.2) H2.out⟩
set_option maxHeartbeats 2000000 in
theorem rrec_no3 (r b o n c : Nat) (zs : List Int) (p : Nat) (w : World) (h : Rdr w r (some ⟨b, o, none⟩) n c zs p) (h1 : 1 <= n) (nn : List ByteArray × Nat) (h_nn : gnm zs p = some nn) (k : (Nat × Nat) × Nat) (h_k : gkind zs nn.2 = some k) (l : Nat × Nat) (h_l : g32 zs k.2 = some l) (h_s : g16 zs l.2 = none) :
   Calls Tryz.prog 59 #[.pointer (some ⟨r, 0, none⟩)] w fun e w' => e = .panicked thrown /\ Hid (w.grownBy w' (some r)) := by
 have K0 : Hid (∀ W, Rdr W r (some ⟨b, o, none⟩) n c zs p -> Calls Tryz.prog 89 #[.pointer (some ⟨r, 0, none⟩)] W fun e w' => ∃ s : Sl, e = .returned (.slice s.a s.n s.c) /\ Hid (Rdr w' r (some ⟨b, o, none⟩) n c zs nn.2 /\ Owx1 W.heap.size w' s nn.1 /\ W.grownBy w' (some r))) := fun W hW => rnm_yes r (some ⟨b, o, none⟩) n c zs p nn W hW h_nn
 have K1 : Hid (∀ W, Rdr W r (some ⟨b, o, none⟩) n c zs nn.2 -> Calls Tryz.prog 90 #[.pointer (some ⟨r, 0, none⟩)] W fun e w' => e = .returned (.tuple #[.int .u16 k.1.1, .int .u16 k.1.2]) /\ Hid (Rdr w' r (some ⟨b, o, none⟩) n c zs k.2 /\ W.grownBy w' (some r))) := fun W hW => rkind_yes r (some ⟨b, o, none⟩) n c zs nn.2 k W hW h_k
 have K2 : Hid (∀ W, Rdr W r (some ⟨b, o, none⟩) n c zs k.2 -> Calls Tryz.prog 91 #[.pointer (some ⟨r, 0, none⟩)] W fun e w' => e = .returned (.int .u32 l.1) /\ Hid (Rdr w' r (some ⟨b, o, none⟩) n c zs l.2 /\ W.grownBy w' (some r))) := fun W hW => r32_yes r (some ⟨b, o, none⟩) n c zs k.2 l W hW h_l
 have K3 : Hid (∀ W, Rdr W r (some ⟨b, o, none⟩) n c zs l.2 -> Calls Tryz.prog 93 #[.pointer (some ⟨r, 0, none⟩)] W fun e w' => e = .panicked thrown /\ Hid (W.grownBy w' (some r))) := fun W hW => r16_no r (some ⟨b, o, none⟩) n c zs l.2 W hW h_s
 have hb0 : Below w.heap.size w (w.alloc (.cells #[.slice none 0 0, .int .u16 0, .int .u16 0, .int .u32 0, .slice none 0 0, .slice none 0 0, .slice none 0 0, .slice none 0 0] 62)) := newq_below _ _
 have HR0 := Lib.hid (h.below hb0)
 have HB0 := Lib.hid hb0
 clear h hb0 h_nn h_k h_l h_s
 go_enter Tryz.func59, Tryz.ntmps59
 go_wp2_with fail
 generalize w.alloc (.cells #[.slice none 0 0, .int .u16 0, .int .u16 0, .int .u32 0, .slice none 0 0, .slice none 0 0, .slice none 0 0, .slice none 0 0] 62) = w0 at *
 refine (K0.out w0 HR0.out).mono ?_
 rintro e1 w1 ⟨s0, rfl, H0⟩
 go_wp2_with fail
 refine (K1.out w1 H0.out.1).mono ?_
 rintro e2 w2 ⟨rfl, H1⟩
 go_wp2_with fail
 refine (K2.out w2 H1.out.1).mono ?_
 rintro e3 w3 ⟨rfl, H2⟩
 go_wp2_with fail
 refine (K3.out w3 H2.out.1).mono ?_
 rintro e4 w4 ⟨rfl, H3⟩
 go_wp2
 exact ⟨rfl, rfl, grown_trans (grown_trans (grown_trans (grown_trans (grown_of HB0.out) H0.out.2.2) H1.out.2) H2.out.2) H3.out⟩
set_option maxHeartbeats 2000000 in
theorem rrec_no4 (r b o n c : Nat) (zs : List Int) (p : Nat) (w : World) (h : Rdr w r (some ⟨b, o, none⟩) n c zs p) (h1 : 1 <= n) (nn : List ByteArray × Nat) (h_nn : gnm zs p = some nn) (k : (Nat × Nat) × Nat) (h_k : gkind zs nn.2 = some k) (l : Nat × Nat) (h_l : g32 zs k.2 = some l) (s : Nat × Nat) (h_s : g16 zs l.2 = some s) (h_d : gdat k.1.1 s.1 zs s.2 = none) :
   Calls Tryz.prog 59 #[.pointer (some ⟨r, 0, none⟩)] w fun e w' => e = .panicked thrown /\ Hid (w.grownBy w' (some r)) := by
 have hsb := g16_bd h.rd.2 h_s
 have K0 : Hid (∀ W, Rdr W r (some ⟨b, o, none⟩) n c zs p -> Calls Tryz.prog 89 #[.pointer (some ⟨r, 0, none⟩)] W fun e w' => ∃ s : Sl, e = .returned (.slice s.a s.n s.c) /\ Hid (Rdr w' r (some ⟨b, o, none⟩) n c zs nn.2 /\ Owx1 W.heap.size w' s nn.1 /\ W.grownBy w' (some r))) := fun W hW => rnm_yes r (some ⟨b, o, none⟩) n c zs p nn W hW h_nn
 have K1 : Hid (∀ W, Rdr W r (some ⟨b, o, none⟩) n c zs nn.2 -> Calls Tryz.prog 90 #[.pointer (some ⟨r, 0, none⟩)] W fun e w' => e = .returned (.tuple #[.int .u16 k.1.1, .int .u16 k.1.2]) /\ Hid (Rdr w' r (some ⟨b, o, none⟩) n c zs k.2 /\ W.grownBy w' (some r))) := fun W hW => rkind_yes r (some ⟨b, o, none⟩) n c zs nn.2 k W hW h_k
 have K2 : Hid (∀ W, Rdr W r (some ⟨b, o, none⟩) n c zs k.2 -> Calls Tryz.prog 91 #[.pointer (some ⟨r, 0, none⟩)] W fun e w' => e = .returned (.int .u32 l.1) /\ Hid (Rdr w' r (some ⟨b, o, none⟩) n c zs l.2 /\ W.grownBy w' (some r))) := fun W hW => r32_yes r (some ⟨b, o, none⟩) n c zs k.2 l W hW h_l
 have K3 : Hid (∀ W, Rdr W r (some ⟨b, o, none⟩) n c zs l.2 -> Calls Tryz.prog 93 #[.pointer (some ⟨r, 0, none⟩)] W fun e w' => e = .returned (.int .i64 s.1) /\ Hid (Rdr w' r (some ⟨b, o, none⟩) n c zs s.2 /\ W.grownBy w' (some r))) := fun W hW => r16_yes r (some ⟨b, o, none⟩) n c zs l.2 s W hW h_s
 have K4 : Hid (∀ W, Rdr W r (some ⟨b, o, none⟩) n c zs s.2 -> Calls Tryz.prog 92 #[.pointer (some ⟨r, 0, none⟩), .int .u16 k.1.1, .int .i64 s.1] W fun e w' => e = .panicked thrown /\ Hid (W.grownBy w' (some r))) := fun W hW => rdata_no r b o n c zs s.2 k.1.1 s.1 W hW h1 hsb h_d
 have hb0 : Below w.heap.size w (w.alloc (.cells #[.slice none 0 0, .int .u16 0, .int .u16 0, .int .u32 0, .slice none 0 0, .slice none 0 0, .slice none 0 0, .slice none 0 0] 62)) := newq_below _ _
 have HR0 := Lib.hid (h.below hb0)
 have HB0 := Lib.hid hb0
 clear h hb0 h_nn h_k h_l h_s h_d
 go_enter Tryz.func59, Tryz.ntmps59
 go_wp2_with fail
 generalize w.alloc (.cells #[.slice none 0 0, .int .u16 0, .int .u16 0, .int .u32 0, .slice none 0 0, .slice none 0 0, .slice none 0 0, .slice none 0 0] 62) = w0 at *
 refine (K0.out w0 HR0.out).mono ?_
 rintro e1 w1 ⟨s0, rfl, H0⟩
 go_wp2_with fail
 refine (K1.out w1 H0.out.1).mono ?_
 rintro e2 w2 ⟨rfl, H1⟩
 go_wp2_with fail
 refine (K2.out w2 H1.out.1).mono ?_
 rintro e3 w3 ⟨rfl, H2⟩
 go_wp2_with fail
 refine (K3.out w3 H2.out.1).mono ?_
 rintro e4 w4 ⟨rfl, H3⟩
 go_wp2_with fail
 refine (K4.out w4 H3.out.1).mono ?_
 rintro e5 w5 ⟨rfl, H4⟩
 go_wp2
 exact ⟨rfl, rfl, grown_trans (grown_trans (grown_trans (grown_trans (grown_trans (grown_of HB0.out) H0.out.2.2) H1.out.2) H2.out.2) H3.out.2) H4.out⟩
theorem rrec_no (r b o n c : Nat) (zs : List Int) (p : Nat) (w : World) (h : Rdr w r (some ⟨b, o, none⟩) n c zs p) (h1 : 1 <= n) (hx : grec zs p = none) :
   Calls Tryz.prog 59 #[.pointer (some ⟨r, 0, none⟩)] w fun e w' => e = .panicked thrown /\ Hid (w.grownBy w' (some r)) := by
 rw [grec_k] at hx
 cases h_nn : gnm zs p with
 | none => exact rrec_no0 r b o n c zs p w h h1 h_nn
 | some nn =>
   rw [h_nn] at hx
   simp only [Option.bind_some] at hx
   cases h_k : gkind zs nn.2 with
   | none => exact rrec_no1 r b o n c zs p w h h1 nn h_nn h_k
   | some k =>
     rw [h_k] at hx
     simp only [Option.bind_some] at hx
     cases h_l : g32 zs k.2 with
     | none => exact rrec_no2 r b o n c zs p w h h1 nn h_nn k h_k h_l
     | some l =>
       rw [h_l] at hx
       simp only [Option.bind_some] at hx
       cases h_s : g16 zs l.2 with
       | none => exact rrec_no3 r b o n c zs p w h h1 nn h_nn k h_k l h_l h_s
       | some s =>
         rw [h_s] at hx
         simp only [Option.bind_some, Option.map_eq_none_iff] at hx
         exact rrec_no4 r b o n c zs p w h h1 nn h_nn k h_k l h_l s h_s hx
end Go.Proofs.YtkjnbgekaifdfaaGreat
namespace Go.Proofs.YtkjnbgekaifdfaaGreat
open Go.ChangeShapes Go.WideShapes Go.ChangeAt Go.RowKit
theorem put14 {w : World} {g : Nat} {u0 u1 u2 u3 u4 u5 u6 u7 u8 u9 u10 u11 u12 u13 : Value} {t : TypeId} (h : w.heap[g]? = some (.cells #[u0, u1, u2, u3, u4, u5, u6, u7, u8, u9, u10, u11, u12, u13] t)) (x0 x1 x2 x3 x4 x5 x6 x7 x8 x9 x10 x11 x12 x13 : Value) : ((((((((((((((w.setCell ⟨g, 0, none⟩ x0).setCell ⟨g, 1, none⟩ x1).setCell ⟨g, 2, none⟩ x2).setCell ⟨g, 3, none⟩ x3).setCell ⟨g, 4, none⟩ x4).setCell ⟨g, 5, none⟩ x5).setCell ⟨g, 6, none⟩ x6).setCell ⟨g, 7, none⟩ x7).setCell ⟨g, 8, none⟩ x8).setCell ⟨g, 9, none⟩ x9).setCell ⟨g, 10, none⟩ x10).setCell ⟨g, 11, none⟩ x11).setCell ⟨g, 12, none⟩ x12).setCell ⟨g, 13, none⟩ x13).heap[g]? = some (.cells #[x0, x1, x2, x3, x4, x5, x6, x7, x8, x9, x10, x11, x12, x13] t) := by
 have h0 : (w.setCell ⟨g, 0, none⟩ x0).heap[g]? = some (.cells #[x0, u1, u2, u3, u4, u5, u6, u7, u8, u9, u10, u11, u12, u13] t) := heap_set h 0 x0
 have h1 : ((w.setCell ⟨g, 0, none⟩ x0).setCell ⟨g, 1, none⟩ x1).heap[g]? = some (.cells #[x0, x1, u2, u3, u4, u5, u6, u7, u8, u9, u10, u11, u12, u13] t) := heap_set h0 1 x1
 have h2 : (((w.setCell ⟨g, 0, none⟩ x0).setCell ⟨g, 1, none⟩ x1).setCell ⟨g, 2, none⟩ x2).heap[g]? = some (.cells #[x0, x1, x2, u3, u4, u5, u6, u7, u8, u9, u10, u11, u12, u13] t) := heap_set h1 2 x2
 have h3 : ((((w.setCell ⟨g, 0, none⟩ x0).setCell ⟨g, 1, none⟩ x1).setCell ⟨g, 2, none⟩ x2).setCell ⟨g, 3, none⟩ x3).heap[g]? = some (.cells #[x0, x1, x2, x3, u4, u5, u6, u7, u8, u9, u10, u11, u12, u13] t) := heap_set h2 3 x3
 have h4 : (((((w.setCell ⟨g, 0, none⟩ x0).setCell ⟨g, 1, none⟩ x1).setCell ⟨g, 2, none⟩ x2).setCell ⟨g, 3, none⟩ x3).setCell ⟨g, 4, none⟩ x4).heap[g]? = some (.cells #[x0, x1, x2, x3, x4, u5, u6, u7, u8, u9, u10, u11, u12, u13] t) := heap_set h3 4 x4
 have h5 : ((((((w.setCell ⟨g, 0, none⟩ x0).setCell ⟨g, 1, none⟩ x1).setCell ⟨g, 2, none⟩ x2).setCell ⟨g, 3, none⟩ x3).setCell ⟨g, 4, none⟩ x4).setCell ⟨g, 5, none⟩ x5).heap[g]? = some (.cells #[x0, x1, x2, x3, x4, x5, u6, u7, u8, u9, u10, u11, u12, u13] t) := heap_set h4 5 x5
 have h6 : (((((((w.setCell ⟨g, 0, none⟩ x0).setCell ⟨g, 1, none⟩ x1).setCell ⟨g, 2, none⟩ x2).setCell ⟨g, 3, none⟩ x3).setCell ⟨g, 4, none⟩ x4).setCell ⟨g, 5, none⟩ x5).setCell ⟨g, 6, none⟩ x6).heap[g]? = some (.cells #[x0, x1, x2, x3, x4, x5, x6, u7, u8, u9, u10, u11, u12, u13] t) := heap_set h5 6 x6
 have h7 : ((((((((w.setCell ⟨g, 0, none⟩ x0).setCell ⟨g, 1, none⟩ x1).setCell ⟨g, 2, none⟩ x2).setCell ⟨g, 3, none⟩ x3).setCell ⟨g, 4, none⟩ x4).setCell ⟨g, 5, none⟩ x5).setCell ⟨g, 6, none⟩ x6).setCell ⟨g, 7, none⟩ x7).heap[g]? = some (.cells #[x0, x1, x2, x3, x4, x5, x6, x7, u8, u9, u10, u11, u12, u13] t) := heap_set h6 7 x7
 have h8 : (((((((((w.setCell ⟨g, 0, none⟩ x0).setCell ⟨g, 1, none⟩ x1).setCell ⟨g, 2, none⟩ x2).setCell ⟨g, 3, none⟩ x3).setCell ⟨g, 4, none⟩ x4).setCell ⟨g, 5, none⟩ x5).setCell ⟨g, 6, none⟩ x6).setCell ⟨g, 7, none⟩ x7).setCell ⟨g, 8, none⟩ x8).heap[g]? = some (.cells #[x0, x1, x2, x3, x4, x5, x6, x7, x8, u9, u10, u11, u12, u13] t) := heap_set h7 8 x8
 have h9 : ((((((((((w.setCell ⟨g, 0, none⟩ x0).setCell ⟨g, 1, none⟩ x1).setCell ⟨g, 2, none⟩ x2).setCell ⟨g, 3, none⟩ x3).setCell ⟨g, 4, none⟩ x4).setCell ⟨g, 5, none⟩ x5).setCell ⟨g, 6, none⟩ x6).setCell ⟨g, 7, none⟩ x7).setCell ⟨g, 8, none⟩ x8).setCell ⟨g, 9, none⟩ x9).heap[g]? = some (.cells #[x0, x1, x2, x3, x4, x5, x6, x7, x8, x9, u10, u11, u12, u13] t) := heap_set h8 9 x9
 have h10 : (((((((((((w.setCell ⟨g, 0, none⟩ x0).setCell ⟨g, 1, none⟩ x1).setCell ⟨g, 2, none⟩ x2).setCell ⟨g, 3, none⟩ x3).setCell ⟨g, 4, none⟩ x4).setCell ⟨g, 5, none⟩ x5).setCell ⟨g, 6, none⟩ x6).setCell ⟨g, 7, none⟩ x7).setCell ⟨g, 8, none⟩ x8).setCell ⟨g, 9, none⟩ x9).setCell ⟨g, 10, none⟩ x10).heap[g]? = some (.cells #[x0, x1, x2, x3, x4, x5, x6, x7, x8, x9, x10, u11, u12, u13] t) := heap_set h9 10 x10
 have h11 : ((((((((((((w.setCell ⟨g, 0, none⟩ x0).setCell ⟨g, 1, none⟩ x1).setCell ⟨g, 2, none⟩ x2).setCell ⟨g, 3, none⟩ x3).setCell ⟨g, 4, none⟩ x4).setCell ⟨g, 5, none⟩ x5).setCell ⟨g, 6, none⟩ x6).setCell ⟨g, 7, none⟩ x7).setCell ⟨g, 8, none⟩ x8).setCell ⟨g, 9, none⟩ x9).setCell ⟨g, 10, none⟩ x10).setCell ⟨g, 11, none⟩ x11).heap[g]? = some (.cells #[x0, x1, x2, x3, x4, x5, x6, x7, x8, x9, x10, x11, u12, u13] t) := heap_set h10 11 x11
 have h12 : (((((((((((((w.setCell ⟨g, 0, none⟩ x0).setCell ⟨g, 1, none⟩ x1).setCell ⟨g, 2, none⟩ x2).setCell ⟨g, 3, none⟩ x3).setCell ⟨g, 4, none⟩ x4).setCell ⟨g, 5, none⟩ x5).setCell ⟨g, 6, none⟩ x6).setCell ⟨g, 7, none⟩ x7).setCell ⟨g, 8, none⟩ x8).setCell ⟨g, 9, none⟩ x9).setCell ⟨g, 10, none⟩ x10).setCell ⟨g, 11, none⟩ x11).setCell ⟨g, 12, none⟩ x12).heap[g]? = some (.cells #[x0, x1, x2, x3, x4, x5, x6, x7, x8, x9, x10, x11, x12, u13] t) := heap_set h11 12 x12
 have h13 : ((((((((((((((w.setCell ⟨g, 0, none⟩ x0).setCell ⟨g, 1, none⟩ x1).setCell ⟨g, 2, none⟩ x2).setCell ⟨g, 3, none⟩ x3).setCell ⟨g, 4, none⟩ x4).setCell ⟨g, 5, none⟩ x5).setCell ⟨g, 6, none⟩ x6).setCell ⟨g, 7, none⟩ x7).setCell ⟨g, 8, none⟩ x8).setCell ⟨g, 9, none⟩ x9).setCell ⟨g, 10, none⟩ x10).setCell ⟨g, 11, none⟩ x11).setCell ⟨g, 12, none⟩ x12).setCell ⟨g, 13, none⟩ x13).heap[g]? = some (.cells #[x0, x1, x2, x3, x4, x5, x6, x7, x8, x9, x10, x11, x12, x13] t) := heap_set h12 13 x13
 exact h13
theorem put14_below (w : World) (g : Nat) (x0 x1 x2 x3 x4 x5 x6 x7 x8 x9 x10 x11 x12 x13 : Value) : Below g w ((((((((((((((w.setCell ⟨g, 0, none⟩ x0).setCell ⟨g, 1, none⟩ x1).setCell ⟨g, 2, none⟩ x2).setCell ⟨g, 3, none⟩ x3).setCell ⟨g, 4, none⟩ x4).setCell ⟨g, 5, none⟩ x5).setCell ⟨g, 6, none⟩ x6).setCell ⟨g, 7, none⟩ x7).setCell ⟨g, 8, none⟩ x8).setCell ⟨g, 9, none⟩ x9).setCell ⟨g, 10, none⟩ x10).setCell ⟨g, 11, none⟩ x11).setCell ⟨g, 12, none⟩ x12).setCell ⟨g, 13, none⟩ x13) :=
 ((((((((((((((Below.refl g w).setCell (p := ⟨g, 0, none⟩) (Nat.le_refl g) x0).setCell (p := ⟨g, 1, none⟩) (Nat.le_refl g) x1).setCell (p := ⟨g, 2, none⟩) (Nat.le_refl g) x2).setCell (p := ⟨g, 3, none⟩) (Nat.le_refl g) x3).setCell (p := ⟨g, 4, none⟩) (Nat.le_refl g) x4).setCell (p := ⟨g, 5, none⟩) (Nat.le_refl g) x5).setCell (p := ⟨g, 6, none⟩) (Nat.le_refl g) x6).setCell (p := ⟨g, 7, none⟩) (Nat.le_refl g) x7).setCell (p := ⟨g, 8, none⟩) (Nat.le_refl g) x8).setCell (p := ⟨g, 9, none⟩) (Nat.le_refl g) x9).setCell (p := ⟨g, 10, none⟩) (Nat.le_refl g) x10).setCell (p := ⟨g, 11, none⟩) (Nat.le_refl g) x11).setCell (p := ⟨g, 12, none⟩) (Nat.le_refl g) x12).setCell (p := ⟨g, 13, none⟩) (Nat.le_refl g) x13
theorem put14_other (w : World) (g : Nat) (x0 x1 x2 x3 x4 x5 x6 x7 x8 x9 x10 x11 x12 x13 : Value) (j : Nat) (h : j ≠ g) : ((((((((((((((w.setCell ⟨g, 0, none⟩ x0).setCell ⟨g, 1, none⟩ x1).setCell ⟨g, 2, none⟩ x2).setCell ⟨g, 3, none⟩ x3).setCell ⟨g, 4, none⟩ x4).setCell ⟨g, 5, none⟩ x5).setCell ⟨g, 6, none⟩ x6).setCell ⟨g, 7, none⟩ x7).setCell ⟨g, 8, none⟩ x8).setCell ⟨g, 9, none⟩ x9).setCell ⟨g, 10, none⟩ x10).setCell ⟨g, 11, none⟩ x11).setCell ⟨g, 12, none⟩ x12).setCell ⟨g, 13, none⟩ x13).heap[j]? = w.heap[j]? := by
 rw [Below.heap_setCell _ _ _ _ h, Below.heap_setCell _ _ _ _ h, Below.heap_setCell _ _ _ _ h, Below.heap_setCell _ _ _ _ h, Below.heap_setCell _ _ _ _ h, Below.heap_setCell _ _ _ _ h, Below.heap_setCell _ _ _ _ h, Below.heap_setCell _ _ _ _ h, Below.heap_setCell _ _ _ _ h, Below.heap_setCell _ _ _ _ h, Below.heap_setCell _ _ _ _ h, Below.heap_setCell _ _ _ _ h, Below.heap_setCell _ _ _ _ h, Below.heap_setCell _ _ _ _ h]
end Go.Proofs.YtkjnbgekaifdfaaGreat
namespace Go.Proofs.YtkjnbgekaifdfaaGreat
open Go.ChangeShapes Go.WideShapes Go.ChangeAt Go.RowKit Go.Maps
theorem put4 {w : World} {g : Nat} {a b c d : Value} {t : TypeId} (h : w.heap[g]? = some (.cells #[a, b, c, d] t)) (x y z u : Value) : ((((w.setCell ⟨g, 0, none⟩ x).setCell ⟨g, 1, none⟩ y).setCell ⟨g, 2, none⟩ z).setCell ⟨g, 3, none⟩ u).heap[g]? = some (.cells #[x, y, z, u] t) :=
 (heap_set (heap_set (heap_set (heap_set h 0 _) 1 _) 2 _) 3 _).trans (by simp)
theorem put4_other (w : World) (g : Nat) (x y z u : Value) (j : Nat) (hj : j ≠ g) : ((((w.setCell ⟨g, 0, none⟩ x).setCell ⟨g, 1, none⟩ y).setCell ⟨g, 2, none⟩ z).setCell ⟨g, 3, none⟩ u).heap[j]? = w.heap[j]? :=
 (((Below.heap_setCell _ _ _ j hj).trans (Below.heap_setCell _ _ _ j hj)).trans (Below.heap_setCell _ _ _ j hj)).trans (Below.heap_setCell _ _ _ j hj)
theorem put4_below (w : World) (g : Nat) (x y z u : Value) : Below g w ((((w.setCell ⟨g, 0, none⟩ x).setCell ⟨g, 1, none⟩ y).setCell ⟨g, 2, none⟩ z).setCell ⟨g, 3, none⟩ u) :=
 ⟨rfl, rfl, rfl, by simp [World.setCell], fun j hj => put4_other w g x y z u j (by omega)⟩
theorem Rdr.low {w w' : World} {r b o n c p B : Nat} {zs : List Int} (h : Rdr w r (some ⟨b, o, none⟩) n c zs p) (hb : Below B w w') (hr : r < B) (hbB : b < B) : Rdr w' r (some ⟨b, o, none⟩) n c zs p :=
 ⟨(hb.block r hr).trans h.box, h.rd.of_blocks hb.size (fun b' o' e => by cases e; exact hb.block b hbB), h.len, h.cap, h.big, h.off, h.nil, h.pn⟩
theorem grown_low {w w4 w5 : World} {r : Nat} (h : w.grownBy w4 (some r)) (hb : Below w.heap.size w4 w5) : w.grownBy w5 (some r) :=
 ⟨hb.os.trans h.os, hb.tape.trans h.tape, hb.output.trans h.output, Nat.le_trans h.size hb.size, fun j hj hne => (hb.block j hj).trans (h.block j hj hne)⟩
theorem head_end {w : World} {B0 B1 : Nat} {v0 v1 v2 v3 v4 v5 v6 v7 v8 v9 v10 v11 v12 v13 u0 u1 u2 u3 : Value} {t t' : TypeId} (h1 : w.heap[B0]? = some (.cells #[v0, v1, v2, v3, v4, v5, v6, v7, v8, v9, v10, v11, v12, v13] t)) (h2 : w.heap[B1]? = some (.cells #[u0, u1, u2, u3] t')) (hne : ¬ B0 = B1) (hlt : B0 < B1) (x0 x1 x2 x3 x4 x5 x6 x7 x8 x9 x10 x11 x12 x13 y0 y1 y2 y3 : Value) :
   (((((((((((((((((((w.setCell ⟨B0, 0, none⟩ (x0)).setCell ⟨B0, 1, none⟩ (x1)).setCell ⟨B0, 2, none⟩ (x2)).setCell ⟨B0, 3, none⟩ (x3)).setCell ⟨B0, 4, none⟩ (x4)).setCell ⟨B0, 5, none⟩ (x5)).setCell ⟨B0, 6, none⟩ (x6)).setCell ⟨B0, 7, none⟩ (x7)).setCell ⟨B0, 8, none⟩ (x8)).setCell ⟨B0, 9, none⟩ (x9)).setCell ⟨B0, 10, none⟩ (x10)).setCell ⟨B0, 11, none⟩ (x11)).setCell ⟨B0, 12, none⟩ (x12)).setCell ⟨B0, 13, none⟩ (x13)).setCell ⟨B1, 0, none⟩ (y0)).setCell ⟨B1, 1, none⟩ (y1)).setCell ⟨B1, 2, none⟩ (y2)).setCell ⟨B1, 3, none⟩ (y3)).drew).heap[B0]? = some (.cells #[x0, x1, x2, x3, x4, x5, x6, x7, x8, x9, x10, x11, x12, x13] t) /\ (((((((((((((((((((w.setCell ⟨B0, 0, none⟩ (x0)).setCell ⟨B0, 1, none⟩ (x1)).setCell ⟨B0, 2, none⟩ (x2)).setCell ⟨B0, 3, none⟩ (x3)).setCell ⟨B0, 4, none⟩ (x4)).setCell ⟨B0, 5, none⟩ (x5)).setCell ⟨B0, 6, none⟩ (x6)).setCell ⟨B0, 7, none⟩ (x7)).setCell ⟨B0, 8, none⟩ (x8)).setCell ⟨B0, 9, none⟩ (x9)).setCell ⟨B0, 10, none⟩ (x10)).setCell ⟨B0, 11, none⟩ (x11)).setCell ⟨B0, 12, none⟩ (x12)).setCell ⟨B0, 13, none⟩ (x13)).setCell ⟨B1, 0, none⟩ (y0)).setCell ⟨B1, 1, none⟩ (y1)).setCell ⟨B1, 2, none⟩ (y2)).setCell ⟨B1, 3, none⟩ (y3)).drew).heap[B1]? = some (.cells #[y0, y1, y2, y3] t') /\ Below B0 w (((((((((((((((((((w.setCell ⟨B0, 0, none⟩ (x0)).setCell ⟨B0, 1, none⟩ (x1)).setCell ⟨B0, 2, none⟩ (x2)).setCell ⟨B0, 3, none⟩ (x3)).setCell ⟨B0, 4, none⟩ (x4)).setCell ⟨B0, 5, none⟩ (x5)).setCell ⟨B0, 6, none⟩ (x6)).setCell ⟨B0, 7, none⟩ (x7)).setCell ⟨B0, 8, none⟩ (x8)).setCell ⟨B0, 9, none⟩ (x9)).setCell ⟨B0, 10, none⟩ (x10)).setCell ⟨B0, 11, none⟩ (x11)).setCell ⟨B0, 12, none⟩ (x12)).setCell ⟨B0, 13, none⟩ (x13)).setCell ⟨B1, 0, none⟩ (y0)).setCell ⟨B1, 1, none⟩ (y1)).setCell ⟨B1, 2, none⟩ (y2)).setCell ⟨B1, 3, none⟩ (y3)).drew) := by
 have e1 := put14 h1 x0 x1 x2 x3 x4 x5 x6 x7 x8 x9 x10 x11 x12 x13
 have e2 := put14_other w B0 x0 x1 x2 x3 x4 x5 x6 x7 x8 x9 x10 x11 x12 x13 B1 (fun e => hne e.symm)
 have e3 := put14_below w B0 x0 x1 x2 x3 x4 x5 x6 x7 x8 x9 x10 x11 x12 x13
 generalize ((((((((((((((w.setCell ⟨B0, 0, none⟩ (x0)).setCell ⟨B0, 1, none⟩ (x1)).setCell ⟨B0, 2, none⟩ (x2)).setCell ⟨B0, 3, none⟩ (x3)).setCell ⟨B0, 4, none⟩ (x4)).setCell ⟨B0, 5, none⟩ (x5)).setCell ⟨B0, 6, none⟩ (x6)).setCell ⟨B0, 7, none⟩ (x7)).setCell ⟨B0, 8, none⟩ (x8)).setCell ⟨B0, 9, none⟩ (x9)).setCell ⟨B0, 10, none⟩ (x10)).setCell ⟨B0, 11, none⟩ (x11)).setCell ⟨B0, 12, none⟩ (x12)).setCell ⟨B0, 13, none⟩ (x13)) = w1 at *
 have e4 := put4_other w1 B1 y0 y1 y2 y3 B0 hne
 have e5 := put4 (e2.trans h2) y0 y1 y2 y3
 have e6 := put4_below w1 B1 y0 y1 y2 y3
 generalize ((((w1.setCell ⟨B1, 0, none⟩ (y0)).setCell ⟨B1, 1, none⟩ (y1)).setCell ⟨B1, 2, none⟩ (y2)).setCell ⟨B1, 3, none⟩ (y3)) = w2 at *
 exact ⟨e4.trans e1, e5, (e3.trans (e6.mono (by omega))).drew⟩
def RhP (r : Nat) (a : Option Addr) (n c : Nat) (zs : List Int) (w : World) (e : Ending) (w' : World) : Prop :=
 e = .returned (.tuple #[.agg (msgU (nv zs 0) (nv zs 1)), .agg #[.int .i64 (nv zs 2 : Int), .int .i64 (nv zs 3 : Int), .int .i64 (nv zs 4 : Int), .int .i64 (nv zs 5 : Int)]]) /\ Hid (Rdr w' r a n c zs 12 /\ w.grownBy w' (some r))
theorem two_at (w : World) (x y : Obj) : ((w.alloc x).alloc y).heap[w.heap.size]? = some x /\ ((w.alloc x).alloc y).heap[w.heap.size + 1]? = some y /\ ((w.alloc x).alloc y).heap.size = w.heap.size + 2 /\ Below w.heap.size w ((w.alloc x).alloc y) := by
 refine ⟨block_alloc (alloc_at _ _) _, ?_, by simp, ((Below.refl _ _).alloc (Nat.le_refl _) _).alloc (by simp) _⟩
 have := alloc_at (w.alloc x) y
 simp only [World.size_alloc] at this
 exact this
set_option maxHeartbeats 4000000 in
theorem rhead_yes (r b o n c : Nat) (zs : List Int) (p : Nat) (w : World) (h : Rdr w r (some ⟨b, o, none⟩) n c zs p) (hx : ¬ hdBad zs) :
   Calls Tryz.prog 57 #[.pointer (some ⟨r, 0, none⟩)] w (RhP r (some ⟨b, o, none⟩) n c zs w) := by
 have hgood : ¬ (zs.length < 12 ∨ unfl (nv zs 1) 64 = true) := fun e => hx (.inl e)
 have hcnt : nv zs 2 <= 16 /\ nv zs 3 + nv zs 4 + nv zs 5 <= 512 := by
   by_cases e : nv zs 2 <= 16 /\ nv zs 3 + nv zs 4 + nv zs 5 <= 512
   · exact e
   · exact absurd (.inr e) hx
 have hn12 : 12 <= n := by
   have := h.len
   by_cases e : zs.length < 12
   · exact absurd (.inl e) hgood
   · omega
 have h1 : 1 <= n := by omega
 have K1 : Hid (∀ W, Rd W (some ⟨b, o, none⟩) zs -> Calls Tryz.prog 88 #[.slice (some ⟨b, o, none⟩) n c] W fun e w' => e = .returned (.tuple #[.agg #[.int .u16 (nv zs 0 : Int), .bool (unfl (nv zs 1) 32768), .int .i64 (unop (nv zs 1) : Nat), .bool (unfl (nv zs 1) 1024), .bool (unfl (nv zs 1) 512), .bool (unfl (nv zs 1) 256), .bool (unfl (nv zs 1) 128), .bool (unfl (nv zs 1) 32), .bool (unfl (nv zs 1) 16), .int .i64 (unrc (nv zs 1) : Nat), .slice none 0 0, .slice none 0 0, .slice none 0 0, .slice none 0 0], .agg #[.int .i64 (nv zs 2 : Int), .int .i64 (nv zs 3 : Int), .int .i64 (nv zs 4 : Int), .int .i64 (nv zs 5 : Int)], .int .i64 0]) /\ Below W.heap.size W w') := by
   intro W hW
   refine (read18 (some ⟨b, o, none⟩) n c zs W hW h.len h.cap.1 h.cap.2).mono ?_
   rintro e w' ⟨q1, q2, q3⟩
   exact ⟨q2 hgood, q3⟩
 have HN : RhP r (some ⟨b, o, none⟩) n c zs w = fun e w' => e = .returned (.tuple #[.agg #[.int .u16 (nv zs 0 : Int), .bool (unfl (nv zs 1) 32768), .int .i64 (unop (nv zs 1) : Nat), .bool (unfl (nv zs 1) 1024), .bool (unfl (nv zs 1) 512), .bool (unfl (nv zs 1) 256), .bool (unfl (nv zs 1) 128), .bool (unfl (nv zs 1) 32), .bool (unfl (nv zs 1) 16), .int .i64 (unrc (nv zs 1) : Nat), .slice none 0 0, .slice none 0 0, .slice none 0 0, .slice none 0 0], .agg #[.int .i64 (nv zs 2 : Int), .int .i64 (nv zs 3 : Int), .int .i64 (nv zs 4 : Int), .int .i64 (nv zs 5 : Int)]]) /\ Hid (Rdr w' r (some ⟨b, o, none⟩) n c zs 12 /\ w.grownBy w' (some r)) := rfl
 rw [HN]
 clear HN hgood hx
 generalize nv zs 0 = I at *
 generalize nv zs 1 = F at *
 generalize nv zs 2 = C2 at *
 generalize nv zs 3 = C3 at *
 generalize nv zs 4 = C4 at *
 generalize nv zs 5 = C5 at *
 obtain ⟨hc2, hc3⟩ := hcnt
 have KY := fun W => Lib.hid (need_yes W)
 obtain ⟨v0, v1, v2, v3⟩ := two_at w (.cells #[.int .u16 0, .bool false, .int .i64 0, .bool false, .bool false, .bool false, .bool false, .bool false, .bool false, .int .i64 0, .slice none 0 0, .slice none 0 0, .slice none 0 0, .slice none 0 0] 26) (.cells #[.int .i64 0, .int .i64 0, .int .i64 0, .int .i64 0] 74)
 have HV : Hid (((w.alloc (.cells #[.int .u16 0, .bool false, .int .i64 0, .bool false, .bool false, .bool false, .bool false, .bool false, .bool false, .int .i64 0, .slice none 0 0, .slice none 0 0, .slice none 0 0, .slice none 0 0] 26)).alloc (.cells #[.int .i64 0, .int .i64 0, .int .i64 0, .int .i64 0] 74)).heap[w.heap.size]? = some (.cells #[.int .u16 0, .bool false, .int .i64 0, .bool false, .bool false, .bool false, .bool false, .bool false, .bool false, .int .i64 0, .slice none 0 0, .slice none 0 0, .slice none 0 0, .slice none 0 0] 26) /\ ((w.alloc (.cells #[.int .u16 0, .bool false, .int .i64 0, .bool false, .bool false, .bool false, .bool false, .bool false, .bool false, .int .i64 0, .slice none 0 0, .slice none 0 0, .slice none 0 0, .slice none 0 0] 26)).alloc (.cells #[.int .i64 0, .int .i64 0, .int .i64 0, .int .i64 0] 74)).heap[w.heap.size + 1]? = some (.cells #[.int .i64 0, .int .i64 0, .int .i64 0, .int .i64 0] 74) /\ ((w.alloc (.cells #[.int .u16 0, .bool false, .int .i64 0, .bool false, .bool false, .bool false, .bool false, .bool false, .bool false, .int .i64 0, .slice none 0 0, .slice none 0 0, .slice none 0 0, .slice none 0 0] 26)).alloc (.cells #[.int .i64 0, .int .i64 0, .int .i64 0, .int .i64 0] 74)).heap.size = w.heap.size + 2 /\ Below w.heap.size w ((w.alloc (.cells #[.int .u16 0, .bool false, .int .i64 0, .bool false, .bool false, .bool false, .bool false, .bool false, .bool false, .int .i64 0, .slice none 0 0, .slice none 0 0, .slice none 0 0, .slice none 0 0] 26)).alloc (.cells #[.int .i64 0, .int .i64 0, .int .i64 0, .int .i64 0] 74))) := ⟨v0, v1, v2, v3⟩
 have HR0 := Lib.hid (h.below v3)
 have hrw := box_lt h.box
 have hbw := h.blt h1
 obtain ⟨B0, hB0⟩ : ∃ B0, B0 = w.heap.size := ⟨_, rfl⟩
 obtain ⟨B1, hB1⟩ : ∃ B1, B1 = B0 + 1 := ⟨_, rfl⟩
 have HBB : Hid (B0 = w.heap.size /\ B1 = w.heap.size + 1) := ⟨hB0, by rw [hB1, hB0]⟩
 have hne1 : ¬ B0 = B1 := by omega
 have hne2 : ¬ B1 = B0 := by omega
 rw [<- hB0, <- hB1] at HV
 clear h v0 v1 v2 v3
 have c0 : ((w.alloc (.cells #[.int .u16 0, .bool false, .int .i64 0, .bool false, .bool false, .bool false, .bool false, .bool false, .bool false, .int .i64 0, .slice none 0 0, .slice none 0 0, .slice none 0 0, .slice none 0 0] 26)).alloc (.cells #[.int .i64 0, .int .i64 0, .int .i64 0, .int .i64 0] 74)).cell? ⟨r, 0, none⟩ = some (.slice (some ⟨b, o, none⟩) n c) := box_cell HR0.out.box 0 _ rfl
 have hlt : r < ((w.alloc (.cells #[.int .u16 0, .bool false, .int .i64 0, .bool false, .bool false, .bool false, .bool false, .bool false, .bool false, .int .i64 0, .slice none 0 0, .slice none 0 0, .slice none 0 0, .slice none 0 0] 26)).alloc (.cells #[.int .i64 0, .int .i64 0, .int .i64 0, .int .i64 0] 74)).heap.size := box_lt HR0.out.box
 go_enter Tryz.func57, Tryz.ntmps57
 go_upto_region 1 with fail
 simp only [World.size_alloc, <- hB0, <- hB1]
 generalize ((w.alloc (.cells #[.int .u16 0, .bool false, .int .i64 0, .bool false, .bool false, .bool false, .bool false, .bool false, .bool false, .int .i64 0, .slice none 0 0, .slice none 0 0, .slice none 0 0, .slice none 0 0] 26)).alloc (.cells #[.int .i64 0, .int .i64 0, .int .i64 0, .int .i64 0] 74)) = w0 at *
 clear hB0 hB1
 go_wp2_with fail
 refine (K1.out w0 HR0.out.rd).mono ?_
 rintro e1 w1 ⟨rfl, hb1⟩
 have HB1 := Lib.hid hb1
 obtain ⟨v0, v1, v2, v3⟩ := two_at w1 (.cells #[.int .u16 (I : Int), .bool (unfl F 32768), .int .i64 (unop F : Nat), .bool (unfl F 1024), .bool (unfl F 512), .bool (unfl F 256), .bool (unfl F 128), .bool (unfl F 32), .bool (unfl F 16), .int .i64 (unrc F : Nat), .slice none 0 0, .slice none 0 0, .slice none 0 0, .slice none 0 0] 26) (.cells #[.int .i64 (C2 : Int), .int .i64 (C3 : Int), .int .i64 (C4 : Int), .int .i64 (C5 : Int)] 74)
 have HB2 : Hid (Below w0.heap.size w0 ((w1.alloc (.cells #[.int .u16 (I : Int), .bool (unfl F 32768), .int .i64 (unop F : Nat), .bool (unfl F 1024), .bool (unfl F 512), .bool (unfl F 256), .bool (unfl F 128), .bool (unfl F 32), .bool (unfl F 16), .int .i64 (unrc F : Nat), .slice none 0 0, .slice none 0 0, .slice none 0 0, .slice none 0 0] 26)).alloc (.cells #[.int .i64 (C2 : Int), .int .i64 (C3 : Int), .int .i64 (C4 : Int), .int .i64 (C5 : Int)] 74))) := hb1.trans (v3.mono hb1.size)
 have HR2 := Lib.hid (HR0.out.below HB2.out)
 have HD2 : Hid (((w1.alloc (.cells #[.int .u16 (I : Int), .bool (unfl F 32768), .int .i64 (unop F : Nat), .bool (unfl F 1024), .bool (unfl F 512), .bool (unfl F 256), .bool (unfl F 128), .bool (unfl F 32), .bool (unfl F 16), .int .i64 (unrc F : Nat), .slice none 0 0, .slice none 0 0, .slice none 0 0, .slice none 0 0] 26)).alloc (.cells #[.int .i64 (C2 : Int), .int .i64 (C3 : Int), .int .i64 (C4 : Int), .int .i64 (C5 : Int)] 74)).heap[w1.heap.size]? = some (.cells #[.int .u16 (I : Int), .bool (unfl F 32768), .int .i64 (unop F : Nat), .bool (unfl F 1024), .bool (unfl F 512), .bool (unfl F 256), .bool (unfl F 128), .bool (unfl F 32), .bool (unfl F 16), .int .i64 (unrc F : Nat), .slice none 0 0, .slice none 0 0, .slice none 0 0, .slice none 0 0] 26) /\ ((w1.alloc (.cells #[.int .u16 (I : Int), .bool (unfl F 32768), .int .i64 (unop F : Nat), .bool (unfl F 1024), .bool (unfl F 512), .bool (unfl F 256), .bool (unfl F 128), .bool (unfl F 32), .bool (unfl F 16), .int .i64 (unrc F : Nat), .slice none 0 0, .slice none 0 0, .slice none 0 0, .slice none 0 0] 26)).alloc (.cells #[.int .i64 (C2 : Int), .int .i64 (C3 : Int), .int .i64 (C4 : Int), .int .i64 (C5 : Int)] 74)).heap[w1.heap.size + 1]? = some (.cells #[.int .i64 (C2 : Int), .int .i64 (C3 : Int), .int .i64 (C4 : Int), .int .i64 (C5 : Int)] 74)) := ⟨v0, v1⟩
 obtain ⟨D0, hD0⟩ : ∃ D0, D0 = w1.heap.size := ⟨_, rfl⟩
 obtain ⟨D1, hD1⟩ : ∃ D1, D1 = D0 + 1 := ⟨_, rfl⟩
 have HDs : Hid (w0.heap.size <= D0) := (by rw [hD0]; exact hb1.size : w0.heap.size <= D0)
 rw [<- hD0, <- hD1] at HD2
 clear c0 hlt hb1 v0 v1 v2 v3 K1 HR0
 go_upto_region 2 with fail
 simp only [World.size_alloc, <- hD0, <- hD1]
 generalize ((w1.alloc (.cells #[.int .u16 (I : Int), .bool (unfl F 32768), .int .i64 (unop F : Nat), .bool (unfl F 1024), .bool (unfl F 512), .bool (unfl F 256), .bool (unfl F 128), .bool (unfl F 32), .bool (unfl F 16), .int .i64 (unrc F : Nat), .slice none 0 0, .slice none 0 0, .slice none 0 0, .slice none 0 0] 26)).alloc (.cells #[.int .i64 (C2 : Int), .int .i64 (C3 : Int), .int .i64 (C4 : Int), .int .i64 (C5 : Int)] 74)) = w2 at *
 have HDD : Hid (D1 = D0 + 1) := hD1
 clear hD0 hD1
 have k0 : w2.cell? ⟨D1, 0, none⟩ = some (.int .i64 (C2 : Int)) := box_cell HD2.out.2 0 _ rfl
 have k1 : w2.cell? ⟨D1, 1, none⟩ = some (.int .i64 (C3 : Int)) := box_cell HD2.out.2 1 _ rfl
 have k2 : w2.cell? ⟨D1, 2, none⟩ = some (.int .i64 (C4 : Int)) := box_cell HD2.out.2 2 _ rfl
 have k3 : w2.cell? ⟨D1, 3, none⟩ = some (.int .i64 (C5 : Int)) := box_cell HD2.out.2 3 _ rfl
 have hltD := box_lt HD2.out.2
 go_wp2_with fail
 refine (KY w2).out.mono ?_
 rintro e3 w3 ⟨rfl, hw3⟩
 subst w3
 have j1 : (C2 : Int) <= 16 := by omega
 have j2 : ((C3 : Int) + (C4 : Int)) + (C5 : Int) <= 512 := by omega
 have j3 : IntKind.i64.wrap ((C3 : Int) + (C4 : Int)) = (C3 : Int) + (C4 : Int) := wrap_in (by omega) (by omega)
 have j4 : IntKind.i64.wrap (((C3 : Int) + (C4 : Int)) + (C5 : Int)) = ((C3 : Int) + (C4 : Int)) + (C5 : Int) := wrap_in (by omega) (by omega)
 go_wp2_with fail
 refine (KY w2).out.mono ?_
 rintro e4 w4 ⟨rfl, hw4⟩
 subst w4
 have c1 : w2.cell? ⟨r, 1, none⟩ = some (.int .i64 p) := box_cell HR2.out.box 1 _ rfl
 have hlt := box_lt HR2.out.box
 have hfz := box_frozen HR2.out.box 1
 have HMV := Lib.hid (HR2.out.move 12 hn12)
 have hcast : ((12 : Nat) : Int) = 12 := rfl
 rw [hcast] at HMV
 clear hcast k0 k1 k2 k3 hltD
 go_upto_region 5 with fail
 generalize w2.setCell ⟨r, 1, none⟩ (.int .i64 12) = w4 at *
 clear c1 hlt hfz
 have hs0 : w0.heap.size = B0 + 2 := HV.out.2.2.1.trans (by have := HBB.out.1; omega)
 have q1 : Hid (w4.heap[D0]? = some (.cells #[.int .u16 (I : Int), .bool (unfl F 32768), .int .i64 (unop F : Nat), .bool (unfl F 1024), .bool (unfl F 512), .bool (unfl F 256), .bool (unfl F 128), .bool (unfl F 32), .bool (unfl F 16), .int .i64 (unrc F : Nat), .slice none 0 0, .slice none 0 0, .slice none 0 0, .slice none 0 0] 26)) := (HMV.out.2.block D0 (box_lt HD2.out.1) (fun e => by injection e with e; have := HDs.out; have := HBB.out.1; omega)).trans HD2.out.1
 have q2 : Hid (w4.heap[D1]? = some (.cells #[.int .i64 (C2 : Int), .int .i64 (C3 : Int), .int .i64 (C4 : Int), .int .i64 (C5 : Int)] 74)) := (HMV.out.2.block D1 (box_lt HD2.out.2) (fun e => by injection e with e; have := HDs.out; have := HBB.out.1; have := HDD.out; omega)).trans HD2.out.2
 have q3 : Hid (w4.heap[B0]? = some (.cells #[.int .u16 0, .bool false, .int .i64 0, .bool false, .bool false, .bool false, .bool false, .bool false, .bool false, .int .i64 0, .slice none 0 0, .slice none 0 0, .slice none 0 0, .slice none 0 0] 26)) := (HMV.out.2.block B0 (by have := HB2.out.size; omega) (fun e => by injection e with e; have := HBB.out.1; omega)).trans ((HB2.out.block B0 (by omega)).trans HV.out.1)
 have q4 : Hid (w4.heap[B1]? = some (.cells #[.int .i64 0, .int .i64 0, .int .i64 0, .int .i64 0] 74)) := (HMV.out.2.block B1 (by have := HB2.out.size; have := HBB.out; omega) (fun e => by injection e with e; have := HBB.out; omega)).trans ((HB2.out.block B1 (by have := HBB.out; omega)).trans HV.out.2.1)
 have HG4 : Hid (w.grownBy w4 (some r)) := grown_trans (grown_trans (grown_of (by have := HV.out.2.2.2; rw [HBB.out.1] at this; exact this)) (grown_of (HB2.out))) HMV.out.2
 have HR4 := Lib.hid HMV.out.1
 clear HMV HD2 HB2 HV HR2
 have m0 : w4.cell? ⟨D0, 0, none⟩ = some (.int .u16 (I : Int)) := box_cell q1.out 0 _ rfl
 have m1 : w4.cell? ⟨D0, 1, none⟩ = some (.bool (unfl F 32768)) := box_cell q1.out 1 _ rfl
 have m2 : w4.cell? ⟨D0, 2, none⟩ = some (.int .i64 (unop F : Nat)) := box_cell q1.out 2 _ rfl
 have m3 : w4.cell? ⟨D0, 3, none⟩ = some (.bool (unfl F 1024)) := box_cell q1.out 3 _ rfl
 have m4 : w4.cell? ⟨D0, 4, none⟩ = some (.bool (unfl F 512)) := box_cell q1.out 4 _ rfl
 have m5 : w4.cell? ⟨D0, 5, none⟩ = some (.bool (unfl F 256)) := box_cell q1.out 5 _ rfl
 have m6 : w4.cell? ⟨D0, 6, none⟩ = some (.bool (unfl F 128)) := box_cell q1.out 6 _ rfl
 have m7 : w4.cell? ⟨D0, 7, none⟩ = some (.bool (unfl F 32)) := box_cell q1.out 7 _ rfl
 have m8 : w4.cell? ⟨D0, 8, none⟩ = some (.bool (unfl F 16)) := box_cell q1.out 8 _ rfl
 have m9 : w4.cell? ⟨D0, 9, none⟩ = some (.int .i64 (unrc F : Nat)) := box_cell q1.out 9 _ rfl
 have m10 : w4.cell? ⟨D0, 10, none⟩ = some (.slice none 0 0) := box_cell q1.out 10 _ rfl
 have m11 : w4.cell? ⟨D0, 11, none⟩ = some (.slice none 0 0) := box_cell q1.out 11 _ rfl
 have m12 : w4.cell? ⟨D0, 12, none⟩ = some (.slice none 0 0) := box_cell q1.out 12 _ rfl
 have m13 : w4.cell? ⟨D0, 13, none⟩ = some (.slice none 0 0) := box_cell q1.out 13 _ rfl
 have k0 : w4.cell? ⟨D1, 0, none⟩ = some (.int .i64 (C2 : Int)) := box_cell q2.out 0 _ rfl
 have k1 : w4.cell? ⟨D1, 1, none⟩ = some (.int .i64 (C3 : Int)) := box_cell q2.out 1 _ rfl
 have k2 : w4.cell? ⟨D1, 2, none⟩ = some (.int .i64 (C4 : Int)) := box_cell q2.out 2 _ rfl
 have k3 : w4.cell? ⟨D1, 3, none⟩ = some (.int .i64 (C5 : Int)) := box_cell q2.out 3 _ rfl
 have z0 : w4.cell? ⟨B0, 0, none⟩ = some (.int .u16 0) := box_cell q3.out 0 _ rfl
 have f0 := box_frozen q3.out 0
 have z1 : w4.cell? ⟨B0, 1, none⟩ = some (.bool false) := box_cell q3.out 1 _ rfl
 have f1 := box_frozen q3.out 1
 have z2 : w4.cell? ⟨B0, 2, none⟩ = some (.int .i64 0) := box_cell q3.out 2 _ rfl
 have f2 := box_frozen q3.out 2
 have z3 : w4.cell? ⟨B0, 3, none⟩ = some (.bool false) := box_cell q3.out 3 _ rfl
 have f3 := box_frozen q3.out 3
 have z4 : w4.cell? ⟨B0, 4, none⟩ = some (.bool false) := box_cell q3.out 4 _ rfl
 have f4 := box_frozen q3.out 4
 have z5 : w4.cell? ⟨B0, 5, none⟩ = some (.bool false) := box_cell q3.out 5 _ rfl
 have f5 := box_frozen q3.out 5
 have z6 : w4.cell? ⟨B0, 6, none⟩ = some (.bool false) := box_cell q3.out 6 _ rfl
 have f6 := box_frozen q3.out 6
 have z7 : w4.cell? ⟨B0, 7, none⟩ = some (.bool false) := box_cell q3.out 7 _ rfl
 have f7 := box_frozen q3.out 7
 have z8 : w4.cell? ⟨B0, 8, none⟩ = some (.bool false) := box_cell q3.out 8 _ rfl
 have f8 := box_frozen q3.out 8
 have z9 : w4.cell? ⟨B0, 9, none⟩ = some (.int .i64 0) := box_cell q3.out 9 _ rfl
 have f9 := box_frozen q3.out 9
 have z10 : w4.cell? ⟨B0, 10, none⟩ = some (.slice none 0 0) := box_cell q3.out 10 _ rfl
 have f10 := box_frozen q3.out 10
 have z11 : w4.cell? ⟨B0, 11, none⟩ = some (.slice none 0 0) := box_cell q3.out 11 _ rfl
 have f11 := box_frozen q3.out 11
 have z12 : w4.cell? ⟨B0, 12, none⟩ = some (.slice none 0 0) := box_cell q3.out 12 _ rfl
 have f12 := box_frozen q3.out 12
 have z13 : w4.cell? ⟨B0, 13, none⟩ = some (.slice none 0 0) := box_cell q3.out 13 _ rfl
 have f13 := box_frozen q3.out 13
 have y0 : w4.cell? ⟨B1, 0, none⟩ = some (.int .i64 0) := box_cell q4.out 0 _ rfl
 have g0 := box_frozen q4.out 0
 have y1 : w4.cell? ⟨B1, 1, none⟩ = some (.int .i64 0) := box_cell q4.out 1 _ rfl
 have g1 := box_frozen q4.out 1
 have y2 : w4.cell? ⟨B1, 2, none⟩ = some (.int .i64 0) := box_cell q4.out 2 _ rfl
 have g2 := box_frozen q4.out 2
 have y3 : w4.cell? ⟨B1, 3, none⟩ = some (.int .i64 0) := box_cell q4.out 3 _ rfl
 have g3 := box_frozen q4.out 3
 have n1 : ¬ D0 = B0 := by have := HDs.out; omega
 have n2 : ¬ B0 = D0 := by omega
 have n3 : ¬ D0 = B1 := by have := HDs.out; have := HBB.out; omega
 have n4 : ¬ B1 = D0 := by omega
 have n5 : ¬ D1 = B0 := by have := HDs.out; have := HDD.out; omega
 have n6 : ¬ B0 = D1 := by omega
 have n7 : ¬ D1 = B1 := by have := HDs.out; have := HBB.out; have := HDD.out; omega
 have n8 : ¬ B1 = D1 := by omega
 have n9 : ¬ D1 = D0 := by have := HDD.out; omega
 have n10 : ¬ D0 = D1 := by omega
 have l1 := box_lt q1.out
 have l2 := box_lt q2.out
 have l3 := box_lt q3.out
 have l4 := box_lt q4.out
 go_region
 obtain ⟨u1', u2', u3'⟩ := head_end q3.out q4.out hne1 (by have := HBB.out; omega) (.int .u16 (I : Int)) (.bool (unfl F 32768)) (.int .i64 (unop F : Nat)) (.bool (unfl F 1024)) (.bool (unfl F 512)) (.bool (unfl F 256)) (.bool (unfl F 128)) (.bool (unfl F 32)) (.bool (unfl F 16)) (.int .i64 (unrc F : Nat)) (.slice none 0 0) (.slice none 0 0) (.slice none 0 0) (.slice none 0 0) (.int .i64 (C2 : Int)) (.int .i64 (C3 : Int)) (.int .i64 (C4 : Int)) (.int .i64 (C5 : Int))
 have u1 := Lib.hid u1'
 have u2 := Lib.hid u2'
 have u3 := Lib.hid u3'
 clear u1' u2' u3'
 clear q1 q2 q3 q4 m0 z0 f0 m1 z1 f1 m2 z2 f2 m3 z3 f3 m4 z4 f4 m5 z5 f5 m6 z6 f6 m7 z7 f7 m8 z8 f8 m9 z9 f9 m10 z10 f10 m11 z11 f11 m12 z12 f12 m13 z13 f13 k0 y0 g0 k1 y1 g1 k2 y2 g2 k3 y3 g3 l1 l2 l3 l4
 generalize ((((((((((((((((((w4.setCell ⟨B0, 0, none⟩ (.int .u16 (I : Int))).setCell ⟨B0, 1, none⟩ (.bool (unfl F 32768))).setCell ⟨B0, 2, none⟩ (.int .i64 (unop F : Nat))).setCell ⟨B0, 3, none⟩ (.bool (unfl F 1024))).setCell ⟨B0, 4, none⟩ (.bool (unfl F 512))).setCell ⟨B0, 5, none⟩ (.bool (unfl F 256))).setCell ⟨B0, 6, none⟩ (.bool (unfl F 128))).setCell ⟨B0, 7, none⟩ (.bool (unfl F 32))).setCell ⟨B0, 8, none⟩ (.bool (unfl F 16))).setCell ⟨B0, 9, none⟩ (.int .i64 (unrc F : Nat))).setCell ⟨B0, 10, none⟩ (.slice none 0 0)).setCell ⟨B0, 11, none⟩ (.slice none 0 0)).setCell ⟨B0, 12, none⟩ (.slice none 0 0)).setCell ⟨B0, 13, none⟩ (.slice none 0 0)).setCell ⟨B1, 0, none⟩ (.int .i64 (C2 : Int))).setCell ⟨B1, 1, none⟩ (.int .i64 (C3 : Int))).setCell ⟨B1, 2, none⟩ (.int .i64 (C4 : Int))).setCell ⟨B1, 3, none⟩ (.int .i64 (C5 : Int))).drew = w9 at *
 have m0 : w9.cell? ⟨B0, 0, none⟩ = some (.int .u16 (I : Int)) := box_cell u1.out 0 _ rfl
 have m1 : w9.cell? ⟨B0, 1, none⟩ = some (.bool (unfl F 32768)) := box_cell u1.out 1 _ rfl
 have m2 : w9.cell? ⟨B0, 2, none⟩ = some (.int .i64 (unop F : Nat)) := box_cell u1.out 2 _ rfl
 have m3 : w9.cell? ⟨B0, 3, none⟩ = some (.bool (unfl F 1024)) := box_cell u1.out 3 _ rfl
 have m4 : w9.cell? ⟨B0, 4, none⟩ = some (.bool (unfl F 512)) := box_cell u1.out 4 _ rfl
 have m5 : w9.cell? ⟨B0, 5, none⟩ = some (.bool (unfl F 256)) := box_cell u1.out 5 _ rfl
 have m6 : w9.cell? ⟨B0, 6, none⟩ = some (.bool (unfl F 128)) := box_cell u1.out 6 _ rfl
 have m7 : w9.cell? ⟨B0, 7, none⟩ = some (.bool (unfl F 32)) := box_cell u1.out 7 _ rfl
 have m8 : w9.cell? ⟨B0, 8, none⟩ = some (.bool (unfl F 16)) := box_cell u1.out 8 _ rfl
 have m9 : w9.cell? ⟨B0, 9, none⟩ = some (.int .i64 (unrc F : Nat)) := box_cell u1.out 9 _ rfl
 have m10 : w9.cell? ⟨B0, 10, none⟩ = some (.slice none 0 0) := box_cell u1.out 10 _ rfl
 have m11 : w9.cell? ⟨B0, 11, none⟩ = some (.slice none 0 0) := box_cell u1.out 11 _ rfl
 have m12 : w9.cell? ⟨B0, 12, none⟩ = some (.slice none 0 0) := box_cell u1.out 12 _ rfl
 have m13 : w9.cell? ⟨B0, 13, none⟩ = some (.slice none 0 0) := box_cell u1.out 13 _ rfl
 have k0 : w9.cell? ⟨B1, 0, none⟩ = some (.int .i64 (C2 : Int)) := box_cell u2.out 0 _ rfl
 have k1 : w9.cell? ⟨B1, 1, none⟩ = some (.int .i64 (C3 : Int)) := box_cell u2.out 1 _ rfl
 have k2 : w9.cell? ⟨B1, 2, none⟩ = some (.int .i64 (C4 : Int)) := box_cell u2.out 2 _ rfl
 have k3 : w9.cell? ⟨B1, 3, none⟩ = some (.int .i64 (C5 : Int)) := box_cell u2.out 3 _ rfl
 go_wp2
 refine bodyPost_ret (v := .tuple #[.agg #[.int .u16 (I : Int), .bool (unfl F 32768), .int .i64 (unop F : Nat), .bool (unfl F 1024), .bool (unfl F 512), .bool (unfl F 256), .bool (unfl F 128), .bool (unfl F 32), .bool (unfl F 16), .int .i64 (unrc F : Nat), .slice none 0 0, .slice none 0 0, .slice none 0 0, .slice none 0 0], .agg #[.int .i64 (C2 : Int), .int .i64 (C3 : Int), .int .i64 (C4 : Int), .int .i64 (C5 : Int)]]) (by simp [results, Tryz.results57, go_sem, m0, m1, m2, m3, m4, m5, m6, m7, m8, m9, m10, m11, m12, m13, k0, k1, k2, k3]) rfl ⟨rfl, ?_, ?_⟩
 · exact HR4.out.low u3.out (by have := HBB.out; omega) (by have := HBB.out; omega)
 · exact grown_low HG4.out (by have := u3.out; rw [HBB.out.1] at this; exact this)
end Go.Proofs.YtkjnbgekaifdfaaGreat
namespace Go.Proofs.YtkjnbgekaifdfaaGreat
open Go.ChangeShapes Go.WideShapes Go.ChangeAt Go.RowKit
def qCells (x : Sl) (r : Qn) : List Value := [.slice x.a x.n x.c, .int .u16 r.ty, .int .u16 r.cl]
def cellsQ (ps : List (Sl × Qn)) : List Value := ps.flatMap fun p => qCells p.1 p.2
theorem cellsQ_at (ps : List (Sl × Qn)) (k : Nat) (h : k < ps.length) (j : Nat) (hj : j < 3) : (cellsQ ps)[k * 3 + j]? = (qCells ps[k].1 ps[k].2)[j]? := by
 induction ps generalizing k with
 | nil => simp at h
 | cons p ws ih =>
   have hc : cellsQ (p :: ws) = qCells p.1 p.2 ++ cellsQ ws := by simp [cellsQ]
   have h8 : (qCells p.1 p.2).length = 3 := rfl
   rw [hc]
   cases k with
   | zero => rw [List.getElem?_append_left (by rw [h8]; omega)]; simp
   | succ k =>
     have := ih k (by simpa using h)
     rw [List.getElem?_append_right (by rw [h8]; omega), h8, show (k + 1) * 3 + j - 3 = k * 3 + j by omega, this]
     simp
theorem cellsQ_app (a b : List (Sl × Qn)) : cellsQ (a ++ b) = cellsQ a ++ cellsQ b := by simp [cellsQ]
theorem cellsQ_one (xs : List (Sl × Qn)) : ∀ u ∈ cellsQ xs, u.oneCell' = true := by
 intro u hu
 simp only [cellsQ, List.mem_flatMap] at hu
 obtain ⟨p, _, hu⟩ := hu
 simp [qCells] at hu
 rcases hu with rfl | rfl | rfl <;> rfl
def QRd (w : World) (x : Sl) (r : Qn) : Prop := TRd w x r.nm
def QOwx (B : Nat) (w : World) (x : Sl) (r : Qn) : Prop := Owx1 B w x r.nm
def RdQ (w : World) (a : Option Addr) (rs : List Qn) : Prop :=
 rs = [] ∨ ∃ b o, a = some ⟨b, o, none⟩ /\ b < w.heap.size /\ ∀ i (h : i < rs.length), ∃ x : Sl, (∀ j (hj : j < 3), w.cell? ⟨b, o + i * 3 + j, none⟩ = (qCells x rs[i])[j]?) /\ QRd w x rs[i]
def RfQ (B : Nat) (w : World) (g : Option Nat) (x : Sl) (r : Qn) : Prop :=
 ∀ w' : World, w.heap.size <= w'.heap.size -> (∀ j, j < w.heap.size -> B <= j -> some j ≠ g -> w'.heap[j]? = w.heap[j]?) -> QRd w' x r
theorem RfQ.of {B B' : Nat} {w : World} {g : Option Nat} {x : Sl} {r : Qn} (h : QOwx B' w x r) (hB : B <= B') (hg : ∀ k, g = some k -> k < B') : RfQ B w g x r := by
 intro w' hs hb
 have hk : ∀ j, B' <= j -> j < w.heap.size -> w'.heap[j]? = w.heap[j]? := fun j h1 h2 => hb j h2 (by omega) (fun e => by have := hg j e.symm; omega)
 exact (Owx1.keep h (fun j h1 h2 _ => hk j h1 h2)).rd
theorem RfQ.go {B : Nat} {w w' : World} {g g' : Option Nat} {x : Sl} {r : Qn} (h : RfQ B w g x r) (hs : w.heap.size <= w'.heap.size) (hb : ∀ j, j < w.heap.size -> B <= j -> some j ≠ g -> w'.heap[j]? = w.heap[j]?) (hg : ∀ j, j < w.heap.size -> some j ≠ g -> some j ≠ g') : RfQ B w' g' x r := by
 intro w2 hs2 hb2
 exact h w2 (Nat.le_trans hs hs2) (fun j h1 h2 h3 => (hb2 j (by omega) h2 (hg j h1 h3)).trans (hb j h1 h2 h3))
def OwQ (B : Nat) (w : World) (v : Value) (rs : List Qn) : Prop :=
 ∃ ps : List (Sl × Qn), ps.map (·.2) = rs /\ w.ownsRow B 55 3 v ps.length (cellsQ ps) /\ ∀ p ∈ ps, RfQ B w v.ownBlock p.1 p.2
theorem OwQ.stays {B : Nat} {w w' : World} {v : Value} {rs : List Qn} (h : OwQ B w v rs) (hb : Below w.heap.size w w') : OwQ B w' v rs := by
 obtain ⟨ps, h1, h2, h3⟩ := h
 exact ⟨ps, h1, ownsRow_stays h2 hb, fun p hp => (h3 p hp).go hb.size (fun j hj _ _ => hb.block j hj) (fun j _ h => h)⟩
theorem OwQ.mono {B B' : Nat} {w : World} {v : Value} {rs : List Qn} (h : OwQ B w v rs) (hB : B' <= B) : OwQ B' w v rs := by
 obtain ⟨ps, h1, h2, h3⟩ := h
 exact ⟨ps, h1, ownsRow_low h2 hB, fun p hp w' hs hb => h3 p hp w' hs (fun j e1 e2 e3 => hb j e1 (by omega) e3)⟩
theorem OwQ.rd {B : Nat} {w : World} {v : Value} {rs : List Qn} (h : OwQ B w v rs) : ∃ a c, v = .slice a rs.length c /\ RdQ w a rs /\ rs.length <= c /\ c <= 9223372036854775807 /\ (a = none -> c = 0) := by
 obtain ⟨ps, rfl, h2, h3⟩ := h
 have hpl : (ps.map (·.2)).length = ps.length := by simp
 rw [hpl]
 rcases h2.2 with ⟨rfl, h0⟩ | ⟨g, cap, cur, rfl, hb, hg, k1, k2, k3, k4⟩
 · have : ps = [] := List.length_eq_zero_iff.1 h0
   subst this
   exact ⟨none, 0, rfl, .inl rfl, by simp, by omega, fun _ => rfl⟩
 · refine ⟨_, cap, rfl, .inr ⟨g, 0, rfl, (Array.getElem?_eq_some_iff.1 hg).1, fun i hi => ?_⟩, k1, by simpa only [maxLen] using k2, by simp⟩
   have hi' : i < ps.length := by simpa using hi
   have ad : ∀ j, (⟨g, 0, none⟩ : Addr).add j = ⟨g, 0 + j, none⟩ := fun j => by unfold Addr.add; split <;> simp_all
   have hgi : (ps.map (·.2))[i] = ps[i].2 := by simp
   refine ⟨ps[i].1, fun j hj => ?_, ?_⟩
   · rw [hgi]
     have e1 := cellsQ_at ps i hi' j hj
     have hlt : j < (qCells ps[i].1 ps[i].2).length := hj
     rw [List.getElem?_eq_getElem hlt] at e1 ⊢
     have := h2.cells (g := g) rfl _ _ e1
     rw [ad] at this
     rw [Nat.add_assoc]; exact this
   · rw [hgi]
     exact h3 ps[i] (List.getElem_mem _) w (Nat.le_refl _) (fun _ _ _ _ => rfl)
theorem one_qn (w : World) (x : Sl) (r : Qn) : ∀ j u, (cellsQ [(x, r)])[j]? = some u -> (w.alloc (.cells (qCells x r).toArray 55)).cell? ((⟨w.heap.size, 0, none⟩ : Addr).add j) = some u := by
 intro j u hu
 have ad : (⟨w.heap.size, 0, none⟩ : Addr).add j = ⟨w.heap.size, j, none⟩ := by unfold Addr.add; split <;> simp_all
 rw [ad]
 unfold World.cell?
 rw [heap_alloc_new]
 have : cellsQ [(x, r)] = qCells x r := by simp [cellsQ]
 rw [this] at hu
 simpa using hu
theorem OwQ.nil (B : Nat) (w : World) : OwQ B w (.slice none 0 0) [] := ⟨[], rfl, ⟨rfl, .inl ⟨rfl, rfl⟩⟩, by simp⟩
theorem OwQ.qs {B : Nat} {w : World} {v : Value} {qs : List Qn} (h : OwQ B w v qs) (hb : ∀ q ∈ qs, q.ty < 65536 /\ q.cl < 65536) : ∃ a c, v = .slice a qs.length c /\ QsRd w ⟨a, qs.length, c⟩ qs := by
 obtain ⟨a, c, rfl, h1, h2, h3, h4⟩ := h.rd
 refine ⟨a, c, rfl, ?_, rfl, ⟨h2, h3⟩, h4⟩
 rcases h1 with h1 | ⟨b, o, e1, e2, e3⟩
 · exact .inl h1
 · refine .inr ⟨b, o, e1, e2, fun i hi => ?_⟩
   obtain ⟨x, g1, g2⟩ := e3 i hi
   have q := hb qs[i] (List.getElem_mem hi)
   exact ⟨⟨x, qs[i].ty, qs[i].cl⟩, g1 0 (by omega), g1 1 (by omega), g1 2 (by omega), ⟨g2, rfl, rfl, q.1, q.2⟩⟩
end Go.Proofs.YtkjnbgekaifdfaaGreat
namespace Go.Proofs.YtkjnbgekaifdfaaGreat
open Go.ChangeShapes Go.WideShapes Go.ChangeAt Go.RowKit Go.Maps
theorem ownsRow_keep {B : Nat} {e : TypeId} {size n : Nat} {xs : List Value} {v : Value} {w w' : World} (h : w.ownsRow B e size v n xs) (hb : ∀ j, B <= j -> j < w.heap.size -> w'.heap[j]? = w.heap[j]?) : w'.ownsRow B e size v n xs := by
 refine ⟨h.1, ?_⟩
 rcases h.2 with h0 | ⟨g, cap, cur, rfl, hbb, hg, k⟩
 · exact .inl h0
 · exact .inr ⟨g, cap, cur, rfl, hbb, (hb g hbb (Array.getElem?_eq_some_iff.1 hg).1).trans hg, k⟩
theorem OwQ.keep {B : Nat} {w w' : World} {v : Value} {qs : List Qn} (h : OwQ B w v qs) (hs : w.heap.size <= w'.heap.size) (hb : ∀ j, B <= j -> j < w.heap.size -> w'.heap[j]? = w.heap[j]?) : OwQ B w' v qs := by
 obtain ⟨ps, h1, h2, h3⟩ := h
 exact ⟨ps, h1, ownsRow_keep h2 hb, fun p hp => (h3 p hp).go hs (fun j hj hB _ => hb j hB hj) (fun j _ h => h)⟩
theorem OwR.keep {B : Nat} {w w' : World} {v : Value} {qs : List Rec} (h : OwR B w v qs) (hs : w.heap.size <= w'.heap.size) (hb : ∀ j, B <= j -> j < w.heap.size -> w'.heap[j]? = w.heap[j]?) : OwR B w' v qs := by
 obtain ⟨ps, h1, h2, h3⟩ := h
 exact ⟨ps, h1, ownsRow_keep h2 hb, fun p hp => (h3 p hp).go hs (fun j hj hB _ => hb j hB hj) (fun j _ h => h)⟩
theorem OwR.nil' (B : Nat) (w : World) : OwR B w (.slice none 0 0) [] := ⟨[], rfl, ⟨rfl, .inl ⟨rfl, rfl⟩⟩, by simp⟩
theorem OwQ.pushG {B r0 : Nat} {wr w2 w3 w4 : World} {v v' : Value} {ps : List (Sl × Qn)} {y : Sl} {r : Qn} (h3 : ∀ p ∈ ps, RfQ B wr v.ownBlock p.1 p.2) (hl : wr.ownsRow B 55 3 v ps.length (cellsQ ps)) (hB : B <= wr.heap.size) (hr : r0 < B) (hy : QOwx wr.heap.size w2 y r) (hb3 : Below w2.heap.size w2 w3) (hb2 : wr.grownBy w2 (some r0)) (h5 : w4.ownsRow B 55 3 v' (ps.length + 1) (cellsQ ps ++ cellsQ [(y, r)])) (h6 : w3.grownBy w4 v.ownBlock) (h7 : v'.ownBlock = v.ownBlock ∨ v'.ownBlock = some w3.heap.size) : OwQ B w4 v' (ps.map (·.2) ++ [r]) := by
 refine ⟨ps ++ [(y, r)], by simp, ?_, ?_⟩
 · rw [cellsQ_app, List.length_append]; exact h5
 · have s2 := hb2.size
   have s3 := hb3.size
   have s4 := h6.size
   have hlt := hl.lt
   intro p hp
   rcases List.mem_append.1 hp with hp | hp
   · refine (h3 p hp).go (by omega) (fun j e1 e2 e3 => ?_) (fun j e1 e2 => ?_)
     · rw [h6.block j (by omega) e3, hb3.block j (by omega), hb2.block j e1 (fun e => by injection e with e; omega)]
     · rcases h7 with h7 | h7
       · rw [h7]; exact e2
       · rw [h7]; intro e; injection e with e; omega
   · rw [List.mem_singleton] at hp
     subst hp
     have := RfQ.of (g := v.ownBlock) hy hB (fun k e => (hlt k e).2)
     refine this.go (by omega) (fun j e1 e2 e3 => ?_) (fun j e1 e2 => ?_)
     · rw [h6.block j (by omega) e3, hb3.block j (by omega)]
     · rcases h7 with h7 | h7
       · rw [h7]; exact e2
       · rw [h7]; intro e; injection e with e; omega
theorem OwR.pushG {B r0 : Nat} {wr w2 w3 w4 : World} {v v' : Value} {ps : List (RA × Rec)} {y : RA} {r : Rec} (h3 : ∀ p ∈ ps, RfR B wr v.ownBlock p.1 p.2) (hl : wr.ownsRow B 62 8 v ps.length (cellsR ps)) (hB : B <= wr.heap.size) (hr : r0 < B) (hy : ROwx wr.heap.size w2 y r) (hb3 : Below w2.heap.size w2 w3) (hb2 : wr.grownBy w2 (some r0)) (h5 : w4.ownsRow B 62 8 v' (ps.length + 1) (cellsR ps ++ cellsR [(y, r)])) (h6 : w3.grownBy w4 v.ownBlock) (h7 : v'.ownBlock = v.ownBlock ∨ v'.ownBlock = some w3.heap.size) : OwR B w4 v' (ps.map (·.2) ++ [r]) := by
 refine ⟨ps ++ [(y, r)], by simp, ?_, ?_⟩
 · rw [cellsR_app, List.length_append]; exact h5
 · have s2 := hb2.size
   have s3 := hb3.size
   have s4 := h6.size
   have hlt := hl.lt
   intro p hp
   rcases List.mem_append.1 hp with hp | hp
   · refine (h3 p hp).go (by omega) (fun j e1 e2 e3 => ?_) (fun j e1 e2 => ?_)
     · rw [h6.block j (by omega) e3, hb3.block j (by omega), hb2.block j e1 (fun e => by injection e with e; omega)]
     · rcases h7 with h7 | h7
       · rw [h7]; exact e2
       · rw [h7]; intro e; injection e with e; omega
   · rw [List.mem_singleton] at hp
     subst hp
     have := RfR.of (g := v.ownBlock) hy hB (fun k e => (hlt k e).2)
     refine this.go (by omega) (fun j e1 e2 e3 => ?_) (fun j e1 e2 => ?_)
     · rw [h6.block j (by omega) e3, hb3.block j (by omega)]
     · rcases h7 with h7 | h7
       · rw [h7]; exact e2
       · rw [h7]; intro e; injection e with e; omega
def Stb (B S : Nat) (P : World -> Prop) (w : World) : Prop := S <= w.heap.size /\ ∀ w' : World, S <= w'.heap.size -> (∀ j, B <= j -> j < S -> w'.heap[j]? = w.heap[j]?) -> P w'
theorem Stb.get {B S : Nat} {P : World -> Prop} {w : World} (h : Stb B S P w) : P w := h.2 w h.1 (fun _ _ _ => rfl)
theorem Stb.go {B S : Nat} {P : World -> Prop} {w w' : World} (h : Stb B S P w) (hs : w.heap.size <= w'.heap.size) (hb : ∀ j, B <= j -> j < S -> w'.heap[j]? = w.heap[j]?) : Stb B S P w' :=
 ⟨Nat.le_trans h.1 hs, fun w2 h1 h2 => h.2 w2 h1 (fun j e1 e2 => (h2 j e1 e2).trans (hb j e1 e2))⟩
theorem Stb.ofQ {B : Nat} {w : World} {v : Value} {qs : List Qn} (h : OwQ B w v qs) : Stb B w.heap.size (fun W => OwQ B W v qs) w := ⟨Nat.le_refl _, fun w' hs hb => h.keep hs hb⟩
theorem Stb.ofR {B : Nat} {w : World} {v : Value} {qs : List Rec} (h : OwR B w v qs) : Stb B w.heap.size (fun W => OwR B W v qs) w := ⟨Nat.le_refl _, fun w' hs hb => h.keep hs hb⟩
theorem Stb.and {B B' S S' : Nat} {P Q : World -> Prop} {w : World} (h : Stb B S P w) (k : Stb B' S' Q w) (hS : S <= S') (hB : B <= B') : Stb B S' (fun W => P W /\ Q W) w :=
 ⟨k.1, fun w' hs hb => ⟨h.2 w' (by omega) (fun j e1 e2 => hb j e1 (by omega)), k.2 w' hs (fun j e1 e2 => hb j (by omega) e2)⟩⟩
def Mny {α T : Type} (f : Nat -> Option (α × Nat)) (F : List α -> Nat -> Option T) (m : Nat) (pre : List α) (q : Nat) : Option T := (gmany f m q).bind fun a => F (pre ++ a.1) a.2
theorem Mny.zero {α T : Type} (f : Nat -> Option (α × Nat)) (F : List α -> Nat -> Option T) (pre : List α) (q : Nat) : Mny f F 0 pre q = F pre q := by simp [Mny, gmany]
theorem Mny.none {α T : Type} {f : Nat -> Option (α × Nat)} {F : List α -> Nat -> Option T} {m : Nat} {pre : List α} {q : Nat} (h : f q = .none) : Mny f F (m + 1) pre q = .none := by simp [Mny, gmany, h]
theorem Mny.some {α T : Type} {f : Nat -> Option (α × Nat)} {F : List α -> Nat -> Option T} {m : Nat} {pre : List α} {q : Nat} {x : α × Nat} (h : f q = .some x) : Mny f F (m + 1) pre q = Mny f F m (pre ++ [x.1]) x.2 := by
 simp only [Mny, gmany, h, Option.bind_some]
 cases gmany f m x.2 with
 | none => rfl
 | some y => simp
theorem gbody_mny (c0 c1 c2 c3 : Nat) (zs : List Int) (p : Nat) : gbody c0 c1 c2 c3 zs p = Mny (gqn zs) (fun qs q => Mny (grec zs) (fun a q => Mny (grec zs) (fun u q => Mny (grec zs) (fun d q => some ((qs, a, u, d), q)) c3 [] q) c2 [] q) c1 [] q) c0 [] p := by
 unfold gbody Mny
 simp only [List.nil_append]
 congr 1
 funext q
 congr 1
 funext a
 congr 1
 funext u
 cases gmany (grec zs) c3 u.2 <;> rfl
theorem inf64 : ∃ i, Tryz.prog.info? 55 = some i /\ i.zero = some (.agg #[.slice none 0 0, .int .u16 0, .int .u16 0]) /\ i.size = 3 /\ i.bytes = 32 := by
 have h : (Tryz.prog.info? 55).map (fun i => (i.zero, i.size, i.bytes)) = some (some (.agg #[.slice none 0 0, .int .u16 0, .int .u16 0]), 3, 32) := by kernel_rfl
 obtain ⟨i, h1, h2⟩ := Option.map_eq_some_iff.1 h
 simp only [Prod.mk.injEq] at h2
 exact ⟨i, h1, h2.1, h2.2.1, h2.2.2⟩
theorem inf61 : ∃ i, Tryz.prog.info? 62 = some i /\ i.zero = some (.agg #[.slice none 0 0, .int .u16 0, .int .u16 0, .int .u32 0, .slice none 0 0, .slice none 0 0, .slice none 0 0, .slice none 0 0]) /\ i.size = 8 /\ i.bytes = 128 := by
 have h : (Tryz.prog.info? 62).map (fun i => (i.zero, i.size, i.bytes)) = some (some (.agg #[.slice none 0 0, .int .u16 0, .int .u16 0, .int .u32 0, .slice none 0 0, .slice none 0 0, .slice none 0 0, .slice none 0 0]), 8, 128) := by kernel_rfl
 obtain ⟨i, h1, h2⟩ := Option.map_eq_some_iff.1 h
 simp only [Prod.mk.injEq] at h2
 exact ⟨i, h1, h2.1, h2.2.1, h2.2.2⟩
end Go.Proofs.YtkjnbgekaifdfaaGreat
namespace Go.Proofs.YtkjnbgekaifdfaaGreat
open Go.ChangeShapes Go.WideShapes Go.ChangeAt Go.RowKit Go.Maps
def upd {α : Type} (f : Nat -> α) (j : Nat) (x : α) : Nat -> α := fun i => if i = j then x else f i
def RSf (zs : List Int) (qs : List Qn) (cs : Nat -> Nat) : Nat -> (Nat -> List Rec) -> Nat -> Option ((List Qn × List Rec × List Rec × List Rec) × Nat)
 | 0, ls, q => some ((qs, ls 0, ls 1, ls 2), q)
 | f + 1, ls, q => Mny (grec zs) (fun a q => RSf zs qs cs f (upd ls (2 - f) a) q) (cs (2 - f)) [] q
def cs3 (a b c : Nat) : Nat -> Nat := fun i => if i = 0 then a else if i = 1 then b else c
theorem gbody_rs (c0 c1 c2 c3 : Nat) (zs : List Int) (p : Nat) : gbody c0 c1 c2 c3 zs p = Mny (gqn zs) (fun qs q => RSf zs qs (cs3 c1 c2 c3) 3 (fun _ => []) q) c0 [] p := by
 rw [gbody_mny]
 simp [RSf, cs3, upd]
structure Gm where
 w : World
 R : Nat
 M : Nat
 C : Nat
 r : Nat
 b : Nat
 o : Nat
 n : Nat
 c : Nat
 zs : List Int
 I : Nat
 F : Nat
 C2 : Nat
 C3 : Nat
 C4 : Nat
 C5 : Nat
structure Gk (g : Gm) : Prop where
 hR : g.R = g.w.heap.size
 rR : g.r < g.R
 bR : g.b < g.R
 RM : g.R < g.M
 MC : g.C = g.M + 1
 n1 : 1 <= g.n
structure Ms (g : Gm) (wr : World) (v : Value) (vs : Nat -> Value) (q : Nat) : Prop where
 res : wr.heap[g.R]? = some (.cells #[.int .u16 0, .bool false, .int .i64 0, .bool false, .bool false, .bool false, .bool false, .bool false, .bool false, .int .i64 0, .slice none 0 0, .slice none 0 0, .slice none 0 0, .slice none 0 0] 26)
 box : wr.heap[g.M]? = some (.cells #[.int .u16 (g.I : Int), .bool (unfl g.F 32768), .int .i64 (unop g.F : Nat), .bool (unfl g.F 1024), .bool (unfl g.F 512), .bool (unfl g.F 256), .bool (unfl g.F 128), .bool (unfl g.F 32), .bool (unfl g.F 16), .int .i64 (unrc g.F : Nat), v, vs 0, vs 1, vs 2] 26)
 cnt : wr.heap[g.C]? = some (.cells #[.int .i64 (g.C2 : Int), .int .i64 (g.C3 : Int), .int .i64 (g.C4 : Int), .int .i64 (g.C5 : Int)] 74)
 rdr : Rdr wr g.r (some ⟨g.b, g.o, none⟩) g.n g.c g.zs q
 gr : g.w.grownBy wr (some g.r)
 sz : g.C + 1 <= wr.heap.size
theorem Ms.push {g : Gm} (k : Gk g) {wr w6 w6a w7 : World} {v : Value} {vs : Nat -> Value} {q q' : Nat} {ow : Option Nat} (h : Ms g wr v vs q) (h1 : Rdr w6 g.r (some ⟨g.b, g.o, none⟩) g.n g.c g.zs q') (h2 : wr.grownBy w6 (some g.r)) (h3 : Below w6.heap.size w6 w6a) (h4 : w6a.grownBy w7 ow) (h5 : ∀ j, ow = some j -> g.C + 1 <= j) : Ms g w7 v vs q' := by
 obtain ⟨kR, rR, bR, RM, MC, n1⟩ := k
 have e : ∀ j, j < g.C + 1 -> j ≠ g.r -> w7.heap[j]? = wr.heap[j]? := fun j hj hne => by
   have := h.sz
   have := h2.size
   have := h3.size
   rw [h4.block j (by omega) (fun e => by have := h5 j e.symm; omega), h3.block j (by omega), h2.block j (by omega) (fun e => hne (by injection e))]
 refine ⟨(e _ (by omega) (by omega)).trans h.res, (e _ (by omega) (by omega)).trans h.box, (e _ (by omega) (by omega)).trans h.cnt, ?_, ?_, ?_⟩
 · have hb6 := (h1.below h3)
   exact hb6.app h4 (B := g.C + 1) (by omega) (by omega) (box_lt hb6.box) (hb6.blt n1) h5
 · refine grown_apx (grown_trans h.gr (grown_trans h2 (grown_of h3))) h4 (fun j ej => ?_)
   have := h5 j ej
   omega
 · have := h.sz
   have := h2.size
   have := h3.size
   have := h4.size
   omega
theorem Ms.setQ {g : Gm} (k : Gk g) {w7 : World} {v : Value} {vs : Nat -> Value} {q : Nat} (h : Ms g w7 v vs q) (v' : Value) : Ms g (w7.setCell ⟨g.M, 10, none⟩ v') v' vs q := by
 obtain ⟨kR, rR, bR, RM, MC, n1⟩ := k
 have e : ∀ j, j ≠ g.M -> (w7.setCell ⟨g.M, 10, none⟩ v').heap[j]? = w7.heap[j]? := fun j hj => Below.heap_setCell _ _ _ j hj
 have hg := grown_set w7 g.M 10 v'
 refine ⟨(e _ (by omega)).trans h.res, heap_set h.box 10 v', (e _ (by omega)).trans h.cnt, ?_, ?_, Nat.le_trans h.sz hg.size⟩
 · exact h.rdr.app hg (B := g.M) (by omega) (by omega) (box_lt h.rdr.box) (h.rdr.blt n1) (fun j ej => by injection ej with ej; omega)
 · exact grown_apx h.gr hg (fun j ej => by injection ej with ej; omega)
theorem Ms.setR {g : Gm} (k : Gk g) {w7 : World} {v : Value} {vs : Nat -> Value} {q : Nat} (h : Ms g w7 v vs q) (j : Nat) (hj : j < 3) (v' : Value) : Ms g (w7.setCell ⟨g.M, 11 + j, none⟩ v') v (upd vs j v') q := by
 obtain ⟨kR, rR, bR, RM, MC, n1⟩ := k
 have e : ∀ i, i ≠ g.M -> (w7.setCell ⟨g.M, 11 + j, none⟩ v').heap[i]? = w7.heap[i]? := fun i hi => Below.heap_setCell _ _ _ i hi
 have hg := grown_set w7 g.M (11 + j) v'
 refine ⟨(e _ (by omega)).trans h.res, ?_, (e _ (by omega)).trans h.cnt, ?_, ?_, Nat.le_trans h.sz hg.size⟩
 · have hc : j = 0 ∨ j = 1 ∨ j = 2 := by omega
   have hx := heap_set h.box (11 + j) v'
   rcases hc with rfl | rfl | rfl
   · exact hx
   · exact hx
   · exact hx
 · exact h.rdr.app hg (B := g.M) (by omega) (by omega) (box_lt h.rdr.box) (h.rdr.blt n1) (fun j ej => by injection ej with ej; omega)
 · exact grown_apx h.gr hg (fun j ej => by injection ej with ej; omega)
theorem Ms.cell {g : Gm} {wr : World} {v : Value} {vs : Nat -> Value} {q : Nat} (h : Ms g wr v vs q) (j : Nat) (hj : j < 3) : wr.cell? ⟨g.M, 11 + j, none⟩ = some (vs j) := by
 have hc : j = 0 ∨ j = 1 ∨ j = 2 := by omega
 rcases hc with rfl | rfl | rfl
 · exact box_cell h.box 11 _ rfl
 · exact box_cell h.box 12 _ rfl
 · exact box_cell h.box 13 _ rfl
theorem Ms.count {g : Gm} {wr : World} {v : Value} {vs : Nat -> Value} {q : Nat} (h : Ms g wr v vs q) (j : Nat) (hj : j < 3) : wr.cell? ⟨g.C, 1 + j, none⟩ = some (.int .i64 (cs3 g.C3 g.C4 g.C5 j : Int)) := by
 have hc : j = 0 ∨ j = 1 ∨ j = 2 := by omega
 rcases hc with rfl | rfl | rfl
 · exact box_cell h.cnt 1 _ rfl
 · exact box_cell h.cnt 2 _ rfl
 · exact box_cell h.cnt 3 _ rfl
theorem Ms.below {g : Gm} {wr w' : World} {v : Value} {vs : Nat -> Value} {q : Nat} (k : Gk g) (h : Ms g wr v vs q) (hb : Below wr.heap.size wr w') : Ms g w' v vs q := by
 have := h.push k h.rdr (World.grownBy.refl _ _) hb (World.grownBy.refl w' none) (fun j e => by cases e)
 exact this
def Dn (B : Nat) (v : Value) (qs : List Qn) (vs : Nat -> Value) (ls : Nat -> List Rec) (j : Nat) (W : World) : Prop := OwQ B W v qs /\ ∀ i, i < j -> OwR B W (vs i) (ls i)
theorem Dn.next {B B1 S : Nat} {v : Value} {qs : List Qn} {vs vs' : Nat -> Value} {ls : Nat -> List Rec} {j : Nat} {w : World} {pre : List Rec} (h : Stb B S (Dn B v qs vs ls j) w) (hvs : ∀ i, i ≠ j -> vs' i = vs i) (hl : OwR B1 w (vs' j) pre) (hB : B <= B1) : Stb B w.heap.size (Dn B v qs vs' (upd ls j pre) (j + 1)) w := by
 have h2 := h.and (Stb.ofR hl) h.1 hB
 refine ⟨h2.1, fun w' hs hb => ?_⟩
 obtain ⟨⟨p1, p2⟩, p3⟩ := h2.2 w' hs hb
 refine ⟨p1, fun i hi => ?_⟩
 unfold upd
 by_cases e : i = j
 · subst e
   rw [if_pos rfl]
   exact p3.mono hB
 · rw [if_neg e, hvs i e]
   exact p2 i (by omega)
end Go.Proofs.YtkjnbgekaifdfaaGreat
namespace Go.Proofs.YtkjnbgekaifdfaaGreat
open Go.ChangeShapes Go.WideShapes Go.ChangeAt Go.RowKit Go.Maps
def RmG (r n : Nat) (w : World) (I F : Nat) (G : Option ((List Qn × List Rec × List Rec × List Rec) × Nat)) (e : Ending) (w' : World) : Prop :=
 (∀ x, G = some x -> x.2 = n -> ∃ (v : Value) (vs : Nat -> Value), e = .returned (.agg #[.int .u16 (I : Int), .bool (unfl F 32768), .int .i64 (unop F : Nat), .bool (unfl F 1024), .bool (unfl F 512), .bool (unfl F 256), .bool (unfl F 128), .bool (unfl F 32), .bool (unfl F 16), .int .i64 (unrc F : Nat), v, vs 0, vs 1, vs 2]) /\ Hid (OwQ w.heap.size w' v x.1.1 /\ OwR w.heap.size w' (vs 0) x.1.2.1 /\ OwR w.heap.size w' (vs 1) x.1.2.2.1 /\ OwR w.heap.size w' (vs 2) x.1.2.2.2 /\ w.grownBy w' (some r))) /\
 ((G = none ∨ ∃ x, G = some x /\ x.2 ≠ n) -> e = .panicked thrown /\ Hid (w.grownBy w' (some r)))
theorem RmG.dies {r n : Nat} {w w' : World} {I F : Nat} {G : Option ((List Qn × List Rec × List Rec × List Rec) × Nat)} (h : G = none) (hg : w.grownBy w' (some r)) : RmG r n w I F G (.panicked thrown) w' :=
 ⟨fun x e => (by rw [h] at e; cases e), fun _ => ⟨rfl, hg⟩⟩
theorem wr_drew {w w' : World} {r : Nat} (h : w.drew.grownBy w' (some r)) : w.grownBy w' (some r) := grown_trans (grown_of ((Below.refl w.heap.size w).drew)) h
set_option maxHeartbeats 8000000 in
theorem rmsg_walk (r b o n c : Nat) (zs : List Int) (p I F C2 C3 C4 C5 : Nat) (w : World) (h : Rdr w r (some ⟨b, o, none⟩) n c zs p) (h1 : 1 <= n) (hc2 : C2 <= 16) (hc3 : C3 + C4 + C5 <= 512)
   (K1 : Hid (∀ W, Rdr W r (some ⟨b, o, none⟩) n c zs p -> Calls Tryz.prog 57 #[.pointer (some ⟨r, 0, none⟩)] W fun e w' => e = .returned (.tuple #[.agg #[.int .u16 (I : Int), .bool (unfl F 32768), .int .i64 (unop F : Nat), .bool (unfl F 1024), .bool (unfl F 512), .bool (unfl F 256), .bool (unfl F 128), .bool (unfl F 32), .bool (unfl F 16), .int .i64 (unrc F : Nat), .slice none 0 0, .slice none 0 0, .slice none 0 0, .slice none 0 0], .agg #[.int .i64 (C2 : Int), .int .i64 (C3 : Int), .int .i64 (C4 : Int), .int .i64 (C5 : Int)]]) /\ Hid (Rdr w' r (some ⟨b, o, none⟩) n c zs 12 /\ W.grownBy w' (some r))))
   (G : Option ((List Qn × List Rec × List Rec × List Rec) × Nat)) (HG : Hid (gbody C2 C3 C4 C5 zs 12 = G)) :
   Calls Tryz.prog 34 #[.pointer (some ⟨r, 0, none⟩)] w (RmG r n w I F G) := by
 have hrw := box_lt h.box
 have hbw := h.blt h1
 have KY := fun W => Lib.hid (need_yes W)
 have KNo := fun W => Lib.hid (need_no W)
 have hb0 : Below w.heap.size w (w.alloc (.cells #[.int .u16 0, .bool false, .int .i64 0, .bool false, .bool false, .bool false, .bool false, .bool false, .bool false, .int .i64 0, .slice none 0 0, .slice none 0 0, .slice none 0 0, .slice none 0 0] 26)) := newq_below _ _
 have HR0 := Lib.hid (h.below hb0)
 have HD0 : Hid ((w.alloc (.cells #[.int .u16 0, .bool false, .int .i64 0, .bool false, .bool false, .bool false, .bool false, .bool false, .bool false, .int .i64 0, .slice none 0 0, .slice none 0 0, .slice none 0 0, .slice none 0 0] 26)).heap[w.heap.size]? = some (.cells #[.int .u16 0, .bool false, .int .i64 0, .bool false, .bool false, .bool false, .bool false, .bool false, .bool false, .int .i64 0, .slice none 0 0, .slice none 0 0, .slice none 0 0, .slice none 0 0] 26)) := heap_alloc_new _ _
 have HB0 := Lib.hid hb0
 obtain ⟨R, hR⟩ : ∃ R, R = w.heap.size := ⟨_, rfl⟩
 have HRR := Lib.hid hR
 rw [<- hR] at HD0 hrw hbw
 clear h hb0
 go_enter Tryz.func34, Tryz.ntmps34
 go_wp2_with fail
 simp only [<- hR]
 generalize w.alloc (.cells #[.int .u16 0, .bool false, .int .i64 0, .bool false, .bool false, .bool false, .bool false, .bool false, .bool false, .int .i64 0, .slice none 0 0, .slice none 0 0, .slice none 0 0, .slice none 0 0] 26) = w0 at *
 clear hR
 refine (K1.out w0 HR0.out).mono ?_
 rintro e1 w1 ⟨rfl, H1⟩
 obtain ⟨v0, v1, v2, v3⟩ := two_at w1 (.cells #[.int .u16 (I : Int), .bool (unfl F 32768), .int .i64 (unop F : Nat), .bool (unfl F 1024), .bool (unfl F 512), .bool (unfl F 256), .bool (unfl F 128), .bool (unfl F 32), .bool (unfl F 16), .int .i64 (unrc F : Nat), .slice none 0 0, .slice none 0 0, .slice none 0 0, .slice none 0 0] 26) (.cells #[.int .i64 (C2 : Int), .int .i64 (C3 : Int), .int .i64 (C4 : Int), .int .i64 (C5 : Int)] 74)
 obtain ⟨M, hM⟩ : ∃ M, M = w1.heap.size := ⟨_, rfl⟩
 obtain ⟨C, hC⟩ : ∃ C, C = M + 1 := ⟨_, rfl⟩
 have hRM : R < M := by
   have := H1.out.2.size
   have := box_lt HD0.out
   omega
 have HGK : Hid (Gk (⟨w, R, M, C, r, b, o, n, c, zs, I, F, C2, C3, C4, C5⟩ : Gm)) := ⟨HRR.out, hrw, hbw, hRM, hC, h1⟩
 have HMS : Hid (Ms (⟨w, R, M, C, r, b, o, n, c, zs, I, F, C2, C3, C4, C5⟩ : Gm) ((w1.alloc (.cells #[.int .u16 (I : Int), .bool (unfl F 32768), .int .i64 (unop F : Nat), .bool (unfl F 1024), .bool (unfl F 512), .bool (unfl F 256), .bool (unfl F 128), .bool (unfl F 32), .bool (unfl F 16), .int .i64 (unrc F : Nat), .slice none 0 0, .slice none 0 0, .slice none 0 0, .slice none 0 0] 26)).alloc (.cells #[.int .i64 (C2 : Int), .int .i64 (C3 : Int), .int .i64 (C4 : Int), .int .i64 (C5 : Int)] 74)) (.slice none 0 0) (fun _ => .slice none 0 0) 12) := by
   rw [<- hM] at v0 v1 v2
   rw [<- hC] at v1
   refine ⟨?_, v0, v1, H1.out.1.below v3, grown_trans (grown_trans (grown_of HB0.out) H1.out.2) (grown_of v3), ?_⟩
   · exact (v3.block R (by have := H1.out.2.size; have := box_lt HD0.out; omega)).trans ((H1.out.2.block R (box_lt HD0.out) (fun e => by injection e with e; omega)).trans HD0.out)
   · show C + 1 <= _
     omega
 clear v0 v1 v2 v3 H1 HD0 HB0 HR0 K1
 go_upto_region 2 with fail
 simp only [World.size_alloc, <- hM, <- hC]
 generalize ((w1.alloc (.cells #[.int .u16 (I : Int), .bool (unfl F 32768), .int .i64 (unop F : Nat), .bool (unfl F 1024), .bool (unfl F 512), .bool (unfl F 256), .bool (unfl F 128), .bool (unfl F 32), .bool (unfl F 16), .int .i64 (unrc F : Nat), .slice none 0 0, .slice none 0 0, .slice none 0 0, .slice none 0 0] 26)).alloc (.cells #[.int .i64 (C2 : Int), .int .i64 (C3 : Int), .int .i64 (C4 : Int), .int .i64 (C5 : Int)] 74)) = w2 at *
 have HMC : Hid (C = M + 1) := hC
 clear hM hC
 have hMC1 : ¬ C = M := by have := HMC.out; omega
 have hMC2 : ¬ M = C := by omega
 have k0 : w2.cell? ⟨C, 0, none⟩ = some (.int .i64 (C2 : Int)) := box_cell HMS.out.cnt 0 _ rfl
 have lC : C < w2.heap.size := box_lt HMS.out.cnt
 obtain ⟨FQ, HFQ⟩ : ∃ FQ : List Qn -> Nat -> Option ((List Qn × List Rec × List Rec × List Rec) × Nat), Hid (FQ = fun qs q => RSf zs qs (cs3 C3 C4 C5) 3 (fun _ => []) q) := ⟨_, rfl⟩
 have HG0 : Hid (G = Mny (gqn zs) FQ C2 [] 12) := by
   show G = _
   rw [<- HG.out, gbody_rs, HFQ.out]
 clear HG
 obtain ⟨i64, hi, hz0, hz1, hz2⟩ := inf64
 have HI : Hid (Tryz.prog.info? 55 = some i64 /\ i64.zero = some (.agg #[.slice none 0 0, .int .u16 0, .int .u16 0]) /\ i64.size = 3 /\ i64.bytes = 32) := ⟨hi, hz0, hz1, hz2⟩
 clear hi hz0 hz1 hz2
 obtain ⟨i61, hi, hz0, hz1, hz2⟩ := inf61
 have HJ : Hid (Tryz.prog.info? 62 = some i61 /\ i61.zero = some (.agg #[.slice none 0 0, .int .u16 0, .int .u16 0, .int .u32 0, .slice none 0 0, .slice none 0 0, .slice none 0 0, .slice none 0 0]) /\ i61.size = 8 /\ i61.bytes = 128) := ⟨hi, hz0, hz1, hz2⟩
 clear hi hz0 hz1 hz2
 go_wp2_with fail
 go_loopw [14] (fun y wr => ∃ (k q : Nat) (v : Value) (pre : List Qn), k <= C2 /\ y = .int .i64 (k : Int) /\ pre.length = k /\ Hid (Ms (⟨w, R, M, C, r, b, o, n, c, zs, I, F, C2, C3, C4, C5⟩ : Gm) wr v (fun _ => .slice none 0 0) q /\ OwQ (C + 1) wr v pre /\ G = Mny (gqn zs) FQ (C2 - k) pre q)) (fun y _ => C2 - (intOf y).toNat)
 case atStart => exact ⟨0, 12, _, [], Nat.zero_le _, rfl, rfl, HMS.out, OwQ.nil _ _, HG0.out⟩
 case round =>
   obtain ⟨k, q, v, pre, hk, rfl, hpl, HW⟩ := hrel
   clear HMS HG0 k0 lC
   have lM : M < wr.heap.size := box_lt HW.out.1.box
   have hx0 : C + 1 <= wr.heap.size := HW.out.1.sz
   by_cases hlt : k < C2
   · have hlt' : (k : Int) < (C2 : Int) := by omega
     have e1 : C2 - k = (C2 - (k + 1)) + 1 := by omega
     have c10 : wr.drew.cell? ⟨M, 10, none⟩ = some v := box_cell (w := wr.drew) HW.out.1.box 10 _ rfl
     have HRd := Lib.hid (HW.out.1.rdr.below ((Below.refl wr.heap.size wr).drew))
     cases hgq : gqn zs q with
     | none =>
       have HGN : Hid (G = none) := by
         have := HW.out.2.2
         rw [e1] at this
         exact this.trans (Mny.none hgq)
       have KC := Lib.hid (rqn_no r (some ⟨b, o, none⟩) n c zs q wr.drew HRd.out hgq)
       have HGr := Lib.hid HW.out.1.gr
       go_wp2_with fail
       go_region_dies
       all_goals (refine KC.out.mono ?_; rintro e w6 ⟨rfl, H6⟩; go_wp2; exact ⟨rfl, RmG.dies HGN.out (grown_trans HGr.out (wr_drew H6.out))⟩)
     | some x =>
       have HGS : Hid (G = Mny (gqn zs) FQ (C2 - (k + 1)) (pre ++ [x.1]) x.2) := by
         have := HW.out.2.2
         rw [e1] at this
         exact this.trans (Mny.some hgq)
       have KC : Hid (Calls Tryz.prog 58 #[.pointer (some ⟨r, 0, none⟩)] wr.drew fun e w' => ∃ s : Sl, e = .returned (.agg #[.slice s.a s.n s.c, .int .u16 x.1.ty, .int .u16 x.1.cl]) /\ Hid (Rdr w' r (some ⟨b, o, none⟩) n c zs x.2 /\ Owx1 wr.heap.size w' s x.1.nm /\ wr.grownBy w' (some r))) := (rqn_yes r b o n c zs q x wr.drew HRd.out h1 hgq).mono fun e w' hh => by
         obtain ⟨s, e5, H5⟩ := hh
         exact ⟨s, e5, H5.out.1, H5.out.2.1, wr_drew H5.out.2.2⟩
       obtain ⟨⟨nm, t, cl⟩, q2⟩ := x
       simp only at KC HGS
       obtain ⟨ps, hp1, hp2, hp3⟩ := HW.out.2.1
       have hpk : ps.length = k := by rw [<- hpl, <- hp1]; simp
       have HP : Hid (ps.map (·.2) = pre /\ ∀ p ∈ ps, RfQ (C + 1) wr v.ownBlock p.1 p.2) := ⟨hp1, hp3⟩
       have HPO : Hid (wr.ownsRow (C + 1) 55 3 v ps.length (cellsQ ps)) := hp2
       have hbnd : ps.length <= 16 := by omega
       have HPK := Lib.hid hpk
       have HML := Lib.hid HW.out.1
       have hrC : r < C + 1 := by have := HMC.out; omega
       have H6A : Hid (∀ W : World, wr.grownBy W (some r) -> W.cell? ⟨M, 10, none⟩ = some v /\ C + 1 <= W.heap.size /\ M < W.heap.size /\ W.ownsRow (C + 1) 55 3 v ps.length (cellsQ ps)) := fun W hg => ⟨box_cell ((hg.block M lM (fun e => by injection e with e; omega)).trans HML.out.box) 10 _ rfl, Nat.le_trans hx0 hg.size, Nat.lt_of_lt_of_le lM hg.size, ownsRow_keep HPO.out (fun j h1 h2 => hg.block j h2 (fun e => by injection e with e; omega))⟩
       have H7A : Hid (∀ W W6 W7 : World, Rdr W r (some ⟨b, o, none⟩) n c zs q2 -> wr.grownBy W (some r) -> Below W.heap.size W W6 -> W6.grownBy W7 v.ownBlock -> Ms (⟨w, R, M, C, r, b, o, n, c, zs, I, F, C2, C3, C4, C5⟩ : Gm) W7 v (fun _ => .slice none 0 0) q2) := fun W W6 W7 g1 g2 g3 g4 => HML.out.push HGK.out g1 g2 g3 g4 (fun j ej => (HPO.out.lt j ej).1)
       clear hp1 hp2 hp3 hpk HW
       go_wp2_with fail
       go_region_law (first
         | (go_simp; go_at_call 58; refine KC.out.mono ?_; rintro e w6 ⟨⟨ya, yn, yc⟩, rfl, HC⟩; obtain ⟨d10, l6, m6, o6⟩ := H6A.out w6 HC.out.2.2; have O6 := Lib.hid o6; clear o6; have d11 : (w6.alloc (.cells #[.slice ya yn yc, .int .u16 (t : Int), .int .u16 (cl : Int)] 55)).cell? ⟨M, 10, none⟩ = some v := ((newq_below w6 _).cell (p := ⟨M, 10, none⟩) m6).trans d10)
         | (refine step_append_lies _ (by rfl) _ _ 23 (by rfl) (C + 1) 55 i64 _ 3 32 Tryz.underlying23 HI.out.1 HI.out.2.1 HI.out.2.2.1 HI.out.2.2.2 rfl (by omega) v ps.length (cellsQ ps) (by rfl) ((O6.out).alloc _) ⟨w6.heap.size, 0, none⟩ 1 1 (cellsQ [(⟨ya, yn, yc⟩, ⟨nm, t, cl⟩)]) (by rfl) (by rfl) (one_qn w6 ⟨ya, yn, yc⟩ ⟨nm, t, cl⟩) (cellsQ_one _) (by omega) (by simp only [maxLen]; omega) (by omega) (by simp; omega) (w6.heap.size + 1) (by simp) ?_; intro g cap w7 h5 h6 hat hlt7; have H5 := Lib.hid h5; have H56 := Lib.hid h6; have HAT := Lib.hid hat; have H7 := Lib.hid (H7A.out w6 _ w7 HC.out.1 HC.out.2.2 (newq_below w6 _) h6); have u10 : w7.cell? ⟨M, 10, none⟩ = some v := (box_cell H7.out.box 10 _ rfl); have uz : w7.frozen? ⟨M, 10, none⟩ = false := (box_frozen H7.out.box 10); have l7 : M < w7.heap.size := box_lt H7.out.box; clear h5 h6 hat)
         | fail)
       all_goals
         have HV8 : Hid (Ms (⟨w, R, M, C, r, b, o, n, c, zs, I, F, C2, C3, C4, C5⟩ : Gm) (w7.setCell ⟨M, 10, none⟩ (.slice (some ⟨g, 0, none⟩) (ps.length + 1) cap)) (.slice (some ⟨g, 0, none⟩) (ps.length + 1) cap) (fun _ => .slice none 0 0) q2) := H7.out.setQ HGK.out _
         have HO8 : Hid (OwQ (C + 1) (w7.setCell ⟨M, 10, none⟩ (.slice (some ⟨g, 0, none⟩) (ps.length + 1) cap)) (.slice (some ⟨g, 0, none⟩) (ps.length + 1) cap) (pre ++ [⟨nm, t, cl⟩])) := by
           have hp := OwQ.pushG (v' := .slice (some ⟨g, 0, none⟩) (ps.length + 1) cap) HP.out.2 HPO.out hx0 hrC (show QOwx wr.heap.size w6 ⟨ya, yn, yc⟩ ⟨nm, t, cl⟩ from HC.out.2.1) (newq_below w6 _) HC.out.2.2 H5.out H56.out (by rcases HAT.out with h | h; exact .inl h.symm; exact .inr (by rw [h]; simp [Value.ownBlock]))
           rw [HP.out.1] at hp
           exact hp.keep (Nat.le_of_eq (by simp [World.setCell])) (fun j h1 _ => Below.heap_setCell w7 _ _ j (by have := HMC.out; simp; omega))
         generalize w7.setCell ⟨M, 10, none⟩ (.slice (some ⟨g, 0, none⟩) (ps.length + 1) cap) = w8 at *
         go_wp2_with fail
         exact ⟨⟨k + 1, q2, _, _, by omega, by go_num, by simp [hpl], HV8.out, HO8.out, HGS.out⟩, by simp [intOf]; omega⟩
   · have hng : ¬ (k : Int) < (C2 : Int) := by omega
     have HGX : Hid (G = FQ pre q) := by
       have := HW.out.2.2
       rw [show C2 - k = 0 by omega, Mny.zero] at this
       exact this
     have KSec := fun W => Lib.hid (sections_any M W)
     go_wp2_with fail
     refine (KSec _).out.mono ?_
     rintro e w7 ⟨rfl, H7⟩
     have HM7 : Hid (Ms (⟨w, R, M, C, r, b, o, n, c, zs, I, F, C2, C3, C4, C5⟩ : Gm) w7 v (fun _ => .slice none 0 0) q) := HW.out.1.below HGK.out H7.out
     have HS7 : Hid (Stb (C + 1) w7.heap.size (Dn (C + 1) v pre (fun _ => .slice none 0 0) (fun _ => []) 0) w7) := by
       have := Stb.ofQ (HW.out.2.1.stays H7.out)
       exact ⟨this.1, fun w' hs hb => ⟨this.2 w' hs hb, fun i hi => absurd hi (Nat.not_lt_zero i)⟩⟩
     have HGR : Hid (G = RSf zs pre (cs3 C3 C4 C5) 3 (fun _ => []) q) := by
       show G = _
       rw [HGX.out, HFQ.out]
     clear HW HGX H7 lM hx0
     go_wp2_with fail
     go_loopw [25] (fun z wr => ∃ (j q : Nat) (vs : Nat -> Value) (ls : Nat -> List Rec) (S : Nat), j <= 3 /\ z = .int .i64 (j : Int) /\ Hid (Ms (⟨w, R, M, C, r, b, o, n, c, zs, I, F, C2, C3, C4, C5⟩ : Gm) wr v vs q /\ Stb (C + 1) S (Dn (C + 1) v pre vs ls j) wr /\ (∀ i, j <= i -> vs i = .slice none 0 0) /\ G = RSf zs pre (cs3 C3 C4 C5) (3 - j) ls q)) (fun z _ => 3 - (intOf z).toNat)
     case atStart => exact ⟨0, q, _, _, _, by omega, rfl, HM7.out, HS7.out, fun _ _ => rfl, HGR.out⟩
     case round =>
       obtain ⟨j, q, vs, ls, S, hj, rfl, HW⟩ := hrel
       clear HM7 HS7 HGR
       by_cases hlt3 : j < 3
       · have h3 : (j : Int) < 3 := by omega
         have hix := ixS M j hlt3
         have hcn : wr.cell? ⟨C, 1 + j, none⟩ = some (.int .i64 (cs3 C3 C4 C5 j : Int)) := HW.out.1.count j hlt3
         have lC : C < wr.heap.size := box_lt HW.out.1.cnt
         have hN : cs3 C3 C4 C5 j <= 512 := by unfold cs3; split; omega; split <;> omega
         obtain ⟨FF, HFF⟩ : ∃ FF : List Rec -> Nat -> Option ((List Qn × List Rec × List Rec × List Rec) × Nat), Hid (FF = fun a q => RSf zs pre (cs3 C3 C4 C5) (2 - j) (upd ls j a) q) := ⟨_, rfl⟩
         have HGJ : Hid (G = Mny (grec zs) FF (cs3 C3 C4 C5 j) [] q) := by
           have := HW.out.2.2.2
           rw [show 3 - j = (2 - j) + 1 by omega] at this
           simp only [RSf] at this
           rw [show 2 - (2 - j) = j by omega] at this
           rw [HFF.out]
           exact this
         generalize cs3 C3 C4 C5 j = N at *
         have hj0 : (0 : Int) <= 1 + (j : Int) := by omega
         have hj4 : 1 + (j : Int) < 4 := by omega
         have hjn : (1 + (j : Int)).toNat = 1 + j := by omega
         have hjw : IntKind.i64.wrap (1 + (j : Int)) = 1 + (j : Int) := wrap_in (by omega) (by omega)
         go_wp2_with fail
         have HSo : Hid (S <= wr.heap.size) := HW.out.2.1.1
         obtain ⟨wo, hwo⟩ : ∃ z, z = wr := ⟨_, rfl⟩
         subst hwo
         obtain ⟨B1, hB1⟩ : ∃ B1, B1 = wo.heap.size := ⟨_, rfl⟩
         have HB1 : Hid (B1 = wo.heap.size /\ C + 1 <= B1 /\ S <= B1) := ⟨hB1, by rw [hB1]; exact HW.out.1.sz, by rw [hB1]; exact HSo.out⟩
         clear hB1 hcn
         go_loopw [33] (fun z wr => ∃ (k q : Nat) (vs' : Nat -> Value) (rl : List Rec), k <= N /\ z = .int .i64 (k : Int) /\ rl.length = k /\ Hid (Ms (⟨w, R, M, C, r, b, o, n, c, zs, I, F, C2, C3, C4, C5⟩ : Gm) wr v vs' q /\ (∀ i, i ≠ j -> vs' i = vs i) /\ OwR B1 wr (vs' j) rl /\ Stb (C + 1) S (Dn (C + 1) v pre vs ls j) wr /\ B1 <= wr.heap.size /\ G = Mny (grec zs) FF (N - k) rl q)) (fun z _ => N - (intOf z).toNat)
         case atStart => exact ⟨0, q, vs, [], Nat.zero_le _, rfl, rfl, HW.out.1, fun _ _ => rfl, (by rw [HW.out.2.2.1 j (Nat.le_refl _)]; exact OwR.nil' _ _), HW.out.2.1, Nat.le_of_eq HB1.out.1, HGJ.out⟩
         case round =>
           obtain ⟨k, q, vs', rl, hk, rfl, hrl, HK⟩ := hrel
           have lM : M < wr.heap.size := box_lt HK.out.1.box
           have hx0 : B1 <= wr.heap.size := HK.out.2.2.2.2.1
           have hCB : C + 1 <= B1 := HB1.out.2.1
           obtain ⟨u, hu⟩ : ∃ u, u = vs' j := ⟨_, rfl⟩
           have HU := Lib.hid hu
           by_cases hlt : k < N
           · have hlt' : (k : Int) < (N : Int) := by omega
             have e1 : N - k = (N - (k + 1)) + 1 := by omega
             have c10 : wr.drew.cell? ⟨M, 11 + j, none⟩ = some u := by rw [hu]; exact HK.out.1.cell j hlt3
             have HRd := Lib.hid (HK.out.1.rdr.below ((Below.refl wr.heap.size wr).drew))
             clear hu
             cases hgr : grec zs q with
             | none =>
               have HGN : Hid (G = none) := by
                 have := HK.out.2.2.2.2.2
                 rw [e1] at this
                 exact this.trans (Mny.none hgr)
               have KC := Lib.hid (rrec_no r b o n c zs q wr.drew HRd.out h1 hgr)
               have HGr := Lib.hid HK.out.1.gr
               go_wp2_with fail
               go_region_dies
               all_goals (refine KC.out.mono ?_; rintro e w6 ⟨rfl, H6⟩; go_wp2; exact ⟨rfl, RmG.dies HGN.out (grown_trans HGr.out (wr_drew H6.out))⟩)
             | some x =>
               have HGS : Hid (G = Mny (grec zs) FF (N - (k + 1)) (rl ++ [x.1]) x.2) := by
                 have := HK.out.2.2.2.2.2
                 rw [e1] at this
                 exact this.trans (Mny.some hgr)
               have KC : Hid (Calls Tryz.prog 59 #[.pointer (some ⟨r, 0, none⟩)] wr.drew fun e w' => ∃ y : RA, e = .returned (.agg #[.slice y.o.a y.o.n y.o.c, .int .u16 x.1.t, .int .u16 x.1.cl, .int .u32 x.1.tt, .slice y.d.p1.a y.d.p1.n y.d.p1.c, .slice y.d.p2.a y.d.p2.n y.d.p2.c, .slice y.d.p3.a y.d.p3.n y.d.p3.c, .slice y.d.p4.a y.d.p4.n y.d.p4.c]) /\ Hid (Rdr w' r (some ⟨b, o, none⟩) n c zs x.2 /\ ROwx wr.heap.size w' y x.1 /\ wr.grownBy w' (some r))) := (rrec_yes r b o n c zs q x wr.drew HRd.out h1 hgr).mono fun e w' hh => by
                 obtain ⟨s, e5, H5⟩ := hh
                 exact ⟨s, e5, H5.out.1, ⟨H5.out.2.1, H5.out.2.2.1⟩, wr_drew H5.out.2.2.2⟩
               obtain ⟨⟨ow, t, cl, tt, d⟩, q2⟩ := x
               simp only at KC HGS
               obtain ⟨ps, hp1, hp2, hp3⟩ := HK.out.2.2.1
               rw [<- HU.out] at hp2 hp3
               have hpk : ps.length = k := by rw [<- hrl, <- hp1]; simp
               have HP : Hid (ps.map (·.2) = rl /\ ∀ p ∈ ps, RfR B1 wr u.ownBlock p.1 p.2) := ⟨hp1, hp3⟩
               have HPO : Hid (wr.ownsRow B1 62 8 u ps.length (cellsR ps)) := hp2
               have hbnd : ps.length <= 512 := by omega
               have HPK := Lib.hid hpk
               have HML := Lib.hid HK.out.1
               have HVI := Lib.hid HK.out.2.1
               have HST := Lib.hid HK.out.2.2.2.1
               have hrC : r < B1 := by have := HMC.out; omega
               have H6A : Hid (∀ W : World, wr.grownBy W (some r) -> W.cell? ⟨M, 11 + j, none⟩ = some u /\ B1 <= W.heap.size /\ M < W.heap.size /\ W.ownsRow B1 62 8 u ps.length (cellsR ps)) := fun W hg => ⟨(World.cell?_of_block (w := wr) (a := ⟨M, 11 + j, none⟩) (hg.block M lM (fun e => by injection e with e; omega))).trans (by rw [HU.out]; exact HML.out.cell j hlt3), Nat.le_trans hx0 hg.size, Nat.lt_of_lt_of_le lM hg.size, ownsRow_keep HPO.out (fun j h1 h2 => hg.block j h2 (fun e => by injection e with e; omega))⟩
               have H7A : Hid (∀ W W6 W7 : World, Rdr W r (some ⟨b, o, none⟩) n c zs q2 -> wr.grownBy W (some r) -> Below W.heap.size W W6 -> W6.grownBy W7 u.ownBlock -> Ms (⟨w, R, M, C, r, b, o, n, c, zs, I, F, C2, C3, C4, C5⟩ : Gm) W7 v vs' q2) := fun W W6 W7 g1 g2 g3 g4 => HML.out.push HGK.out g1 g2 g3 g4 (fun j ej => Nat.le_trans hCB (HPO.out.lt j ej).1)
               clear hp1 hp2 hp3 hpk HK
               go_wp2_with fail
               go_region_law (first
                 | (go_simp; go_at_call 59; refine KC.out.mono ?_; rintro e w6 ⟨⟨⟨ya, yn, yc⟩, ⟨⟨a1, n1, c1⟩, ⟨a2, n2, c2⟩, ⟨a3, n3, c3⟩, ⟨a4, n4, c4⟩⟩⟩, rfl, HC⟩; obtain ⟨d10, l6, m6, o6⟩ := H6A.out w6 HC.out.2.2; have O6 := Lib.hid o6; clear o6; have d11 : (w6.alloc (.cells #[.slice ya yn yc, .int .u16 (t : Int), .int .u16 (cl : Int), .int .u32 (tt : Int), .slice a1 n1 c1, .slice a2 n2 c2, .slice a3 n3 c3, .slice a4 n4 c4] 62)).cell? ⟨M, 11 + j, none⟩ = some u := ((newq_below w6 _).cell (p := ⟨M, 11 + j, none⟩) m6).trans d10)
                 | (refine step_append_lies _ (by rfl) _ _ 24 (by rfl) B1 62 i61 _ 8 128 Tryz.underlying24 HJ.out.1 HJ.out.2.1 HJ.out.2.2.1 HJ.out.2.2.2 rfl (by omega) u ps.length (cellsR ps) (by rfl) ((O6.out).alloc _) ⟨w6.heap.size, 0, none⟩ 1 1 (cellsR [(⟨⟨ya, yn, yc⟩, ⟨⟨a1, n1, c1⟩, ⟨a2, n2, c2⟩, ⟨a3, n3, c3⟩, ⟨a4, n4, c4⟩⟩⟩, ⟨ow, t, cl, tt, d⟩)]) (by rfl) (by rfl) (one_rec w6 ⟨⟨ya, yn, yc⟩, ⟨⟨a1, n1, c1⟩, ⟨a2, n2, c2⟩, ⟨a3, n3, c3⟩, ⟨a4, n4, c4⟩⟩⟩ ⟨ow, t, cl, tt, d⟩) (cellsR_one _) (by omega) (by simp only [maxLen]; omega) (by omega) (by simp; omega) (w6.heap.size + 1) (by simp) ?_; intro g cap w7 h5 h6 hat hlt7; have H5 := Lib.hid h5; have H56 := Lib.hid h6; have HAT := Lib.hid hat; have H7 := Lib.hid (H7A.out w6 _ w7 HC.out.1 HC.out.2.2 (newq_below w6 _) h6); have u10 : w7.cell? ⟨M, 11 + j, none⟩ = some u := (by rw [HU.out]; exact H7.out.cell j hlt3); have uz : w7.frozen? ⟨M, 11 + j, none⟩ = false := (box_frozen H7.out.box (11 + j)); have l7 : M < w7.heap.size := box_lt H7.out.box; clear h5 h6 hat)
                 | fail)
               all_goals
                 have HV8 : Hid (Ms (⟨w, R, M, C, r, b, o, n, c, zs, I, F, C2, C3, C4, C5⟩ : Gm) (w7.setCell ⟨M, 11 + j, none⟩ (.slice (some ⟨g, 0, none⟩) (ps.length + 1) cap)) v (upd vs' j (.slice (some ⟨g, 0, none⟩) (ps.length + 1) cap)) q2) := H7.out.setR HGK.out j hlt3 _
                 have HO8 : Hid (OwR B1 (w7.setCell ⟨M, 11 + j, none⟩ (.slice (some ⟨g, 0, none⟩) (ps.length + 1) cap)) (.slice (some ⟨g, 0, none⟩) (ps.length + 1) cap) (rl ++ [⟨ow, t, cl, tt, d⟩])) := by
                   have hp := OwR.pushG (v' := (.slice (some ⟨g, 0, none⟩) (ps.length + 1) cap)) HP.out.2 HPO.out hx0 hrC (show ROwx wr.heap.size w6 ⟨⟨ya, yn, yc⟩, ⟨⟨a1, n1, c1⟩, ⟨a2, n2, c2⟩, ⟨a3, n3, c3⟩, ⟨a4, n4, c4⟩⟩⟩ ⟨ow, t, cl, tt, d⟩ from HC.out.2.1) (newq_below w6 _) HC.out.2.2 H5.out H56.out (by rcases HAT.out with h | h; exact .inl h.symm; exact .inr (by rw [h]; simp [Value.ownBlock]))
                   rw [HP.out.1] at hp
                   exact hp.keep (Nat.le_of_eq (by simp [World.setCell])) (fun j h1 _ => Below.heap_setCell w7 _ _ j (by have := HMC.out; simp; omega))
                 have HS8 : Hid (Stb (C + 1) S (Dn (C + 1) v pre vs ls j) (w7.setCell ⟨M, 11 + j, none⟩ (.slice (some ⟨g, 0, none⟩) (ps.length + 1) cap)) /\ B1 <= (w7.setCell ⟨M, 11 + j, none⟩ (.slice (some ⟨g, 0, none⟩) (ps.length + 1) cap)).heap.size) := by
                   have z1 := HC.out.2.2.size
                   have z2 := (newq_below w6 (.cells #[.slice ya yn yc, .int .u16 (t : Int), .int .u16 (cl : Int), .int .u32 (tt : Int), .slice a1 n1 c1, .slice a2 n2 c2, .slice a3 n3 c3, .slice a4 n4 c4] 62)).size
                   have z3 := H56.out.size
                   have z4 : (w7.setCell ⟨M, 11 + j, none⟩ (.slice (some ⟨g, 0, none⟩) (ps.length + 1) cap)).heap.size = w7.heap.size := by simp [World.setCell]
                   have z5 := HB1.out.2.2
                   have z6 := HMC.out
                   have z7 : (w6.alloc (.cells #[.slice ya yn yc, .int .u16 (t : Int), .int .u16 (cl : Int), .int .u32 (tt : Int), .slice a1 n1 c1, .slice a2 n2 c2, .slice a3 n3 c3, .slice a4 n4 c4] 62)).heap.size = w6.heap.size + 1 := World.size_alloc _ _
                   refine ⟨HST.out.go (by rw [z4]; exact Nat.le_trans z1 (Nat.le_trans z2 z3)) (fun x hx1 hx2 => ?_), by rw [z4]; exact Nat.le_trans hx0 (Nat.le_trans z1 (Nat.le_trans z2 z3))⟩
                   rw [Below.heap_setCell w7 _ _ x (show x ≠ M by omega)]
                   exact (H56.out.block x (by omega) (fun e => by have := (HPO.out.lt x e.symm).1; omega)).trans (((newq_below w6 _).block x (by omega)).trans (HC.out.2.2.block x (by omega) (fun e => by injection e with e; omega)))
                 generalize w7.setCell ⟨M, 11 + j, none⟩ (.slice (some ⟨g, 0, none⟩) (ps.length + 1) cap) = w8 at *
                 go_wp2_with fail
                 exact ⟨⟨k + 1, q2, _, _, by omega, by go_num, by simp [hrl], HV8.out, (fun i hi => by unfold upd; rw [if_neg hi]; exact HVI.out i hi), (by unfold upd; rw [if_pos rfl]; exact HO8.out), HS8.out.1, HS8.out.2, HGS.out⟩, by simp [intOf]; omega⟩
           · have hng2 : ¬ (k : Int) < (N : Int) := by omega
             have HGX : Hid (G = RSf zs pre (cs3 C3 C4 C5) (3 - (j + 1)) (upd ls j rl) q) := by
               have := HK.out.2.2.2.2.2
               rw [show N - k = 0 by omega, Mny.zero, HFF.out] at this
               rw [show 3 - (j + 1) = 2 - j by omega]
               exact this
             have HDN := Lib.hid (Dn.next HK.out.2.2.2.1 HK.out.2.1 HK.out.2.2.1 HB1.out.2.1)
             have HNL : Hid (∀ i, j + 1 <= i -> vs' i = .slice none 0 0) := fun i hi => (HK.out.2.1 i (by omega)).trans (HW.out.2.2.1 i (by omega))
             have HML := Lib.hid HK.out.1
             clear hu HK
             go_wp2_with fail
             exact ⟨⟨j + 1, q, _, _, _, by omega, by go_num, HML.out, HDN.out, HNL.out, HGX.out⟩, by simp [intOf]; omega⟩
       · have hng3 : ¬ (j : Int) < 3 := by omega
         have HGE : Hid (G = some ((pre, ls 0, ls 1, ls 2), q)) := by
           have := HW.out.2.2.2
           rw [show 3 - j = 0 by omega] at this
           exact this
         have c0 : wr.cell? ⟨r, 0, none⟩ = some (.slice (some ⟨b, o, none⟩) n c) := box_cell HW.out.1.rdr.box 0 _ rfl
         have c1 : wr.cell? ⟨r, 1, none⟩ = some (.int .i64 (q : Int)) := box_cell HW.out.1.rdr.box 1 _ rfl
         have hlt : r < wr.heap.size := box_lt HW.out.1.rdr.box
         by_cases hq : n = q
         · subst hq
           go_wp2_with fail
           go_quiet (first
             | (go_at_call 60; exact Calls.quiet_of_same (KY _).out))
           have HB9 := Lib.hid (below_dn wr nq)
           have HM9 := Lib.hid (HW.out.1.below HGK.out HB9.out)
           have HD9 : Hid (Dn (C + 1) v pre vs ls 3 (wr.drewN nq)) := by
             have := (HW.out.2.1.go (w' := wr.drewN nq) (Nat.le_refl _) (fun _ _ _ => rfl)).get
             rw [show j = 3 by omega] at this
             exact this
           generalize wr.drewN nq = w9 at *
           clear c0 c1 hlt HW
           obtain ⟨aq, cq, hv, _⟩ := HD9.out.1.rd
           obtain ⟨ax, cx, hv0, _⟩ := (HD9.out.2 0 (by omega)).rd
           obtain ⟨ay, cy, hv1, _⟩ := (HD9.out.2 1 (by omega)).rd
           obtain ⟨az, cz, hv2, _⟩ := (HD9.out.2 2 (by omega)).rd
           have HVV : Hid (v = .slice aq pre.length cq /\ vs 0 = .slice ax (ls 0).length cx /\ vs 1 = .slice ay (ls 1).length cy /\ vs 2 = .slice az (ls 2).length cz) := ⟨hv, hv0, hv1, hv2⟩
           clear hv hv0 hv1 hv2
           obtain ⟨lq, hlq⟩ : ∃ l, l = pre.length := ⟨_, rfl⟩
           obtain ⟨lx, hlx⟩ : ∃ l, l = (ls 0).length := ⟨_, rfl⟩
           obtain ⟨ly, hly⟩ : ∃ l, l = (ls 1).length := ⟨_, rfl⟩
           obtain ⟨lz, hlz⟩ : ∃ l, l = (ls 2).length := ⟨_, rfl⟩
           rw [<- hlq, <- hlx, <- hly, <- hlz] at HVV
           clear hlq hlx hly hlz
           have m0 : w9.cell? ⟨M, 0, none⟩ = some (.int .u16 (I : Int)) := box_cell HM9.out.box 0 _ rfl
           have m1 : w9.cell? ⟨M, 1, none⟩ = some (.bool (unfl F 32768)) := box_cell HM9.out.box 1 _ rfl
           have m2 : w9.cell? ⟨M, 2, none⟩ = some (.int .i64 (unop F : Nat)) := box_cell HM9.out.box 2 _ rfl
           have m3 : w9.cell? ⟨M, 3, none⟩ = some (.bool (unfl F 1024)) := box_cell HM9.out.box 3 _ rfl
           have m4 : w9.cell? ⟨M, 4, none⟩ = some (.bool (unfl F 512)) := box_cell HM9.out.box 4 _ rfl
           have m5 : w9.cell? ⟨M, 5, none⟩ = some (.bool (unfl F 256)) := box_cell HM9.out.box 5 _ rfl
           have m6 : w9.cell? ⟨M, 6, none⟩ = some (.bool (unfl F 128)) := box_cell HM9.out.box 6 _ rfl
           have m7 : w9.cell? ⟨M, 7, none⟩ = some (.bool (unfl F 32)) := box_cell HM9.out.box 7 _ rfl
           have m8 : w9.cell? ⟨M, 8, none⟩ = some (.bool (unfl F 16)) := box_cell HM9.out.box 8 _ rfl
           have m9 : w9.cell? ⟨M, 9, none⟩ = some (.int .i64 (unrc F : Nat)) := box_cell HM9.out.box 9 _ rfl
           have m10 : w9.cell? ⟨M, 10, none⟩ = some (.slice aq lq cq) := (box_cell HM9.out.box 10 _ rfl).trans (congrArg some HVV.out.1)
           have m11 : w9.cell? ⟨M, 11, none⟩ = some (.slice ax lx cx) := (box_cell HM9.out.box 11 _ rfl).trans (congrArg some HVV.out.2.1)
           have m12 : w9.cell? ⟨M, 12, none⟩ = some (.slice ay ly cy) := (box_cell HM9.out.box 12 _ rfl).trans (congrArg some HVV.out.2.2.1)
           have m13 : w9.cell? ⟨M, 13, none⟩ = some (.slice az lz cz) := (box_cell HM9.out.box 13 _ rfl).trans (congrArg some HVV.out.2.2.2)
           have z0 : w9.cell? ⟨R, 0, none⟩ = some (.int .u16 0) := box_cell HM9.out.res 0 _ rfl
           have f0 : w9.frozen? ⟨R, 0, none⟩ = false := box_frozen HM9.out.res 0
           have z1 : w9.cell? ⟨R, 1, none⟩ = some (.bool false) := box_cell HM9.out.res 1 _ rfl
           have f1 : w9.frozen? ⟨R, 1, none⟩ = false := box_frozen HM9.out.res 1
           have z2 : w9.cell? ⟨R, 2, none⟩ = some (.int .i64 0) := box_cell HM9.out.res 2 _ rfl
           have f2 : w9.frozen? ⟨R, 2, none⟩ = false := box_frozen HM9.out.res 2
           have z3 : w9.cell? ⟨R, 3, none⟩ = some (.bool false) := box_cell HM9.out.res 3 _ rfl
           have f3 : w9.frozen? ⟨R, 3, none⟩ = false := box_frozen HM9.out.res 3
           have z4 : w9.cell? ⟨R, 4, none⟩ = some (.bool false) := box_cell HM9.out.res 4 _ rfl
           have f4 : w9.frozen? ⟨R, 4, none⟩ = false := box_frozen HM9.out.res 4
           have z5 : w9.cell? ⟨R, 5, none⟩ = some (.bool false) := box_cell HM9.out.res 5 _ rfl
           have f5 : w9.frozen? ⟨R, 5, none⟩ = false := box_frozen HM9.out.res 5
           have z6 : w9.cell? ⟨R, 6, none⟩ = some (.bool false) := box_cell HM9.out.res 6 _ rfl
           have f6 : w9.frozen? ⟨R, 6, none⟩ = false := box_frozen HM9.out.res 6
           have z7 : w9.cell? ⟨R, 7, none⟩ = some (.bool false) := box_cell HM9.out.res 7 _ rfl
           have f7 : w9.frozen? ⟨R, 7, none⟩ = false := box_frozen HM9.out.res 7
           have z8 : w9.cell? ⟨R, 8, none⟩ = some (.bool false) := box_cell HM9.out.res 8 _ rfl
           have f8 : w9.frozen? ⟨R, 8, none⟩ = false := box_frozen HM9.out.res 8
           have z9 : w9.cell? ⟨R, 9, none⟩ = some (.int .i64 0) := box_cell HM9.out.res 9 _ rfl
           have f9 : w9.frozen? ⟨R, 9, none⟩ = false := box_frozen HM9.out.res 9
           have z10 : w9.cell? ⟨R, 10, none⟩ = some (.slice none 0 0) := box_cell HM9.out.res 10 _ rfl
           have f10 : w9.frozen? ⟨R, 10, none⟩ = false := box_frozen HM9.out.res 10
           have z11 : w9.cell? ⟨R, 11, none⟩ = some (.slice none 0 0) := box_cell HM9.out.res 11 _ rfl
           have f11 : w9.frozen? ⟨R, 11, none⟩ = false := box_frozen HM9.out.res 11
           have z12 : w9.cell? ⟨R, 12, none⟩ = some (.slice none 0 0) := box_cell HM9.out.res 12 _ rfl
           have f12 : w9.frozen? ⟨R, 12, none⟩ = false := box_frozen HM9.out.res 12
           have z13 : w9.cell? ⟨R, 13, none⟩ = some (.slice none 0 0) := box_cell HM9.out.res 13 _ rfl
           have f13 : w9.frozen? ⟨R, 13, none⟩ = false := box_frozen HM9.out.res 13
           have l1 := box_lt HM9.out.box
           have l2 := box_lt HM9.out.res
           have ne1 : ¬ M = R := by omega
           have ne2 : ¬ R = M := by omega
           simp only at l1 l2
           go_wp2_with fail
           have u1 : Hid ((((((((((((((((w9.setCell ⟨R, 0, none⟩ (.int .u16 (I : Int))).setCell ⟨R, 1, none⟩ (.bool (unfl F 32768))).setCell ⟨R, 2, none⟩ (.int .i64 (unop F : Nat))).setCell ⟨R, 3, none⟩ (.bool (unfl F 1024))).setCell ⟨R, 4, none⟩ (.bool (unfl F 512))).setCell ⟨R, 5, none⟩ (.bool (unfl F 256))).setCell ⟨R, 6, none⟩ (.bool (unfl F 128))).setCell ⟨R, 7, none⟩ (.bool (unfl F 32))).setCell ⟨R, 8, none⟩ (.bool (unfl F 16))).setCell ⟨R, 9, none⟩ (.int .i64 (unrc F : Nat))).setCell ⟨R, 10, none⟩ (.slice aq lq cq)).setCell ⟨R, 11, none⟩ (.slice ax lx cx)).setCell ⟨R, 12, none⟩ (.slice ay ly cy)).setCell ⟨R, 13, none⟩ (.slice az lz cz))).heap[R]? = some (.cells #[.int .u16 (I : Int), .bool (unfl F 32768), .int .i64 (unop F : Nat), .bool (unfl F 1024), .bool (unfl F 512), .bool (unfl F 256), .bool (unfl F 128), .bool (unfl F 32), .bool (unfl F 16), .int .i64 (unrc F : Nat), .slice aq lq cq, .slice ax lx cx, .slice ay ly cy, .slice az lz cz] 26)) := put14 HM9.out.res (.int .u16 (I : Int)) (.bool (unfl F 32768)) (.int .i64 (unop F : Nat)) (.bool (unfl F 1024)) (.bool (unfl F 512)) (.bool (unfl F 256)) (.bool (unfl F 128)) (.bool (unfl F 32)) (.bool (unfl F 16)) (.int .i64 (unrc F : Nat)) (.slice aq lq cq) (.slice ax lx cx) (.slice ay ly cy) (.slice az lz cz)
           have u2 : Hid (w9.grownBy (((((((((((((((w9.setCell ⟨R, 0, none⟩ (.int .u16 (I : Int))).setCell ⟨R, 1, none⟩ (.bool (unfl F 32768))).setCell ⟨R, 2, none⟩ (.int .i64 (unop F : Nat))).setCell ⟨R, 3, none⟩ (.bool (unfl F 1024))).setCell ⟨R, 4, none⟩ (.bool (unfl F 512))).setCell ⟨R, 5, none⟩ (.bool (unfl F 256))).setCell ⟨R, 6, none⟩ (.bool (unfl F 128))).setCell ⟨R, 7, none⟩ (.bool (unfl F 32))).setCell ⟨R, 8, none⟩ (.bool (unfl F 16))).setCell ⟨R, 9, none⟩ (.int .i64 (unrc F : Nat))).setCell ⟨R, 10, none⟩ (.slice aq lq cq)).setCell ⟨R, 11, none⟩ (.slice ax lx cx)).setCell ⟨R, 12, none⟩ (.slice ay ly cy)).setCell ⟨R, 13, none⟩ (.slice az lz cz))) (some R)) := ⟨(put14_below w9 R (.int .u16 (I : Int)) (.bool (unfl F 32768)) (.int .i64 (unop F : Nat)) (.bool (unfl F 1024)) (.bool (unfl F 512)) (.bool (unfl F 256)) (.bool (unfl F 128)) (.bool (unfl F 32)) (.bool (unfl F 16)) (.int .i64 (unrc F : Nat)) (.slice aq lq cq) (.slice ax lx cx) (.slice ay ly cy) (.slice az lz cz)).os, (put14_below w9 R (.int .u16 (I : Int)) (.bool (unfl F 32768)) (.int .i64 (unop F : Nat)) (.bool (unfl F 1024)) (.bool (unfl F 512)) (.bool (unfl F 256)) (.bool (unfl F 128)) (.bool (unfl F 32)) (.bool (unfl F 16)) (.int .i64 (unrc F : Nat)) (.slice aq lq cq) (.slice ax lx cx) (.slice ay ly cy) (.slice az lz cz)).tape, (put14_below w9 R (.int .u16 (I : Int)) (.bool (unfl F 32768)) (.int .i64 (unop F : Nat)) (.bool (unfl F 1024)) (.bool (unfl F 512)) (.bool (unfl F 256)) (.bool (unfl F 128)) (.bool (unfl F 32)) (.bool (unfl F 16)) (.int .i64 (unrc F : Nat)) (.slice aq lq cq) (.slice ax lx cx) (.slice ay ly cy) (.slice az lz cz)).output, (put14_below w9 R (.int .u16 (I : Int)) (.bool (unfl F 32768)) (.int .i64 (unop F : Nat)) (.bool (unfl F 1024)) (.bool (unfl F 512)) (.bool (unfl F 256)) (.bool (unfl F 128)) (.bool (unfl F 32)) (.bool (unfl F 16)) (.int .i64 (unrc F : Nat)) (.slice aq lq cq) (.slice ax lx cx) (.slice ay ly cy) (.slice az lz cz)).size, fun j _ hne => put14_other w9 R (.int .u16 (I : Int)) (.bool (unfl F 32768)) (.int .i64 (unop F : Nat)) (.bool (unfl F 1024)) (.bool (unfl F 512)) (.bool (unfl F 256)) (.bool (unfl F 128)) (.bool (unfl F 32)) (.bool (unfl F 16)) (.int .i64 (unrc F : Nat)) (.slice aq lq cq) (.slice ax lx cx) (.slice ay ly cy) (.slice az lz cz) j (fun e => hne (by rw [e]))⟩
           clear m0 z0 f0 m1 z1 f1 m2 z2 f2 m3 z3 f3 m4 z4 f4 m5 z5 f5 m6 z6 f6 m7 z7 f7 m8 z8 f8 m9 z9 f9 m10 z10 f10 m11 z11 f11 m12 z12 f12 m13 z13 f13 l1 l2
           generalize ((((((((((((((w9.setCell ⟨R, 0, none⟩ (.int .u16 (I : Int))).setCell ⟨R, 1, none⟩ (.bool (unfl F 32768))).setCell ⟨R, 2, none⟩ (.int .i64 (unop F : Nat))).setCell ⟨R, 3, none⟩ (.bool (unfl F 1024))).setCell ⟨R, 4, none⟩ (.bool (unfl F 512))).setCell ⟨R, 5, none⟩ (.bool (unfl F 256))).setCell ⟨R, 6, none⟩ (.bool (unfl F 128))).setCell ⟨R, 7, none⟩ (.bool (unfl F 32))).setCell ⟨R, 8, none⟩ (.bool (unfl F 16))).setCell ⟨R, 9, none⟩ (.int .i64 (unrc F : Nat))).setCell ⟨R, 10, none⟩ (.slice aq lq cq)).setCell ⟨R, 11, none⟩ (.slice ax lx cx)).setCell ⟨R, 12, none⟩ (.slice ay ly cy)).setCell ⟨R, 13, none⟩ (.slice az lz cz)) = wA at *
           have y0 := box_cell u1.out 0 _ rfl
           have y1 := box_cell u1.out 1 _ rfl
           have y2 := box_cell u1.out 2 _ rfl
           have y3 := box_cell u1.out 3 _ rfl
           have y4 := box_cell u1.out 4 _ rfl
           have y5 := box_cell u1.out 5 _ rfl
           have y6 := box_cell u1.out 6 _ rfl
           have y7 := box_cell u1.out 7 _ rfl
           have y8 := box_cell u1.out 8 _ rfl
           have y9 := box_cell u1.out 9 _ rfl
           have y10 := box_cell u1.out 10 _ rfl
           have y11 := box_cell u1.out 11 _ rfl
           have y12 := box_cell u1.out 12 _ rfl
           have y13 := box_cell u1.out 13 _ rfl
           have hRC : R < C + 1 := by have := HMC.out; omega
           have HDA : Hid (Dn (C + 1) v pre vs ls 3 wA) := ⟨HD9.out.1.keep u2.out.size (fun x h1 h2 => u2.out.block x h2 (fun e => by injection e with e; omega)), fun i hi => (HD9.out.2 i hi).keep u2.out.size (fun x h1 h2 => u2.out.block x h2 (fun e => by injection e with e; omega))⟩
           have hwC : w.heap.size <= C + 1 := by have := HRR.out; omega
           have HGA : Hid (w.grownBy wA (some r)) := grown_apx HM9.out.gr u2.out (fun x e => by injection e with e; have := HRR.out; omega)
           refine bodyPost_ret (v := .agg #[.int .u16 (I : Int), .bool (unfl F 32768), .int .i64 (unop F : Nat), .bool (unfl F 1024), .bool (unfl F 512), .bool (unfl F 256), .bool (unfl F 128), .bool (unfl F 32), .bool (unfl F 16), .int .i64 (unrc F : Nat), .slice aq lq cq, .slice ax lx cx, .slice ay ly cy, .slice az lz cz]) (by simp [results, Tryz.results34, go_sem, y0, y1, y2, y3, y4, y5, y6, y7, y8, y9, y10, y11, y12, y13]) rfl ⟨fun x e e2 => ?_, fun hbad => ?_⟩
           · rw [HGE.out] at e
             cases e
             refine ⟨v, vs, by rw [HVV.out.1, HVV.out.2.1, HVV.out.2.2.1, HVV.out.2.2.2], HDA.out.1.mono hwC, (HDA.out.2 0 (by omega)).mono hwC, (HDA.out.2 1 (by omega)).mono hwC, (HDA.out.2 2 (by omega)).mono hwC, HGA.out⟩
           · exfalso
             rw [HGE.out] at hbad
             rcases hbad with hbad | ⟨x, hx, hne⟩
             · cases hbad
             · cases hx
               exact hne rfl
         · have hqi : ¬ (q : Int) = (n : Int) := by omega
           have hqj : ((q : Int) == (n : Int)) = false := by simp [hqi]
           have HGr := Lib.hid HW.out.1.gr
           go_wp2_with fail
           go_region_dies
           all_goals (refine (KNo _).out.mono ?_; rintro e1 w1 ⟨rfl, hw1⟩; subst w1; go_wp2; exact ⟨rfl, fun x e e2 => (by rw [HGE.out] at e; cases e; exact absurd e2.symm hq), fun _ => ⟨rfl, grown_trans HGr.out (grown_of ((Below.refl wr.heap.size wr).drew))⟩⟩)
end Go.Proofs.YtkjnbgekaifdfaaGreat
namespace Go.Proofs.YtkjnbgekaifdfaaGreat
open Go.ChangeShapes Go.WideShapes Go.ChangeAt Go.RowKit Go.Maps
theorem res_end {w : World} {B0 B1 : Nat} {v0 v1 v2 v3 v4 v5 v6 v7 v8 v9 v10 v11 v12 v13 u : Value} {t t' : TypeId} (h1 : w.heap[B0]? = some (.cells #[v0, v1, v2, v3, v4, v5, v6, v7, v8, v9, v10, v11, v12, v13] t)) (h2 : w.heap[B1]? = some (.cells #[u] t')) (hlt : B0 < B1) (x0 x1 x2 x3 x4 x5 x6 x7 x8 x9 x10 x11 x12 x13 y : Value) :
   (((((((((((((((w.setCell ⟨B0, 0, none⟩ (x0)).setCell ⟨B0, 1, none⟩ (x1)).setCell ⟨B0, 2, none⟩ (x2)).setCell ⟨B0, 3, none⟩ (x3)).setCell ⟨B0, 4, none⟩ (x4)).setCell ⟨B0, 5, none⟩ (x5)).setCell ⟨B0, 6, none⟩ (x6)).setCell ⟨B0, 7, none⟩ (x7)).setCell ⟨B0, 8, none⟩ (x8)).setCell ⟨B0, 9, none⟩ (x9)).setCell ⟨B0, 10, none⟩ (x10)).setCell ⟨B0, 11, none⟩ (x11)).setCell ⟨B0, 12, none⟩ (x12)).setCell ⟨B0, 13, none⟩ (x13)).setCell ⟨B1, 0, none⟩ y).heap[B0]? = some (.cells #[x0, x1, x2, x3, x4, x5, x6, x7, x8, x9, x10, x11, x12, x13] t) /\ (((((((((((((((w.setCell ⟨B0, 0, none⟩ (x0)).setCell ⟨B0, 1, none⟩ (x1)).setCell ⟨B0, 2, none⟩ (x2)).setCell ⟨B0, 3, none⟩ (x3)).setCell ⟨B0, 4, none⟩ (x4)).setCell ⟨B0, 5, none⟩ (x5)).setCell ⟨B0, 6, none⟩ (x6)).setCell ⟨B0, 7, none⟩ (x7)).setCell ⟨B0, 8, none⟩ (x8)).setCell ⟨B0, 9, none⟩ (x9)).setCell ⟨B0, 10, none⟩ (x10)).setCell ⟨B0, 11, none⟩ (x11)).setCell ⟨B0, 12, none⟩ (x12)).setCell ⟨B0, 13, none⟩ (x13)).setCell ⟨B1, 0, none⟩ y).heap[B1]? = some (.cells #[y] t') /\ Below B0 w (((((((((((((((w.setCell ⟨B0, 0, none⟩ (x0)).setCell ⟨B0, 1, none⟩ (x1)).setCell ⟨B0, 2, none⟩ (x2)).setCell ⟨B0, 3, none⟩ (x3)).setCell ⟨B0, 4, none⟩ (x4)).setCell ⟨B0, 5, none⟩ (x5)).setCell ⟨B0, 6, none⟩ (x6)).setCell ⟨B0, 7, none⟩ (x7)).setCell ⟨B0, 8, none⟩ (x8)).setCell ⟨B0, 9, none⟩ (x9)).setCell ⟨B0, 10, none⟩ (x10)).setCell ⟨B0, 11, none⟩ (x11)).setCell ⟨B0, 12, none⟩ (x12)).setCell ⟨B0, 13, none⟩ (x13)).setCell ⟨B1, 0, none⟩ y) := by
 have e1 := put14 h1 x0 x1 x2 x3 x4 x5 x6 x7 x8 x9 x10 x11 x12 x13
 have e2 := put14_other w B0 x0 x1 x2 x3 x4 x5 x6 x7 x8 x9 x10 x11 x12 x13 B1 (by omega)
 have e3 := put14_below w B0 x0 x1 x2 x3 x4 x5 x6 x7 x8 x9 x10 x11 x12 x13
 generalize ((((((((((((((w.setCell ⟨B0, 0, none⟩ (x0)).setCell ⟨B0, 1, none⟩ (x1)).setCell ⟨B0, 2, none⟩ (x2)).setCell ⟨B0, 3, none⟩ (x3)).setCell ⟨B0, 4, none⟩ (x4)).setCell ⟨B0, 5, none⟩ (x5)).setCell ⟨B0, 6, none⟩ (x6)).setCell ⟨B0, 7, none⟩ (x7)).setCell ⟨B0, 8, none⟩ (x8)).setCell ⟨B0, 9, none⟩ (x9)).setCell ⟨B0, 10, none⟩ (x10)).setCell ⟨B0, 11, none⟩ (x11)).setCell ⟨B0, 12, none⟩ (x12)).setCell ⟨B0, 13, none⟩ (x13)) = w1 at *
 exact ⟨(Below.heap_setCell w1 _ _ B0 (show B0 ≠ B1 by omega)).trans e1, heap_set (e2.trans h2) 0 y, e3.setCell (p := ⟨B1, 0, none⟩) (Nat.le_of_lt hlt) y⟩
set_option maxHeartbeats 1000000 in
theorem catch_idle (B0 B1 : Nat) (w : World) :
   CallsD Tryz.prog 33 #[.pointer (some ⟨B0, 0, none⟩), .pointer (some ⟨B1, 0, none⟩)] .returning w fun e u' w' => e = .returned (.tuple #[]) /\ u' = .returning /\ w' = w := by
 refine callsD_of_wpS Tryz.func33 rfl fun c₀ cs hu => ?_
 apply wpS_seq
 apply wpS_region
 simp [wpOpsS, go_sem, recoverD, hu, Tryz.ntmps33, Exit.thenS]
 refine wpS_of_wp ?_
 have et : (#[Value.pointer (some ⟨B0, 0, none⟩), Value.pointer (some ⟨B1, 0, none⟩)] ++ (Array.replicate 10 undef).setIfInBounds 3 Value.nilIface) = #[.pointer (some ⟨B0, 0, none⟩), .pointer (some ⟨B1, 0, none⟩), undef, undef, undef, Value.nilIface, undef, undef, undef, undef, undef, undef] := by rfl
 rw [et]
 clear et
 go_wp2
 cases c₀
 simp_all [bodyPostS, results, Tryz.results33]
end Go.Proofs.YtkjnbgekaifdfaaGreat
namespace Go.Proofs.YtkjnbgekaifdfaaGreat
open Go.ChangeShapes Go.WideShapes Go.ChangeAt Go.RowKit Go.Maps
def MOw (B : Nat) (w' : World) (x : MA) (m : Mg) : Prop := OwQ B w' (.slice x.q.a x.q.n x.q.c) m.qs /\ OwR B w' (.slice x.l1.a x.l1.n x.l1.c) m.l1 /\ OwR B w' (.slice x.l2.a x.l2.n x.l2.c) m.l2 /\ OwR B w' (.slice x.l3.a x.l3.n x.l3.c) m.l3
def RmY (r : Nat) (zs : List Int) (w : World) (m : Mg) (e : Ending) (w' : World) : Prop := ∃ x : MA, e = .returned (.agg #[.int .u16 m.h.id, .bool m.h.rs, .int .i64 m.h.op, .bool m.h.aa, .bool m.h.tc, .bool m.h.rd, .bool m.h.ra, .bool m.h.ad, .bool m.h.cd, .int .i64 m.h.rc, .slice x.q.a x.q.n x.q.c, .slice x.l1.a x.l1.n x.l1.c, .slice x.l2.a x.l2.n x.l2.c, .slice x.l3.a x.l3.n x.l3.c]) /\ Hid (MOw w.heap.size w' x m /\ w.grownBy w' (some r))
theorem rmsg_good (r b o n c : Nat) (zs : List Int) (p : Nat) (w : World) (h : Rdr w r (some ⟨b, o, none⟩) n c zs p) (hx : ¬ hdBad zs) :
   Calls Tryz.prog 34 #[.pointer (some ⟨r, 0, none⟩)] w (RmG r n w (nv zs 0) (nv zs 1) (gbody (nv zs 2) (nv zs 3) (nv zs 4) (nv zs 5) zs 12)) := by
 have hg : ¬ (zs.length < 12 ∨ unfl (nv zs 1) 64 = true) := fun e => hx (.inl e)
 have hcnt : nv zs 2 <= 16 /\ nv zs 3 + nv zs 4 + nv zs 5 <= 512 := by
   by_cases e : nv zs 2 <= 16 /\ nv zs 3 + nv zs 4 + nv zs 5 <= 512
   · exact e
   · exact absurd (.inr e) hx
 have h1 : 1 <= n := by
   have := h.len
   by_cases e : zs.length < 12
   · exact absurd (.inl e) hg
   · omega
 exact rmsg_walk r b o n c zs p (nv zs 0) (nv zs 1) (nv zs 2) (nv zs 3) (nv zs 4) (nv zs 5) w h h1 hcnt.1 hcnt.2 (Lib.hid fun W hW => rhead_yes r b o n c zs p W hW hx) _ (Lib.hid rfl)
theorem rdr_some {w : World} {r n c p : Nat} {a : Option Addr} {zs : List Int} (h : Rdr w r a n c zs p) (h1 : 1 <= n) : ∃ b o, a = some ⟨b, o, none⟩ := by
 rcases h.rd.1 with h0 | ⟨b, o, e, _⟩
 · have := h.len; rw [h0] at this; simp at this; omega
 · exact ⟨b, o, e⟩
theorem len12 {zs : List Int} (hx : ¬ hdBad zs) : 12 <= zs.length := by
 by_cases e : zs.length < 12
 · exact absurd (.inl (.inl e)) hx
 · omega
theorem rmsg_yes (r : Nat) (a : Option Addr) (n c : Nat) (zs : List Int) (p : Nat) (m : Mg) (w : World) (h : Rdr w r a n c zs p) (hm : gmsg zs = some m) :
   Calls Tryz.prog 34 #[.pointer (some ⟨r, 0, none⟩)] w (RmY r zs w m) := by
 unfold gmsg at hm
 split at hm
 case isTrue => cases hm
 case isFalse hx =>
   have hn : 1 <= n := by have := len12 hx; have := h.len; omega
   obtain ⟨b, o, rfl⟩ := rdr_some h hn
   simp only [Option.bind_eq_some_iff] at hm
   obtain ⟨x, hb, hm⟩ := hm
   split at hm
   case isFalse => cases hm
   case isTrue hl =>
     cases hm
     refine (rmsg_good r b o n c zs p w h hx).mono ?_
     rintro e w' ⟨q1, q2⟩
     obtain ⟨v, vs, e1, H1⟩ := q1 x hb (by rw [hl, h.len])
     obtain ⟨o1, o2, o3, o4, o5⟩ := H1.out
     obtain ⟨a1, c1, f1, _⟩ := o1.rd
     obtain ⟨a2, c2, f2, _⟩ := o2.rd
     obtain ⟨a3, c3, f3, _⟩ := o3.rd
     obtain ⟨a4, c4, f4, _⟩ := o4.rd
     rw [f1] at o1 e1
     rw [f2] at o2 e1
     rw [f3] at o3 e1
     rw [f4] at o4 e1
     exact ⟨⟨⟨a1, _, c1⟩, ⟨a2, _, c2⟩, ⟨a3, _, c3⟩, ⟨a4, _, c4⟩⟩, e1, ⟨o1, o2, o3, o4⟩, o5⟩
end Go.Proofs.YtkjnbgekaifdfaaGreat
namespace Go.Proofs.YtkjnbgekaifdfaaGreat
open Go.ChangeShapes Go.WideShapes Go.ChangeAt Go.RowKit Go.Maps
theorem three_at (w : World) (a b c : Obj) : Below w.heap.size w (((w.alloc a).alloc b).alloc c) /\ (((w.alloc a).alloc b).alloc c).heap[w.heap.size]? = some a /\ (((w.alloc a).alloc b).alloc c).heap[w.heap.size + 1]? = some b /\ (((w.alloc a).alloc b).alloc c).heap[w.heap.size + 1 + 1]? = some c /\ (((w.alloc a).alloc b).alloc c).heap.size = w.heap.size + 1 + 1 + 1 := by
 have s1 : (w.alloc a).heap.size = w.heap.size + 1 := by simp
 have s2 : ((w.alloc a).alloc b).heap.size = w.heap.size + 1 + 1 := by simp
 have n1 := heap_alloc_new w a
 have n2 := heap_alloc_new (w.alloc a) b
 have n3 := heap_alloc_new ((w.alloc a).alloc b) c
 rw [s1] at n2
 rw [s2] at n3
 refine ⟨(((Below.refl _ w).alloc (Nat.le_refl _) _).alloc (by omega) _).alloc (by omega) _, ?_, ?_, n3, by simp⟩
 · rw [Below.heap_alloc _ _ _ (by omega), Below.heap_alloc _ _ _ (by omega)]; exact n1
 · rw [Below.heap_alloc _ _ _ (by omega)]; exact n2
theorem res_other (w : World) (B0 B1 : Nat) (x0 x1 x2 x3 x4 x5 x6 x7 x8 x9 x10 x11 x12 x13 y : Value) (j : Nat) (h0 : j ≠ B0) (h1 : j ≠ B1) : (((((((((((((((w.setCell ⟨B0, 0, none⟩ (x0)).setCell ⟨B0, 1, none⟩ (x1)).setCell ⟨B0, 2, none⟩ (x2)).setCell ⟨B0, 3, none⟩ (x3)).setCell ⟨B0, 4, none⟩ (x4)).setCell ⟨B0, 5, none⟩ (x5)).setCell ⟨B0, 6, none⟩ (x6)).setCell ⟨B0, 7, none⟩ (x7)).setCell ⟨B0, 8, none⟩ (x8)).setCell ⟨B0, 9, none⟩ (x9)).setCell ⟨B0, 10, none⟩ (x10)).setCell ⟨B0, 11, none⟩ (x11)).setCell ⟨B0, 12, none⟩ (x12)).setCell ⟨B0, 13, none⟩ (x13)).setCell ⟨B1, 0, none⟩ y).heap[j]? = w.heap[j]? :=
 (Below.heap_setCell _ _ _ j h1).trans (put14_other w B0 x0 x1 x2 x3 x4 x5 x6 x7 x8 x9 x10 x11 x12 x13 j h0)
theorem MOw.keep {B : Nat} {w w' : World} {x : MA} {m : Mg} (h : MOw B w x m) (hs : w.heap.size <= w'.heap.size) (hb : ∀ j, B <= j -> j < w.heap.size -> w'.heap[j]? = w.heap[j]?) : MOw B w' x m := ⟨h.1.keep hs hb, h.2.1.keep hs hb, h.2.2.1.keep hs hb, h.2.2.2.keep hs hb⟩
theorem MOw.mono {B B' : Nat} {w : World} {x : MA} {m : Mg} (h : MOw B w x m) (hB : B' <= B) : MOw B' w x m := ⟨h.1.mono hB, h.2.1.mono hB, h.2.2.1.mono hB, h.2.2.2.mono hB⟩
set_option maxHeartbeats 4000000 in
theorem mread_yes (a : Option Addr) (n c : Nat) (zs : List Int) (w : World) (hr : Rd w a zs) (hl : zs.length = n) (hcap : n <= c /\ c <= 9223372036854775807) (hbig : n <= 140737488355328) (hnil : a = none -> c = 0) (hoff : zs = [] ∨ ∀ b o sp, a = some ⟨b, o, sp⟩ -> b < w.heap.size) (m : Mg) (hm : gmsg zs = some m) :
   Calls Tryz.prog 12 #[.slice a n c] w fun e w' => ∃ x : MA, e = .returned (.tuple #[.agg #[.int .u16 m.h.id, .bool m.h.rs, .int .i64 m.h.op, .bool m.h.aa, .bool m.h.tc, .bool m.h.rd, .bool m.h.ra, .bool m.h.ad, .bool m.h.cd, .int .i64 m.h.rc, .slice x.q.a x.q.n x.q.c, .slice x.l1.a x.l1.n x.l1.c, .slice x.l2.a x.l2.n x.l2.c, .slice x.l3.a x.l3.n x.l3.c], .int .i64 0]) /\ Hid (MOw w.heap.size w' x m /\ Below w.heap.size w w') := by
 have K1 : Hid (∀ r W, Rdr W r a n c zs 0 -> Calls Tryz.prog 34 #[.pointer (some ⟨r, 0, none⟩)] W (RmY r zs W m)) := fun r W hW => rmsg_yes r a n c zs 0 m W hW hm
 have hmf : ∀ (fn : Fn) (first cap : Array Value) (w : World), (Instr.makeFunc fn first cap).run Tryz.prog w = .ok (.func fn first cap) w := fun _ _ _ _ => rfl
 obtain ⟨t1, t2, t3, t4, t5⟩ := three_at w (.cells #[.int .u16 0, .bool false, .int .i64 0, .bool false, .bool false, .bool false, .bool false, .bool false, .bool false, .int .i64 0, .slice none 0 0, .slice none 0 0, .slice none 0 0, .slice none 0 0] 26) (.cells #[.int .i64 0] 30) (.cells #[.slice a n c, .int .i64 0] 69)
 obtain ⟨B0, hB0⟩ : ∃ B0, B0 = w.heap.size := ⟨_, rfl⟩
 obtain ⟨B1, hB1⟩ : ∃ B1, B1 = B0 + 1 := ⟨_, rfl⟩
 obtain ⟨r, hr2⟩ : ∃ r, r = B1 + 1 := ⟨_, rfl⟩
 rw [<- hB0] at t2 t3 t4 t5
 rw [<- hB1] at t3 t4 t5
 rw [<- hr2] at t4 t5
 have HRD : Hid (Rdr (((w.alloc (.cells #[.int .u16 0, .bool false, .int .i64 0, .bool false, .bool false, .bool false, .bool false, .bool false, .bool false, .int .i64 0, .slice none 0 0, .slice none 0 0, .slice none 0 0, .slice none 0 0] 26)).alloc (.cells #[.int .i64 0] 30)).alloc (.cells #[.slice a n c, .int .i64 0] 69)) r a n c zs 0) := ⟨t4, hr.below t1, hl, hcap, hbig, hoff.imp id (fun ho b o sp e => by have := ho b o sp e; omega), hnil, Nat.zero_le _⟩
 have HT : Hid ((((w.alloc (.cells #[.int .u16 0, .bool false, .int .i64 0, .bool false, .bool false, .bool false, .bool false, .bool false, .bool false, .int .i64 0, .slice none 0 0, .slice none 0 0, .slice none 0 0, .slice none 0 0] 26)).alloc (.cells #[.int .i64 0] 30)).alloc (.cells #[.slice a n c, .int .i64 0] 69)).heap[B0]? = some (.cells #[.int .u16 0, .bool false, .int .i64 0, .bool false, .bool false, .bool false, .bool false, .bool false, .bool false, .int .i64 0, .slice none 0 0, .slice none 0 0, .slice none 0 0, .slice none 0 0] 26) /\ (((w.alloc (.cells #[.int .u16 0, .bool false, .int .i64 0, .bool false, .bool false, .bool false, .bool false, .bool false, .bool false, .int .i64 0, .slice none 0 0, .slice none 0 0, .slice none 0 0, .slice none 0 0] 26)).alloc (.cells #[.int .i64 0] 30)).alloc (.cells #[.slice a n c, .int .i64 0] 69)).heap[B1]? = some (.cells #[.int .i64 0] 30) /\ (((w.alloc (.cells #[.int .u16 0, .bool false, .int .i64 0, .bool false, .bool false, .bool false, .bool false, .bool false, .bool false, .int .i64 0, .slice none 0 0, .slice none 0 0, .slice none 0 0, .slice none 0 0] 26)).alloc (.cells #[.int .i64 0] 30)).alloc (.cells #[.slice a n c, .int .i64 0] 69)).heap.size = r + 1 /\ Below w.heap.size w (((w.alloc (.cells #[.int .u16 0, .bool false, .int .i64 0, .bool false, .bool false, .bool false, .bool false, .bool false, .bool false, .int .i64 0, .slice none 0 0, .slice none 0 0, .slice none 0 0, .slice none 0 0] 26)).alloc (.cells #[.int .i64 0] 30)).alloc (.cells #[.slice a n c, .int .i64 0] 69))) := ⟨t2, t3, t5, t1⟩
 have HBB : Hid (B0 = w.heap.size /\ B1 = B0 + 1 /\ r = B1 + 1) := ⟨hB0, hB1, hr2⟩
 clear t1 t2 t3 t4 t5 hr hoff
 go_enter_defers Tryz.func12, Tryz.ntmps12
 go_upto_region 3 with fail
 simp only [World.size_alloc, <- hB0, <- hB1, <- hr2]
 generalize (((w.alloc (.cells #[.int .u16 0, .bool false, .int .i64 0, .bool false, .bool false, .bool false, .bool false, .bool false, .bool false, .int .i64 0, .slice none 0 0, .slice none 0 0, .slice none 0 0, .slice none 0 0] 26)).alloc (.cells #[.int .i64 0] 30)).alloc (.cells #[.slice a n c, .int .i64 0] 69)) = w0 at *
 clear hB0 hB1 hr2
 go_wp2_with fail
 refine (K1.out r w0 HRD.out).mono ?_
 rintro e1 w1 ⟨⟨⟨a1, n1, c1⟩, ⟨a2, n2, c2⟩, ⟨a3, n3, c3⟩, ⟨a4, n4, c4⟩⟩, rfl, H1⟩
 obtain ⟨H, hH⟩ : ∃ H, H = m.h := ⟨_, rfl⟩
 simp only [<- hH]
 have HHH := Lib.hid hH
 clear hH
 have g0 : Hid (w1.heap[B0]? = some (.cells #[.int .u16 0, .bool false, .int .i64 0, .bool false, .bool false, .bool false, .bool false, .bool false, .bool false, .int .i64 0, .slice none 0 0, .slice none 0 0, .slice none 0 0, .slice none 0 0] 26)) := (H1.out.2.block B0 (box_lt HT.out.1) (fun e => by injection e with e; have := HBB.out; omega)).trans HT.out.1
 have g1 : Hid (w1.heap[B1]? = some (.cells #[.int .i64 0] 30)) := (H1.out.2.block B1 (box_lt HT.out.2.1) (fun e => by injection e with e; have := HBB.out; omega)).trans HT.out.2.1
 have hlt : B0 < B1 := by have := HBB.out; omega
 have hn1 : ¬ B0 = B1 := by omega
 have hn2 : ¬ B1 = B0 := by omega
 have z0 : w1.cell? ⟨B0, 0, none⟩ = some (.int .u16 0) := box_cell g0.out 0 _ rfl
 have f0 := box_frozen g0.out 0
 have z1 : w1.cell? ⟨B0, 1, none⟩ = some (.bool false) := box_cell g0.out 1 _ rfl
 have f1 := box_frozen g0.out 1
 have z2 : w1.cell? ⟨B0, 2, none⟩ = some (.int .i64 0) := box_cell g0.out 2 _ rfl
 have f2 := box_frozen g0.out 2
 have z3 : w1.cell? ⟨B0, 3, none⟩ = some (.bool false) := box_cell g0.out 3 _ rfl
 have f3 := box_frozen g0.out 3
 have z4 : w1.cell? ⟨B0, 4, none⟩ = some (.bool false) := box_cell g0.out 4 _ rfl
 have f4 := box_frozen g0.out 4
 have z5 : w1.cell? ⟨B0, 5, none⟩ = some (.bool false) := box_cell g0.out 5 _ rfl
 have f5 := box_frozen g0.out 5
 have z6 : w1.cell? ⟨B0, 6, none⟩ = some (.bool false) := box_cell g0.out 6 _ rfl
 have f6 := box_frozen g0.out 6
 have z7 : w1.cell? ⟨B0, 7, none⟩ = some (.bool false) := box_cell g0.out 7 _ rfl
 have f7 := box_frozen g0.out 7
 have z8 : w1.cell? ⟨B0, 8, none⟩ = some (.bool false) := box_cell g0.out 8 _ rfl
 have f8 := box_frozen g0.out 8
 have z9 : w1.cell? ⟨B0, 9, none⟩ = some (.int .i64 0) := box_cell g0.out 9 _ rfl
 have f9 := box_frozen g0.out 9
 have z10 : w1.cell? ⟨B0, 10, none⟩ = some (.slice none 0 0) := box_cell g0.out 10 _ rfl
 have f10 := box_frozen g0.out 10
 have z11 : w1.cell? ⟨B0, 11, none⟩ = some (.slice none 0 0) := box_cell g0.out 11 _ rfl
 have f11 := box_frozen g0.out 11
 have z12 : w1.cell? ⟨B0, 12, none⟩ = some (.slice none 0 0) := box_cell g0.out 12 _ rfl
 have f12 := box_frozen g0.out 12
 have z13 : w1.cell? ⟨B0, 13, none⟩ = some (.slice none 0 0) := box_cell g0.out 13 _ rfl
 have f13 := box_frozen g0.out 13
 have y0 : w1.cell? ⟨B1, 0, none⟩ = some (.int .i64 0) := box_cell g1.out 0 _ rfl
 have fy := box_frozen g1.out 0
 have l0 := box_lt g0.out
 have l1 := box_lt g1.out
 go_wp2_with fail
 obtain ⟨u1, u2, u3⟩ := res_end g0.out g1.out hlt (.int .u16 (H.id : Int)) (.bool H.rs) (.int .i64 H.op) (.bool H.aa) (.bool H.tc) (.bool H.rd) (.bool H.ra) (.bool H.ad) (.bool H.cd) (.int .i64 H.rc) (.slice a1 n1 c1) (.slice a2 n2 c2) (.slice a3 n3 c3) (.slice a4 n4 c4) (.int .i64 0)
 have u4 := res_other w1 B0 B1 (.int .u16 (H.id : Int)) (.bool H.rs) (.int .i64 H.op) (.bool H.aa) (.bool H.tc) (.bool H.rd) (.bool H.ra) (.bool H.ad) (.bool H.cd) (.int .i64 H.rc) (.slice a1 n1 c1) (.slice a2 n2 c2) (.slice a3 n3 c3) (.slice a4 n4 c4) (.int .i64 0)
 have hb1 : Below w.heap.size w w1 := HT.out.2.2.2.grown H1.out.2 (by have := HT.out.2.2.2.size; omega) (fun k hk => by injection hk with hk; have := HBB.out; omega)
 have HBL : Hid (Below w.heap.size w (((((((((((((((w1.setCell ⟨B0, 0, none⟩ (.int .u16 (H.id : Int))).setCell ⟨B0, 1, none⟩ (.bool H.rs)).setCell ⟨B0, 2, none⟩ (.int .i64 H.op)).setCell ⟨B0, 3, none⟩ (.bool H.aa)).setCell ⟨B0, 4, none⟩ (.bool H.tc)).setCell ⟨B0, 5, none⟩ (.bool H.rd)).setCell ⟨B0, 6, none⟩ (.bool H.ra)).setCell ⟨B0, 7, none⟩ (.bool H.ad)).setCell ⟨B0, 8, none⟩ (.bool H.cd)).setCell ⟨B0, 9, none⟩ (.int .i64 H.rc)).setCell ⟨B0, 10, none⟩ (.slice a1 n1 c1)).setCell ⟨B0, 11, none⟩ (.slice a2 n2 c2)).setCell ⟨B0, 12, none⟩ (.slice a3 n3 c3)).setCell ⟨B0, 13, none⟩ (.slice a4 n4 c4)).setCell ⟨B1, 0, none⟩ (.int .i64 0))) := hb1.trans (u3.mono (Nat.le_of_eq HBB.out.1.symm))
 have HMO : Hid (MOw w.heap.size (((((((((((((((w1.setCell ⟨B0, 0, none⟩ (.int .u16 (H.id : Int))).setCell ⟨B0, 1, none⟩ (.bool H.rs)).setCell ⟨B0, 2, none⟩ (.int .i64 H.op)).setCell ⟨B0, 3, none⟩ (.bool H.aa)).setCell ⟨B0, 4, none⟩ (.bool H.tc)).setCell ⟨B0, 5, none⟩ (.bool H.rd)).setCell ⟨B0, 6, none⟩ (.bool H.ra)).setCell ⟨B0, 7, none⟩ (.bool H.ad)).setCell ⟨B0, 8, none⟩ (.bool H.cd)).setCell ⟨B0, 9, none⟩ (.int .i64 H.rc)).setCell ⟨B0, 10, none⟩ (.slice a1 n1 c1)).setCell ⟨B0, 11, none⟩ (.slice a2 n2 c2)).setCell ⟨B0, 12, none⟩ (.slice a3 n3 c3)).setCell ⟨B0, 13, none⟩ (.slice a4 n4 c4)).setCell ⟨B1, 0, none⟩ (.int .i64 0)) ⟨⟨a1, n1, c1⟩, ⟨a2, n2, c2⟩, ⟨a3, n3, c3⟩, ⟨a4, n4, c4⟩⟩ m) := (H1.out.1.keep u3.size (fun j h1 h2 => u4 j (by have := HT.out.2.2.1; have := HBB.out; omega) (by have := HT.out.2.2.1; have := HBB.out; omega))).mono HT.out.2.2.2.size
 have U1 := Lib.hid u1
 have U2 := Lib.hid u2
 clear u1 u2 u3 u4 hb1 H1 z0 f0 z1 f1 z2 f2 z3 f3 z4 f4 z5 f5 z6 f6 z7 f7 z8 f8 z9 f9 z10 f10 z11 f11 z12 f12 z13 f13 y0 fy l0 l1 g0 g1
 generalize (((((((((((((((w1.setCell ⟨B0, 0, none⟩ (.int .u16 (H.id : Int))).setCell ⟨B0, 1, none⟩ (.bool H.rs)).setCell ⟨B0, 2, none⟩ (.int .i64 H.op)).setCell ⟨B0, 3, none⟩ (.bool H.aa)).setCell ⟨B0, 4, none⟩ (.bool H.tc)).setCell ⟨B0, 5, none⟩ (.bool H.rd)).setCell ⟨B0, 6, none⟩ (.bool H.ra)).setCell ⟨B0, 7, none⟩ (.bool H.ad)).setCell ⟨B0, 8, none⟩ (.bool H.cd)).setCell ⟨B0, 9, none⟩ (.int .i64 H.rc)).setCell ⟨B0, 10, none⟩ (.slice a1 n1 c1)).setCell ⟨B0, 11, none⟩ (.slice a2 n2 c2)).setCell ⟨B0, 12, none⟩ (.slice a3 n3 c3)).setCell ⟨B0, 13, none⟩ (.slice a4 n4 c4)).setCell ⟨B1, 0, none⟩ (.int .i64 0)) = w9 at *
 refine leaves_cons (f := 33) (args := #[.pointer (some ⟨B0, 0, none⟩), .pointer (some ⟨B1, 0, none⟩)]) (by simp) (by simp [go_sem]) ?_
 refine (catch_idle B0 B1 w9).mono ?_
 rintro e u' w'' ⟨rfl, rfl, hw⟩
 subst hw
 have k0 := box_cell U1.out 0 _ rfl
 have k1 := box_cell U1.out 1 _ rfl
 have k2 := box_cell U1.out 2 _ rfl
 have k3 := box_cell U1.out 3 _ rfl
 have k4 := box_cell U1.out 4 _ rfl
 have k5 := box_cell U1.out 5 _ rfl
 have k6 := box_cell U1.out 6 _ rfl
 have k7 := box_cell U1.out 7 _ rfl
 have k8 := box_cell U1.out 8 _ rfl
 have k9 := box_cell U1.out 9 _ rfl
 have k10 := box_cell U1.out 10 _ rfl
 have k11 := box_cell U1.out 11 _ rfl
 have k12 := box_cell U1.out 12 _ rfl
 have k13 := box_cell U1.out 13 _ rfl
 have ky := box_cell U2.out 0 _ rfl
 exact ⟨.tuple #[.agg #[.int .u16 (H.id : Int), .bool H.rs, .int .i64 H.op, .bool H.aa, .bool H.tc, .bool H.rd, .bool H.ra, .bool H.ad, .bool H.cd, .int .i64 H.rc, .slice a1 n1 c1, .slice a2 n2 c2, .slice a3 n3 c3, .slice a4 n4 c4], .int .i64 0], by simp [results, Tryz.results12, go_sem, k0, k1, k2, k3, k4, k5, k6, k7, k8, k9, k10, k11, k12, k13, ky], ⟨⟨⟨a1, n1, c1⟩, ⟨a2, n2, c2⟩, ⟨a3, n3, c3⟩, ⟨a4, n4, c4⟩⟩, by rw [HHH.out], HMO.out, HBL.out⟩⟩
end Go.Proofs.YtkjnbgekaifdfaaGreat
