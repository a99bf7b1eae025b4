/- Texts laid together, in parts: Mrd6 Mrd7 Mrd8 Mre Vs Vw Xc Xd Mrf Mrg Mrh Mpt Mri Mrj Xf. -/
import Derived.Test.YteplffhfeoephaaGreatWbg
import Derived.Deep.CutBlock
import Derived.RegionDies
import Derived.Deep.RegionHeld3
import Derived.Lib.Hide
set_option maxRecDepth 100000
set_option linter.unusedVariables false
set_option linter.unusedSimpArgs false
namespace Go.Proofs.YteplffhfeoephaaGreat
open Go.ChangeShapes Go.WideShapes Go.ChangeAt Go.RowKit Go.Maps
set_option maxHeartbeats 4000000 in
theorem rdata_pl_ok2 (r b o n : Nat) (zs : List Int) (p t size : Nat) (w : World) (h : Rdr w r (some ⟨b, o, none⟩) n p zs p) (h1 : 1 <= n) (hz : size <= 65535) (hl : p + size <= n) (hs : sqt t = false) (d : Dat) (hd : readF t ((zs.drop p).take size) = (d, 0)) :
   Calls Tryz.prog 139 #[.pointer (some ⟨r, 0, none⟩), .int .u16 t, .int .i64 size] w (RdDP r b o n p zs w (d, p + size)) := by
 have KY := fun W => Lib.hid (need_yes W)
 have KN := fun W => Lib.hid (need_no W)
 have KQ := fun W => Lib.hid (squeezed_any t W)
 have hn47 := h.big
 have hcap := h.cap
 have hlen := h.len
 have c0 : w.cell? ⟨r, 0, none⟩ = some (.slice (some ⟨b, o, none⟩) n p) := box_cell h.box 0 _ rfl
 have c1 : w.cell? ⟨r, 1, none⟩ = some (.int .i64 p) := box_cell h.box 1 _ rfl
 have hlt := box_lt h.box
 have hrw : r < w.heap.size := box_lt h.box
 have HR := Lib.hid h
 rw [hs] at KQ
 have k1 : (size : Int) <= (n : Int) - (p : Int) := by omega
 have hws : IntKind.i64.wrap ((p : Int) + (size : Int)) = (p : Int) + (size : Int) := wrap_in (by omega) (by omega)
 have b1 : (0 : Int) <= (p : Int) := by omega
 have b2 : (p : Int) <= (p : Int) + (size : Int) := by omega
 have b3 : (p : Int) + (size : Int) <= (p : Int) := by omega
 have b4 : ((p : Int) + (size : Int)).toNat - p = size := by omega
 have hb0 : Below w.heap.size w (w.alloc (.cells #[.slice none 0 0, .slice none 0 0, .slice none 0 0, .slice none 0 0] 59)) := newq_below _ _
 have HR0 := Lib.hid (h.below hb0)
 have hD0 : DBlk (w.alloc (.cells #[.slice none 0 0, .slice none 0 0, .slice none 0 0, .slice none 0 0] 59)) w.heap.size nilDA := by
   show (w.heap.push _)[w.heap.size]? = _
   simp
 have hsz0 : (w.alloc (.cells #[.slice none 0 0, .slice none 0 0, .slice none 0 0, .slice none 0 0] 59)).heap.size = w.heap.size + 1 := Array.size_push _
 have HD0 := Lib.hid hD0
 have HS0 := Lib.hid hsz0
 have HB0 := Lib.hid hb0
 obtain ⟨R, hR⟩ : ∃ R, R = w.heap.size := ⟨_, rfl⟩
 have HRR := Lib.hid hR
 rw [<- hR] at HD0 HS0
 clear h hD0 hsz0 hb0
 go_enter Tryz.func139, Tryz.ntmps139
 go_wp2_with fail
 simp only [<- hR]
 generalize w.alloc (.cells #[.slice none 0 0, .slice none 0 0, .slice none 0 0, .slice none 0 0] 59) = w0 at *
 clear c0 c1 hlt hR
 have c0 : w0.cell? ⟨r, 0, none⟩ = some (.slice (some ⟨b, o, none⟩) n p) := box_cell HR0.out.box 0 _ rfl
 have c1 : w0.cell? ⟨r, 1, none⟩ = some (.int .i64 p) := box_cell HR0.out.box 1 _ rfl
 have hlt := box_lt HR0.out.box
 go_quiet (first
   | (go_at_call 102; exact Calls.quiet_of_same (KY _).out))
 have HB1 := Lib.hid (below_dn w0 nq)
 generalize w0.drewN nq = w1 at *
 clear c0 c1 hlt
 have HR1 := Lib.hid (HR0.out.below HB1.out)
 have c0 : w1.cell? ⟨r, 0, none⟩ = some (.slice (some ⟨b, o, none⟩) n p) := box_cell HR1.out.box 0 _ rfl
 have c1 : w1.cell? ⟨r, 1, none⟩ = some (.int .i64 p) := box_cell HR1.out.box 1 _ rfl
 have hlt := box_lt HR1.out.box
 go_wp2_with fail
 go_quiet (fail)
 have HB2 := Lib.hid (below_dn w1 nq)
 generalize w1.drewN nq = w2 at *
 clear c0 c1 hlt
 have HR2 := Lib.hid (HR1.out.below HB2.out)
 have HD2 : Hid (DBlk w2 R nilDA) := (HB2.out.block R (by have := HB1.out.size; have := HS0.out; omega)).trans ((HB1.out.block R (by have := HS0.out; omega)).trans HD0.out)
 have HG2 : Hid (Below w.heap.size w w2) := HB0.out.trans ((HB1.out.mono (by have := HS0.out; have := HRR.out; omega)).trans (HB2.out.mono (by have := HB1.out.size; have := HS0.out; have := HRR.out; omega)))
 have HS2 : Hid (R < w2.heap.size) := (by have := HB1.out.size; have := HB2.out.size; have := HS0.out; omega : R < w2.heap.size)
 have hRw : r < R := by rw [HRR.out]; exact hrw
 clear HB0 HB1 HB2 HD0 HS0 HR0 HR1
 go_wp2_with fail
 refine (KQ w2).out.mono ?_
 rintro e1 w3 ⟨rfl, hw3⟩
 subst w3
 go_wp2_with fail
 have HG4 : Hid (w.grownBy w2 (some r)) := grown_of HG2.out
 have HR4 : Hid (∃ q, Rdr w2 r (some ⟨b, o, none⟩) n p zs q) := ⟨p, HR2.out⟩
 have HD4 := HD2
 have HS4 := HS2
 have K5 : Hid (Calls Tryz.prog 160 #[.int .u16 t, .slice (some ⟨b, o, none⟩) size 0] w2 (RdP (readF t ((zs.drop p).take size)) w2)) := by
   have e0 : size = 0 := by omega
   have e1 : (zs.drop p).take size = [] := by rw [e0]; rfl
   rw [e1]
   exact read5_any t _ size 0 [] w2 ⟨.inl rfl, by simp⟩ (by simp; omega) ⟨by omega, by omega⟩ (fun e => by cases e)
 clear HD2 HS2 HG2 HR2
 generalize w2 = w4 at *
 rw [hd] at K5
 go_wp2_with fail
 refine K5.out.mono ?_
 rintro e5 w5 ⟨x5, rfl, H5⟩
 have hn5 := newq_below w5 (.cells #[.slice x5.p1.a x5.p1.n x5.p1.c, .slice x5.p2.a x5.p2.n x5.p2.c, .slice x5.p3.a x5.p3.n x5.p3.c, .slice x5.p4.a x5.p4.n x5.p4.c] 59)
 obtain ⟨D, hD⟩ : ∃ D, D = w5.heap.size := ⟨_, rfl⟩
 have HB6 : Hid (Below w4.heap.size w4 (w5.alloc (.cells #[.slice x5.p1.a x5.p1.n x5.p1.c, .slice x5.p2.a x5.p2.n x5.p2.c, .slice x5.p3.a x5.p3.n x5.p3.c, .slice x5.p4.a x5.p4.n x5.p4.c] 59))) := H5.out.2.trans (hn5.mono H5.out.2.size)
 have HO6 : Hid (DOwx w4.heap.size (w5.alloc (.cells #[.slice x5.p1.a x5.p1.n x5.p1.c, .slice x5.p2.a x5.p2.n x5.p2.c, .slice x5.p3.a x5.p3.n x5.p3.c, .slice x5.p4.a x5.p4.n x5.p4.c] 59)) x5 d) := (H5.out.1.stays hn5).x
 have HD6 : Hid (DBlk (w5.alloc (.cells #[.slice x5.p1.a x5.p1.n x5.p1.c, .slice x5.p2.a x5.p2.n x5.p2.c, .slice x5.p3.a x5.p3.n x5.p3.c, .slice x5.p4.a x5.p4.n x5.p4.c] 59)) D x5) := by rw [hD]; exact heap_alloc_new _ _
 have hDs : w4.heap.size <= D := by rw [hD]; exact H5.out.2.size
 go_wp2_with fail
 rw [<- hD]
 generalize w5.alloc (.cells #[.slice x5.p1.a x5.p1.n x5.p1.c, .slice x5.p2.a x5.p2.n x5.p2.c, .slice x5.p3.a x5.p3.n x5.p3.c, .slice x5.p4.a x5.p4.n x5.p4.c] 59) = w6 at *
 clear hD hn5 H5 K5
 obtain ⟨q, hq⟩ := HR4.out
 have HR6 := Lib.hid (hq.below HB6.out)
 have HR6b : Hid (DBlk w6 R nilDA) := HD4.out.same (HB6.out.block R HS4.out)
 clear hq HR4
 refine (KY w6).out.mono ?_
 rintro e7 w7 ⟨rfl, hw7⟩
 subst w7
 have c1 : w6.cell? ⟨r, 1, none⟩ = some (.int .i64 q) := box_cell HR6.out.box 1 _ rfl
 have hlt := box_lt HR6.out.box
 have hfz := box_frozen HR6.out.box 1
 have HMV := Lib.hid (HR6.out.move (p + size) hl)
 have hcast : ((p + size : Nat) : Int) = (p : Int) + (size : Int) := by omega
 rw [hcast] at HMV
 clear hcast
 go_upto_region 9 with fail
 generalize w6.setCell ⟨r, 1, none⟩ (.int .i64 ((p : Int) + (size : Int))) = w7 at *
 have hRr : ¬ R = r := by omega
 have hDr : ¬ D = r := by have := HS4.out; omega
 have hDR : ¬ D = R := by have := HS4.out; omega
 have hRD : ¬ R = D := by have := HS4.out; omega
 have HD7 : Hid (DBlk w7 D x5) := HD6.out.same (HMV.out.2.block D HD6.out.lt (fun e => by injection e with e; exact hDr e))
 have HR7 : Hid (DBlk w7 R nilDA) := HR6b.out.same (HMV.out.2.block R HR6b.out.lt (fun e => by injection e with e; exact hRr e))
 have HO7 : Hid (DOwx w4.heap.size w7 x5 d) := HO6.out.keep (fun j hj hj2 => HMV.out.2.block j hj2 (fun e => by injection e with e; have := HS4.out; omega))
 have HG7 : Hid (w.grownBy w7 (some r)) := grown_trans (grown_trans HG4.out (grown_of HB6.out)) HMV.out.2
 have HM7 : Hid (Rdr w7 r (some ⟨b, o, none⟩) n p zs (p + size)) := HMV.out.1
 clear c1 hlt hfz HMV HO6 HD6 HR6 HR6b HB6
 have d0 : w7.cell? ⟨D, 0, none⟩ = some (.slice x5.p1.a x5.p1.n x5.p1.c) := HD7.out.box.1
 have d1 : w7.cell? ⟨D, 1, none⟩ = some (.slice x5.p2.a x5.p2.n x5.p2.c) := HD7.out.box.2.1
 have d2 : w7.cell? ⟨D, 2, none⟩ = some (.slice x5.p3.a x5.p3.n x5.p3.c) := HD7.out.box.2.2.1
 have d3 : w7.cell? ⟨D, 3, none⟩ = some (.slice x5.p4.a x5.p4.n x5.p4.c) := HD7.out.box.2.2.2.1
 have r0 : w7.cell? ⟨R, 0, none⟩ = some (.slice none 0 0) := HR7.out.box.1
 have r1 : w7.cell? ⟨R, 1, none⟩ = some (.slice none 0 0) := HR7.out.box.2.1
 have r2 : w7.cell? ⟨R, 2, none⟩ = some (.slice none 0 0) := HR7.out.box.2.2.1
 have r3 : w7.cell? ⟨R, 3, none⟩ = some (.slice none 0 0) := HR7.out.box.2.2.2.1
 have z0 := HR7.out.fz 0
 have z1 := HR7.out.fz 1
 have z2 := HR7.out.fz 2
 have z3 := HR7.out.fz 3
 have hl5 := HR7.out.lt
 go_wp2_with fail
 have HX : Hid (DBlk ((((w7.setCell ⟨R, 0, none⟩ (.slice x5.p1.a x5.p1.n x5.p1.c)).setCell ⟨R, 1, none⟩ (.slice x5.p2.a x5.p2.n x5.p2.c)).setCell ⟨R, 2, none⟩ (.slice x5.p3.a x5.p3.n x5.p3.c)).setCell ⟨R, 3, none⟩ (.slice x5.p4.a x5.p4.n x5.p4.c)) R x5) := set4_blk HR7.out x5
 have HY : Hid (DOwx w.heap.size ((((w7.setCell ⟨R, 0, none⟩ (.slice x5.p1.a x5.p1.n x5.p1.c)).setCell ⟨R, 1, none⟩ (.slice x5.p2.a x5.p2.n x5.p2.c)).setCell ⟨R, 2, none⟩ (.slice x5.p3.a x5.p3.n x5.p3.c)).setCell ⟨R, 3, none⟩ (.slice x5.p4.a x5.p4.n x5.p4.c)) x5 d) := HO7.out.ret4 HS4.out HG4.out.size
 have hg4 : w7.grownBy ((((w7.setCell ⟨R, 0, none⟩ (.slice x5.p1.a x5.p1.n x5.p1.c)).setCell ⟨R, 1, none⟩ (.slice x5.p2.a x5.p2.n x5.p2.c)).setCell ⟨R, 2, none⟩ (.slice x5.p3.a x5.p3.n x5.p3.c)).setCell ⟨R, 3, none⟩ (.slice x5.p4.a x5.p4.n x5.p4.c)) (some R) := set4_grown w7 R x5
 have hbw : b < w.heap.size := by
   rcases HR.out.rd.1 with h0 | ⟨b', o', e', hb', _⟩
   · have := HR.out.len; rw [h0] at this; simp at this; omega
   · cases e'; exact hb'
 have HZ : Hid (w.grownBy ((((w7.setCell ⟨R, 0, none⟩ (.slice x5.p1.a x5.p1.n x5.p1.c)).setCell ⟨R, 1, none⟩ (.slice x5.p2.a x5.p2.n x5.p2.c)).setCell ⟨R, 2, none⟩ (.slice x5.p3.a x5.p3.n x5.p3.c)).setCell ⟨R, 3, none⟩ (.slice x5.p4.a x5.p4.n x5.p4.c)) (some r)) := grown_apx HG7.out hg4 (fun j e => by injection e with e; rw [<- e, HRR.out]; exact Nat.le_refl _)
 have HV : Hid (Rdr ((((w7.setCell ⟨R, 0, none⟩ (.slice x5.p1.a x5.p1.n x5.p1.c)).setCell ⟨R, 1, none⟩ (.slice x5.p2.a x5.p2.n x5.p2.c)).setCell ⟨R, 2, none⟩ (.slice x5.p3.a x5.p3.n x5.p3.c)).setCell ⟨R, 3, none⟩ (.slice x5.p4.a x5.p4.n x5.p4.c)) r (some ⟨b, o, none⟩) n p zs (p + size)) := HM7.out.app hg4 (B := R) (by rw [HRR.out]; exact hbw) hRw (box_lt HM7.out.box) (Nat.lt_of_lt_of_le hbw HG7.out.size) (fun j e => by injection e with e; omega)
 clear hg4 d0 d1 d2 d3 r0 r1 r2 r3 z0 z1 z2 z3 hl5
 generalize ((((w7.setCell ⟨R, 0, none⟩ (.slice x5.p1.a x5.p1.n x5.p1.c)).setCell ⟨R, 1, none⟩ (.slice x5.p2.a x5.p2.n x5.p2.c)).setCell ⟨R, 2, none⟩ (.slice x5.p3.a x5.p3.n x5.p3.c)).setCell ⟨R, 3, none⟩ (.slice x5.p4.a x5.p4.n x5.p4.c)) = W9 at *
 have k0 := HX.out.box.1
 have k1 := HX.out.box.2.1
 have k2 := HX.out.box.2.2.1
 have k3 := HX.out.box.2.2.2.1
 try simp only at k0 k1 k2 k3
 exact bodyPost_ret (v := .agg #[.slice x5.p1.a x5.p1.n x5.p1.c, .slice x5.p2.a x5.p2.n x5.p2.c, .slice x5.p3.a x5.p3.n x5.p3.c, .slice x5.p4.a x5.p4.n x5.p4.c]) (by simp [results, Tryz.results139, go_sem, k0, k1, k2, k3]) rfl ⟨x5, rfl, HV.out, HY.out, HZ.out⟩
end Go.Proofs.YteplffhfeoephaaGreat
namespace Go.Proofs.YteplffhfeoephaaGreat
open Go.ChangeShapes Go.WideShapes Go.ChangeAt Go.RowKit Go.Maps
set_option maxHeartbeats 4000000 in
theorem rdata_pl_bad (r b o n c : Nat) (zs : List Int) (p t size : Nat) (w : World) (h : Rdr w r (some ⟨b, o, none⟩) n c zs p) (h1 : 1 <= n) (hz : size <= 65535) (hl : p + size <= n) (hs : sqt t = false) (hd : (readF t ((zs.drop p).take size)).2 ≠ 0) (hcp : ¬ c = p) :
   Calls Tryz.prog 139 #[.pointer (some ⟨r, 0, none⟩), .int .u16 t, .int .i64 size] w fun e w' => e = .panicked thrown /\ Hid (w.grownBy w' (some r)) := by
 have KY := fun W => Lib.hid (need_yes W)
 have KN := fun W => Lib.hid (need_no W)
 have KQ := fun W => Lib.hid (squeezed_any t W)
 have hn47 := h.big
 have hcap := h.cap
 have hlen := h.len
 have c0 : w.cell? ⟨r, 0, none⟩ = some (.slice (some ⟨b, o, none⟩) n c) := box_cell h.box 0 _ rfl
 have c1 : w.cell? ⟨r, 1, none⟩ = some (.int .i64 p) := box_cell h.box 1 _ rfl
 have hlt := box_lt h.box
 have hrw : r < w.heap.size := box_lt h.box
 have HR := Lib.hid h
 rw [hs] at KQ
 have k1 : (size : Int) <= (n : Int) - (p : Int) := by omega
 have hws : IntKind.i64.wrap ((p : Int) + (size : Int)) = (p : Int) + (size : Int) := wrap_in (by omega) (by omega)
 have b1 : (0 : Int) <= (p : Int) := by omega
 have b2 : (p : Int) <= (p : Int) + (size : Int) := by omega
 have b3 : (p : Int) + (size : Int) <= (c : Int) := by omega
 have b4 : ((p : Int) + (size : Int)).toNat - p = size := by omega
 have hb0 : Below w.heap.size w (w.alloc (.cells #[.slice none 0 0, .slice none 0 0, .slice none 0 0, .slice none 0 0] 59)) := newq_below _ _
 have HR0 := Lib.hid (h.below hb0)
 have hD0 : DBlk (w.alloc (.cells #[.slice none 0 0, .slice none 0 0, .slice none 0 0, .slice none 0 0] 59)) w.heap.size nilDA := by
   show (w.heap.push _)[w.heap.size]? = _
   simp
 have hsz0 : (w.alloc (.cells #[.slice none 0 0, .slice none 0 0, .slice none 0 0, .slice none 0 0] 59)).heap.size = w.heap.size + 1 := Array.size_push _
 have HD0 := Lib.hid hD0
 have HS0 := Lib.hid hsz0
 have HB0 := Lib.hid hb0
 obtain ⟨R, hR⟩ : ∃ R, R = w.heap.size := ⟨_, rfl⟩
 have HRR := Lib.hid hR
 rw [<- hR] at HD0 HS0
 clear h hD0 hsz0 hb0
 go_enter Tryz.func139, Tryz.ntmps139
 go_wp2_with fail
 simp only [<- hR]
 generalize w.alloc (.cells #[.slice none 0 0, .slice none 0 0, .slice none 0 0, .slice none 0 0] 59) = w0 at *
 clear c0 c1 hlt hR
 have c0 : w0.cell? ⟨r, 0, none⟩ = some (.slice (some ⟨b, o, none⟩) n c) := box_cell HR0.out.box 0 _ rfl
 have c1 : w0.cell? ⟨r, 1, none⟩ = some (.int .i64 p) := box_cell HR0.out.box 1 _ rfl
 have hlt := box_lt HR0.out.box
 go_quiet (first
   | (go_at_call 102; exact Calls.quiet_of_same (KY _).out))
 have HB1 := Lib.hid (below_dn w0 nq)
 generalize w0.drewN nq = w1 at *
 clear c0 c1 hlt
 have HR1 := Lib.hid (HR0.out.below HB1.out)
 have c0 : w1.cell? ⟨r, 0, none⟩ = some (.slice (some ⟨b, o, none⟩) n c) := box_cell HR1.out.box 0 _ rfl
 have c1 : w1.cell? ⟨r, 1, none⟩ = some (.int .i64 p) := box_cell HR1.out.box 1 _ rfl
 have hlt := box_lt HR1.out.box
 go_wp2_with fail
 go_quiet (fail)
 have HB2 := Lib.hid (below_dn w1 nq)
 generalize w1.drewN nq = w2 at *
 clear c0 c1 hlt
 have HR2 := Lib.hid (HR1.out.below HB2.out)
 have HD2 : Hid (DBlk w2 R nilDA) := (HB2.out.block R (by have := HB1.out.size; have := HS0.out; omega)).trans ((HB1.out.block R (by have := HS0.out; omega)).trans HD0.out)
 have HG2 : Hid (Below w.heap.size w w2) := HB0.out.trans ((HB1.out.mono (by have := HS0.out; have := HRR.out; omega)).trans (HB2.out.mono (by have := HB1.out.size; have := HS0.out; have := HRR.out; omega)))
 have HS2 : Hid (R < w2.heap.size) := (by have := HB1.out.size; have := HB2.out.size; have := HS0.out; omega : R < w2.heap.size)
 have hRw : r < R := by rw [HRR.out]; exact hrw
 clear HB0 HB1 HB2 HD0 HS0 HR0 HR1
 go_wp2_with fail
 refine (KQ w2).out.mono ?_
 rintro e1 w3 ⟨rfl, hw3⟩
 subst w3
 go_wp2_with fail
 have HG4 : Hid (w.grownBy w2 (some r)) := grown_of HG2.out
 have HR4 : Hid (∃ q, Rdr w2 r (some ⟨b, o, none⟩) n c zs q) := ⟨p, HR2.out⟩
 have HD4 := HD2
 have HS4 := HS2
 have K5 : Hid (Calls Tryz.prog 160 #[.int .u16 t, .slice (some ⟨b, o + p, none⟩) size (c - p)] w2 (RdP (readF t ((zs.drop p).take size)) w2)) := by
   refine read5_any t _ size (c - p) ((zs.drop p).take size) w2 (HR2.out.rd.cut p size (by omega) (fun _ b' o' e' => by cases e'; first | rfl | omega)) (by simp; omega) ⟨by omega, by omega⟩ (fun e => by cases e)
 clear HD2 HS2 HG2 HR2
 generalize w2 = w4 at *
 generalize readF t ((zs.drop p).take size) = rr at *
 go_wp2_with fail
 refine K5.out.mono ?_
 rintro e5 w5 ⟨x5, rfl, H5⟩
 have hn5 := newq_below w5 (.cells #[.slice x5.p1.a x5.p1.n x5.p1.c, .slice x5.p2.a x5.p2.n x5.p2.c, .slice x5.p3.a x5.p3.n x5.p3.c, .slice x5.p4.a x5.p4.n x5.p4.c] 59)
 obtain ⟨D, hD⟩ : ∃ D, D = w5.heap.size := ⟨_, rfl⟩
 have HB6 : Hid (Below w4.heap.size w4 (w5.alloc (.cells #[.slice x5.p1.a x5.p1.n x5.p1.c, .slice x5.p2.a x5.p2.n x5.p2.c, .slice x5.p3.a x5.p3.n x5.p3.c, .slice x5.p4.a x5.p4.n x5.p4.c] 59))) := H5.out.2.trans (hn5.mono H5.out.2.size)
 have HO6 : Hid (DOwx w4.heap.size (w5.alloc (.cells #[.slice x5.p1.a x5.p1.n x5.p1.c, .slice x5.p2.a x5.p2.n x5.p2.c, .slice x5.p3.a x5.p3.n x5.p3.c, .slice x5.p4.a x5.p4.n x5.p4.c] 59)) x5 rr.1) := (H5.out.1.stays hn5).x
 have HD6 : Hid (DBlk (w5.alloc (.cells #[.slice x5.p1.a x5.p1.n x5.p1.c, .slice x5.p2.a x5.p2.n x5.p2.c, .slice x5.p3.a x5.p3.n x5.p3.c, .slice x5.p4.a x5.p4.n x5.p4.c] 59)) D x5) := by rw [hD]; exact heap_alloc_new _ _
 have hDs : w4.heap.size <= D := by rw [hD]; exact H5.out.2.size
 have hne : decide (rr.2 = 0) = false := by simp [hd]
 have hne2 : (rr.2 == 0) = false := by simp [hd]
 go_wp2_with fail
 generalize w5.alloc (.cells #[.slice x5.p1.a x5.p1.n x5.p1.c, .slice x5.p2.a x5.p2.n x5.p2.c, .slice x5.p3.a x5.p3.n x5.p3.c, .slice x5.p4.a x5.p4.n x5.p4.c] 59) = w6 at *
 refine (KN w6).out.mono ?_
 rintro e7 w7 ⟨rfl, hw7⟩
 subst w7
 go_wp2_with fail
 exact ⟨rfl, rfl, grown_trans HG4.out (grown_of HB6.out)⟩
end Go.Proofs.YteplffhfeoephaaGreat
namespace Go.Proofs.YteplffhfeoephaaGreat
open Go.ChangeShapes Go.WideShapes Go.ChangeAt Go.RowKit Go.Maps
set_option maxHeartbeats 4000000 in
theorem rdata_pl_bad2 (r b o n : Nat) (zs : List Int) (p t size : Nat) (w : World) (h : Rdr w r (some ⟨b, o, none⟩) n p zs p) (h1 : 1 <= n) (hz : size <= 65535) (hl : p + size <= n) (hs : sqt t = false) (hd : (readF t ((zs.drop p).take size)).2 ≠ 0) :
   Calls Tryz.prog 139 #[.pointer (some ⟨r, 0, none⟩), .int .u16 t, .int .i64 size] w fun e w' => e = .panicked thrown /\ Hid (w.grownBy w' (some r)) := by
 have KY := fun W => Lib.hid (need_yes W)
 have KN := fun W => Lib.hid (need_no W)
 have KQ := fun W => Lib.hid (squeezed_any t W)
 have hn47 := h.big
 have hcap := h.cap
 have hlen := h.len
 have c0 : w.cell? ⟨r, 0, none⟩ = some (.slice (some ⟨b, o, none⟩) n p) := box_cell h.box 0 _ rfl
 have c1 : w.cell? ⟨r, 1, none⟩ = some (.int .i64 p) := box_cell h.box 1 _ rfl
 have hlt := box_lt h.box
 have hrw : r < w.heap.size := box_lt h.box
 have HR := Lib.hid h
 rw [hs] at KQ
 have k1 : (size : Int) <= (n : Int) - (p : Int) := by omega
 have hws : IntKind.i64.wrap ((p : Int) + (size : Int)) = (p : Int) + (size : Int) := wrap_in (by omega) (by omega)
 have b1 : (0 : Int) <= (p : Int) := by omega
 have b2 : (p : Int) <= (p : Int) + (size : Int) := by omega
 have b3 : (p : Int) + (size : Int) <= (p : Int) := by omega
 have b4 : ((p : Int) + (size : Int)).toNat - p = size := by omega
 have hb0 : Below w.heap.size w (w.alloc (.cells #[.slice none 0 0, .slice none 0 0, .slice none 0 0, .slice none 0 0] 59)) := newq_below _ _
 have HR0 := Lib.hid (h.below hb0)
 have hD0 : DBlk (w.alloc (.cells #[.slice none 0 0, .slice none 0 0, .slice none 0 0, .slice none 0 0] 59)) w.heap.size nilDA := by
   show (w.heap.push _)[w.heap.size]? = _
   simp
 have hsz0 : (w.alloc (.cells #[.slice none 0 0, .slice none 0 0, .slice none 0 0, .slice none 0 0] 59)).heap.size = w.heap.size + 1 := Array.size_push _
 have HD0 := Lib.hid hD0
 have HS0 := Lib.hid hsz0
 have HB0 := Lib.hid hb0
 obtain ⟨R, hR⟩ : ∃ R, R = w.heap.size := ⟨_, rfl⟩
 have HRR := Lib.hid hR
 rw [<- hR] at HD0 HS0
 clear h hD0 hsz0 hb0
 go_enter Tryz.func139, Tryz.ntmps139
 go_wp2_with fail
 simp only [<- hR]
 generalize w.alloc (.cells #[.slice none 0 0, .slice none 0 0, .slice none 0 0, .slice none 0 0] 59) = w0 at *
 clear c0 c1 hlt hR
 have c0 : w0.cell? ⟨r, 0, none⟩ = some (.slice (some ⟨b, o, none⟩) n p) := box_cell HR0.out.box 0 _ rfl
 have c1 : w0.cell? ⟨r, 1, none⟩ = some (.int .i64 p) := box_cell HR0.out.box 1 _ rfl
 have hlt := box_lt HR0.out.box
 go_quiet (first
   | (go_at_call 102; exact Calls.quiet_of_same (KY _).out))
 have HB1 := Lib.hid (below_dn w0 nq)
 generalize w0.drewN nq = w1 at *
 clear c0 c1 hlt
 have HR1 := Lib.hid (HR0.out.below HB1.out)
 have c0 : w1.cell? ⟨r, 0, none⟩ = some (.slice (some ⟨b, o, none⟩) n p) := box_cell HR1.out.box 0 _ rfl
 have c1 : w1.cell? ⟨r, 1, none⟩ = some (.int .i64 p) := box_cell HR1.out.box 1 _ rfl
 have hlt := box_lt HR1.out.box
 go_wp2_with fail
 go_quiet (fail)
 have HB2 := Lib.hid (below_dn w1 nq)
 generalize w1.drewN nq = w2 at *
 clear c0 c1 hlt
 have HR2 := Lib.hid (HR1.out.below HB2.out)
 have HD2 : Hid (DBlk w2 R nilDA) := (HB2.out.block R (by have := HB1.out.size; have := HS0.out; omega)).trans ((HB1.out.block R (by have := HS0.out; omega)).trans HD0.out)
 have HG2 : Hid (Below w.heap.size w w2) := HB0.out.trans ((HB1.out.mono (by have := HS0.out; have := HRR.out; omega)).trans (HB2.out.mono (by have := HB1.out.size; have := HS0.out; have := HRR.out; omega)))
 have HS2 : Hid (R < w2.heap.size) := (by have := HB1.out.size; have := HB2.out.size; have := HS0.out; omega : R < w2.heap.size)
 have hRw : r < R := by rw [HRR.out]; exact hrw
 clear HB0 HB1 HB2 HD0 HS0 HR0 HR1
 go_wp2_with fail
 refine (KQ w2).out.mono ?_
 rintro e1 w3 ⟨rfl, hw3⟩
 subst w3
 go_wp2_with fail
 have HG4 : Hid (w.grownBy w2 (some r)) := grown_of HG2.out
 have HR4 : Hid (∃ q, Rdr w2 r (some ⟨b, o, none⟩) n p zs q) := ⟨p, HR2.out⟩
 have HD4 := HD2
 have HS4 := HS2
 have K5 : Hid (Calls Tryz.prog 160 #[.int .u16 t, .slice (some ⟨b, o, none⟩) size 0] w2 (RdP (readF t ((zs.drop p).take size)) w2)) := by
   have e0 : size = 0 := by omega
   have e1 : (zs.drop p).take size = [] := by rw [e0]; rfl
   rw [e1]
   exact read5_any t _ size 0 [] w2 ⟨.inl rfl, by simp⟩ (by simp; omega) ⟨by omega, by omega⟩ (fun e => by cases e)
 clear HD2 HS2 HG2 HR2
 generalize w2 = w4 at *
 generalize readF t ((zs.drop p).take size) = rr at *
 go_wp2_with fail
 refine K5.out.mono ?_
 rintro e5 w5 ⟨x5, rfl, H5⟩
 have hn5 := newq_below w5 (.cells #[.slice x5.p1.a x5.p1.n x5.p1.c, .slice x5.p2.a x5.p2.n x5.p2.c, .slice x5.p3.a x5.p3.n x5.p3.c, .slice x5.p4.a x5.p4.n x5.p4.c] 59)
 obtain ⟨D, hD⟩ : ∃ D, D = w5.heap.size := ⟨_, rfl⟩
 have HB6 : Hid (Below w4.heap.size w4 (w5.alloc (.cells #[.slice x5.p1.a x5.p1.n x5.p1.c, .slice x5.p2.a x5.p2.n x5.p2.c, .slice x5.p3.a x5.p3.n x5.p3.c, .slice x5.p4.a x5.p4.n x5.p4.c] 59))) := H5.out.2.trans (hn5.mono H5.out.2.size)
 have HO6 : Hid (DOwx w4.heap.size (w5.alloc (.cells #[.slice x5.p1.a x5.p1.n x5.p1.c, .slice x5.p2.a x5.p2.n x5.p2.c, .slice x5.p3.a x5.p3.n x5.p3.c, .slice x5.p4.a x5.p4.n x5.p4.c] 59)) x5 rr.1) := (H5.out.1.stays hn5).x
 have HD6 : Hid (DBlk (w5.alloc (.cells #[.slice x5.p1.a x5.p1.n x5.p1.c, .slice x5.p2.a x5.p2.n x5.p2.c, .slice x5.p3.a x5.p3.n x5.p3.c, .slice x5.p4.a x5.p4.n x5.p4.c] 59)) D x5) := by rw [hD]; exact heap_alloc_new _ _
 have hDs : w4.heap.size <= D := by rw [hD]; exact H5.out.2.size
 have hne : decide (rr.2 = 0) = false := by simp [hd]
 have hne2 : (rr.2 == 0) = false := by simp [hd]
 go_wp2_with fail
 generalize w5.alloc (.cells #[.slice x5.p1.a x5.p1.n x5.p1.c, .slice x5.p2.a x5.p2.n x5.p2.c, .slice x5.p3.a x5.p3.n x5.p3.c, .slice x5.p4.a x5.p4.n x5.p4.c] 59) = w6 at *
 refine (KN w6).out.mono ?_
 rintro e7 w7 ⟨rfl, hw7⟩
 subst w7
 go_wp2_with fail
 exact ⟨rfl, rfl, grown_trans HG4.out (grown_of HB6.out)⟩
end Go.Proofs.YteplffhfeoephaaGreat
namespace Go.Proofs.YteplffhfeoephaaGreat
open Go.ChangeShapes Go.WideShapes Go.ChangeAt Go.RowKit Go.Maps
theorem sqt_false {t : Nat} (h : ¬ sqt t = true) : sqt t = false := by simpa using h
theorem rdata_yes (r b o n c : Nat) (zs : List Int) (p t size : Nat) (x : Dat × Nat) (w : World) (h : Rdr w r (some ⟨b, o, none⟩) n c zs p) (h1 : 1 <= n) (hz : size <= 65535) (hx : gdat t size zs p = some x) :
   Calls Tryz.prog 139 #[.pointer (some ⟨r, 0, none⟩), .int .u16 t, .int .i64 size] w (RdDP r b o n c zs w x) := by
 unfold gdat at hx
 split at hx
 case isFalse => cases hx
 case isTrue hl =>
   have hl' : p + size <= n := by rw [<- h.len]; exact hl
   simp only [Option.bind_eq_some_iff, Option.map_eq_some_iff] at hx
   obtain ⟨L, hL, d, hd, rfl⟩ := hx
   have hrd := gdr_readF.1 d hd
   by_cases hs : sqt t = true
   · by_cases hcp : c = p
     · exfalso
       have hps : p < zs.length := by
         unfold gpl at hL
         rw [if_pos hs] at hL
         split at hL
         case isFalse => cases hL
         case isTrue ha =>
           simp only [Option.bind_eq_some_iff] at hL
           obtain ⟨y, hy, _⟩ := hL
           have := gm_pos (sqt_cnt hs).1 hy
           omega
       have := h.len
       have := h.cap.1
       omega
     · exact rdata_sq_ok r b o n c zs p t size w h h1 hz hl' hs L hL d hrd hcp
   · have hs' := sqt_false hs
     have hLe : L = (zs.drop p).take size := by
       unfold gpl at hL
       rw [if_neg hs] at hL
       injection hL with hL
       rw [<- hL]
       congr 1
       omega
     rw [hLe] at hrd
     by_cases hcp : c = p
     · subst hcp
       exact rdata_pl_ok2 r b o n zs c t size w h h1 hz hl' hs' d hrd
     · exact rdata_pl_ok r b o n c zs p t size w h h1 hz hl' hs' d hrd hcp
set_option maxHeartbeats 4000000 in
theorem rdata_long (r b o n c : Nat) (zs : List Int) (p t size : Nat) (w : World) (h : Rdr w r (some ⟨b, o, none⟩) n c zs p) (h1 : 1 <= n) (hz : size <= 65535) (hl : ¬ p + size <= n) :
   Calls Tryz.prog 139 #[.pointer (some ⟨r, 0, none⟩), .int .u16 t, .int .i64 size] w fun e w' => e = .panicked thrown /\ Hid (w.grownBy w' (some r)) := by
 have KN := fun W => Lib.hid (need_no W)
 have hn47 := h.big
 have hpn := h.pn
 have hb0 : Below w.heap.size w (w.alloc (.cells #[.slice none 0 0, .slice none 0 0, .slice none 0 0, .slice none 0 0] 59)) := newq_below _ _
 have HR0 := Lib.hid (h.below hb0)
 have c0 : w.cell? ⟨r, 0, none⟩ = some (.slice (some ⟨b, o, none⟩) n c) := box_cell h.box 0 _ rfl
 have c1 : w.cell? ⟨r, 1, none⟩ = some (.int .i64 p) := box_cell h.box 1 _ rfl
 have hlt := box_lt h.box
 have hrw : r < w.heap.size := box_lt h.box
 have k1 : ¬ (size : Int) <= (n : Int) - (p : Int) := by omega
 have k2 : ((n : Int) - (p : Int)) < (size : Int) := by omega
 have k3 : decide ((size : Int) <= (n : Int) - (p : Int)) = false := decide_eq_false k1
 have HB0 := Lib.hid hb0
 clear h hb0
 go_enter Tryz.func139, Tryz.ntmps139
 go_wp2_with fail
 generalize w.alloc (.cells #[.slice none 0 0, .slice none 0 0, .slice none 0 0, .slice none 0 0] 59) = w0 at *
 clear c0 c1 hlt
 have c0 : w0.cell? ⟨r, 0, none⟩ = some (.slice (some ⟨b, o, none⟩) n c) := box_cell HR0.out.box 0 _ rfl
 have c1 : w0.cell? ⟨r, 1, none⟩ = some (.int .i64 p) := box_cell HR0.out.box 1 _ rfl
 have hlt := box_lt HR0.out.box
 have hwr : IntKind.i64.wrap ((n : Int) - (p : Int)) = (n : Int) - (p : Int) := wrap_in (by omega) (by omega)
 go_region_dies
 all_goals (refine (KN _).out.mono ?_; rintro e1 w1 ⟨rfl, hw1⟩; subst w1; go_wp2; exact ⟨rfl, rfl, grown_of HB0.out.drew⟩)
theorem rdata_no (r b o n c : Nat) (zs : List Int) (p t size : Nat) (w : World) (h : Rdr w r (some ⟨b, o, none⟩) n c zs p) (h1 : 1 <= n) (hz : size <= 65535) (hx : gdat t size zs p = none) :
   Calls Tryz.prog 139 #[.pointer (some ⟨r, 0, none⟩), .int .u16 t, .int .i64 size] w fun e w' => e = .panicked thrown /\ Hid (w.grownBy w' (some r)) := by
 unfold gdat at hx
 split at hx
 case isFalse hl =>
   exact rdata_long r b o n c zs p t size w h h1 hz (by rw [<- h.len]; exact hl)
 case isTrue hl =>
   have hl' : p + size <= n := by rw [<- h.len]; exact hl
   by_cases hs : sqt t = true
   · cases hL : gpl t zs p (p + size) with
     | none =>
       by_cases hcp : c = p
       · exact rdata_sq_no2 r b o n c zs p t size w h h1 hz hl' hs hL hcp
       · exact rdata_sq_no r b o n c zs p t size w h h1 hz hl' hs hL hcp
     | some L =>
       rw [hL] at hx
       simp only [Option.bind_some, Option.map_eq_none_iff] at hx
       have hrd := gdr_readF.2 hx
       by_cases hcp : c = p
       · exfalso
         have hps : p < zs.length := by
           unfold gpl at hL
           rw [if_pos hs] at hL
           split at hL
           case isFalse => cases hL
           case isTrue ha =>
             simp only [Option.bind_eq_some_iff] at hL
             obtain ⟨y, hy, _⟩ := hL
             have := gm_pos (sqt_cnt hs).1 hy
             omega
         have := h.len
         have := h.cap.1
         omega
       · exact rdata_sq_bad r b o n c zs p t size w h h1 hz hl' hs L hL hrd hcp
   · have hs' := sqt_false hs
     have hL : gpl t zs p (p + size) = some ((zs.drop p).take size) := by
       unfold gpl
       rw [if_neg hs]
       congr 2
       omega
     rw [hL] at hx
     simp only [Option.bind_some, Option.map_eq_none_iff] at hx
     have hrd := gdr_readF.2 hx
     by_cases hcp : c = p
     · subst hcp
       exact rdata_pl_bad2 r b o n zs c t size w h h1 hz hl' hs' hrd
     · exact rdata_pl_bad r b o n c zs p t size w h h1 hz hl' hs' hrd hcp
end Go.Proofs.YteplffhfeoephaaGreat
namespace Go.Proofs.YteplffhfeoephaaGreat
open Go.ChangeShapes Go.WideShapes Go.ChangeAt Go.RowKit
structure QsRd (w : World) (s : Sl) (qs : List Qn) : Prop where
 rd : qs = [] ∨ ∃ b o, s.a = some ⟨b, o, none⟩ /\ b < w.heap.size /\ ∀ i (h : i < qs.length), ∃ x : QA, w.cell? ⟨b, o + i * 3, none⟩ = some (.slice x.s.a x.s.n x.s.c) /\ w.cell? ⟨b, o + i * 3 + 1, none⟩ = some (.int .u16 (x.ty : Int)) /\ w.cell? ⟨b, o + i * 3 + 2, none⟩ = some (.int .u16 (x.cl : Int)) /\ QOk w x qs[i]
 len : qs.length = s.n
 cap : s.n <= s.c /\ s.c <= 9223372036854775807
 nil : s.a = none -> s.c = 0
theorem QsRd.below {w w' : World} {s : Sl} {qs : List Qn} (h : QsRd w s qs) (hb : Below w.heap.size w w') : QsRd w' s qs := by
 refine ⟨?_, h.len, h.cap, h.nil⟩
 rcases h.rd with h1 | ⟨b, o, h1, h2, h3⟩
 · exact .inl h1
 · refine .inr ⟨b, o, h1, Nat.lt_of_lt_of_le h2 hb.size, fun i hi => ?_⟩
   obtain ⟨x, e1, e2, e3, h5⟩ := h3 i hi
   exact ⟨x, (hb.cell (p := ⟨b, o + i * 3, none⟩) h2).trans e1, (hb.cell (p := ⟨b, o + i * 3 + 1, none⟩) h2).trans e2, (hb.cell (p := ⟨b, o + i * 3 + 2, none⟩) h2).trans e3, h5.below hb⟩
theorem QsRd.at {w : World} {s : Sl} {qs : List Qn} (h : QsRd w s qs) (i : Nat) (hi : i < qs.length) : ∃ b o, s.a = some ⟨b, o, none⟩ /\ b < w.heap.size /\ ∃ x : QA, w.cell? ⟨b, o + i * 3, none⟩ = some (.slice x.s.a x.s.n x.s.c) /\ w.cell? ⟨b, o + i * 3 + 1, none⟩ = some (.int .u16 (x.ty : Int)) /\ w.cell? ⟨b, o + i * 3 + 2, none⟩ = some (.int .u16 (x.cl : Int)) /\ QOk w x qs[i] := by
 rcases h.rd with h1 | ⟨b, o, h1, h2, h3⟩
 · subst h1; simp at hi
 · exact ⟨b, o, h1, h2, h3 i hi⟩
end Go.Proofs.YteplffhfeoephaaGreat
namespace Go.Proofs.YteplffhfeoephaaGreat
open Go.ChangeShapes Go.WideShapes Go.ChangeAt Go.RowKit
set_option maxHeartbeats 2000000 in
theorem samer45 (x y : RA) (r : Rec) (w : World) (h1 : RRd w x r) (h2 : RRd w y r) :
   Calls Tryz.prog 95 #[.agg (recCells x r).toArray, .agg (recCells y r).toArray] w fun e w' => e = .returned (.bool true) /\ Below w.heap.size w w' := by
 have KD : ∀ W, Below w.heap.size w W -> Hid (Calls Tryz.prog 129 #[.agg #[.slice x.d.p1.a x.d.p1.n x.d.p1.c, .slice x.d.p2.a x.d.p2.n x.d.p2.c, .slice x.d.p3.a x.d.p3.n x.d.p3.c, .slice x.d.p4.a x.d.p4.n x.d.p4.c], .agg #[.slice y.d.p1.a y.d.p1.n y.d.p1.c, .slice y.d.p2.a y.d.p2.n y.d.p2.c, .slice y.d.p3.a y.d.p3.n y.d.p3.c, .slice y.d.p4.a y.d.p4.n y.d.p4.c]] W fun e w' => e = .returned (.bool true) /\ Hid (Below W.heap.size W w')) := fun W hb => samedata_yes x.d y.d r.d W (h1.2.below hb) (h2.2.below hb)
 have hnn : x.o.n = y.o.n := h1.1.len.symm.trans h2.1.len
 have KN : ∀ W, Below w.heap.size w W -> Hid (Calls Tryz.prog 128 #[.slice x.o.a x.o.n x.o.c, .slice y.o.a x.o.n y.o.c] W fun e w' => e = .returned (.bool true) /\ Hid (Below W.heap.size W w')) := fun W hb => sameN_yes x.o.a y.o.a x.o.n x.o.c y.o.c r.ow W (h1.1.rd.below hb) (h2.1.rd.below hb) h1.1.len (Nat.le_trans h1.1.cap.1 h1.1.cap.2)
 clear h1 h2
 obtain ⟨⟨xa, xn, xc⟩, ⟨⟨xa1, xn1, xc1⟩, ⟨xa2, xn2, xc2⟩, ⟨xa3, xn3, xc3⟩, ⟨xa4, xn4, xc4⟩⟩⟩ := x
 obtain ⟨⟨ya, yn, yc⟩, ⟨⟨ya1, yn1, yc1⟩, ⟨ya2, yn2, yc2⟩, ⟨ya3, yn3, yc3⟩, ⟨ya4, yn4, yc4⟩⟩⟩ := y
 obtain ⟨ow, t, cl, tt, d⟩ := r
 simp only at KD KN hnn
 subst hnn
 show Calls Tryz.prog 95 #[.agg #[.slice xa xn xc, .int .u16 (t : Int), .int .u16 (cl : Int), .int .u32 (tt : Int), .slice xa1 xn1 xc1, .slice xa2 xn2 xc2, .slice xa3 xn3 xc3, .slice xa4 xn4 xc4], .agg #[.slice ya xn yc, .int .u16 (t : Int), .int .u16 (cl : Int), .int .u32 (tt : Int), .slice ya1 yn1 yc1, .slice ya2 yn2 yc2, .slice ya3 yn3 yc3, .slice ya4 yn4 yc4]] w fun e w' => e = .returned (.bool true) /\ Below w.heap.size w w'
 go_enter Tryz.func95, Tryz.ntmps95
 go_wp2_with fail
 refine (KN _ (((Below.refl _ _).alloc (Nat.le_refl _) _).alloc (by simp) _)).out.mono ?_
 rintro e w2 ⟨rfl, hb2'⟩
 have hb2 := hb2'.out
 have HB2 : Hid (Below w.heap.size w w2 /\ w2.heap[w.heap.size]? = some (.cells #[.slice xa xn xc, .int .u16 (t : Int), .int .u16 (cl : Int), .int .u32 (tt : Int), .slice xa1 xn1 xc1, .slice xa2 xn2 xc2, .slice xa3 xn3 xc3, .slice xa4 xn4 xc4] 61) /\ w2.heap[w.heap.size + 1]? = some (.cells #[.slice ya xn yc, .int .u16 (t : Int), .int .u16 (cl : Int), .int .u32 (tt : Int), .slice ya1 yn1 yc1, .slice ya2 yn2 yc2, .slice ya3 yn3 yc3, .slice ya4 yn4 yc4] 61)) := by
   refine ⟨(((Below.refl _ _).alloc (Nat.le_refl _) _).alloc (by simp) _).trans (hb2.mono (by simp; omega)), (hb2.block _ (by simp; omega)).trans (block_alloc (alloc_at _ _) _), (hb2.block _ (by simp)).trans ?_⟩
   have := alloc_at (w.alloc (.cells #[.slice xa xn xc, .int .u16 (t : Int), .int .u16 (cl : Int), .int .u32 (tt : Int), .slice xa1 xn1 xc1, .slice xa2 xn2 xc2, .slice xa3 xn3 xc3, .slice xa4 xn4 xc4] 61)) (.cells #[.slice ya xn yc, .int .u16 (t : Int), .int .u16 (cl : Int), .int .u32 (tt : Int), .slice ya1 yn1 yc1, .slice ya2 yn2 yc2, .slice ya3 yn3 yc3, .slice ya4 yn4 yc4] 61)
   simp only [World.size_alloc] at this
   exact this
 clear hb2 hb2' KN
 have p0 := block_lt HB2.out.2.1
 have p1 := block_lt HB2.out.2.2
 have u0 : w2.cell? ⟨w.heap.size, 0, none⟩ = some (.slice xa xn xc) := cell_of_block HB2.out.2.1 rfl
 have u1 : w2.cell? ⟨w.heap.size, 1, none⟩ = some (.int .u16 (t : Int)) := cell_of_block HB2.out.2.1 rfl
 have u2 : w2.cell? ⟨w.heap.size, 2, none⟩ = some (.int .u16 (cl : Int)) := cell_of_block HB2.out.2.1 rfl
 have u3 : w2.cell? ⟨w.heap.size, 3, none⟩ = some (.int .u32 (tt : Int)) := cell_of_block HB2.out.2.1 rfl
 have u4 : w2.cell? ⟨w.heap.size, 4, none⟩ = some (.slice xa1 xn1 xc1) := cell_of_block HB2.out.2.1 rfl
 have u5 : w2.cell? ⟨w.heap.size, 5, none⟩ = some (.slice xa2 xn2 xc2) := cell_of_block HB2.out.2.1 rfl
 have u6 : w2.cell? ⟨w.heap.size, 6, none⟩ = some (.slice xa3 xn3 xc3) := cell_of_block HB2.out.2.1 rfl
 have u7 : w2.cell? ⟨w.heap.size, 7, none⟩ = some (.slice xa4 xn4 xc4) := cell_of_block HB2.out.2.1 rfl
 have v0 : w2.cell? ⟨w.heap.size + 1, 0, none⟩ = some (.slice ya xn yc) := cell_of_block HB2.out.2.2 rfl
 have v1 : w2.cell? ⟨w.heap.size + 1, 1, none⟩ = some (.int .u16 (t : Int)) := cell_of_block HB2.out.2.2 rfl
 have v2 : w2.cell? ⟨w.heap.size + 1, 2, none⟩ = some (.int .u16 (cl : Int)) := cell_of_block HB2.out.2.2 rfl
 have v3 : w2.cell? ⟨w.heap.size + 1, 3, none⟩ = some (.int .u32 (tt : Int)) := cell_of_block HB2.out.2.2 rfl
 have v4 : w2.cell? ⟨w.heap.size + 1, 4, none⟩ = some (.slice ya1 yn1 yc1) := cell_of_block HB2.out.2.2 rfl
 have v5 : w2.cell? ⟨w.heap.size + 1, 5, none⟩ = some (.slice ya2 yn2 yc2) := cell_of_block HB2.out.2.2 rfl
 have v6 : w2.cell? ⟨w.heap.size + 1, 6, none⟩ = some (.slice ya3 yn3 yc3) := cell_of_block HB2.out.2.2 rfl
 have v7 : w2.cell? ⟨w.heap.size + 1, 7, none⟩ = some (.slice ya4 yn4 yc4) := cell_of_block HB2.out.2.2 rfl
 go_wp2_with fail
 refine (KD _ HB2.out.1).out.mono ?_
 rintro e w3 ⟨rfl, hb3⟩
 go_wp2
 go_ret
 exact ⟨rfl, HB2.out.1.trans (hb3.out.mono HB2.out.1.size)⟩
set_option maxHeartbeats 2000000 in
theorem sames34 (a b : Option Addr) (n c d : Nat) (rs : List Rec) (w : World) (h1 : RdR w a rs) (h2 : RdR w b rs) (hl : rs.length = n) (hn : n <= 9223372036854775807) : Sames 56 w (.slice a n c) (.slice b n d) := by
 intro W hW
 have HX : Hid (RdR W a rs) := h1.below hW
 have HY : Hid (RdR W b rs) := h2.below hW
 have HLs : Hid (rs.length = n) := hl
 clear h1 h2 hW hl
 go_enter Tryz.func56, Tryz.ntmps56
 go_wp2_with fail
 go_loopw [5] (fun y wr => ∃ k : Nat, k <= n /\ y = .int .i64 (k : Int) /\ Hid (Below W.heap.size W wr)) (fun y _ => n - (intOf y).toNat)
 case atStart => exact ⟨0, by omega, rfl, Below.refl _ _⟩
 case round =>
   obtain ⟨k, hk, rfl, HB⟩ := hrel
   by_cases hlt : k < n
   · have hlt' : (k : Int) < (n : Int) := by omega
     have hks : k < rs.length := by rw [HLs.out]; exact hlt
     obtain ⟨b1, o1, rfl, q1, x, rx, ok1⟩ := (HX.out.below HB.out).at k hks
     obtain ⟨b2, o2, rfl, q2, y, ry, ok2⟩ := (HY.out.below HB.out).at k hks
     obtain ⟨r, hr⟩ : ∃ r, r = rs[k] := ⟨_, rfl⟩
     rw [<- hr] at rx ry ok1 ok2
     have KL : ∀ V, Below wr.heap.size wr V -> Hid (Calls Tryz.prog 95 #[.agg (recCells x r).toArray, .agg (recCells y r).toArray] V fun e w' => e = .returned (.bool true) /\ Below V.heap.size V w') := fun V hb => samer45 x y r V (ok1.below hb) (ok2.below hb)
     clear hr ok1 ok2
     obtain ⟨⟨xa, xn, xc⟩, ⟨⟨xa1, xn1, xc1⟩, ⟨xa2, xn2, xc2⟩, ⟨xa3, xn3, xc3⟩, ⟨xa4, xn4, xc4⟩⟩⟩ := x
     obtain ⟨⟨ya, yn, yc⟩, ⟨⟨ya1, yn1, yc1⟩, ⟨ya2, yn2, yc2⟩, ⟨ya3, yn3, yc3⟩, ⟨ya4, yn4, yc4⟩⟩⟩ := y
     obtain ⟨ow, t, cl, tt, dd⟩ := r
     have KL' : ∀ V, Below wr.heap.size wr V -> Hid (Calls Tryz.prog 95 #[.agg #[.slice xa xn xc, .int .u16 (t : Int), .int .u16 (cl : Int), .int .u32 (tt : Int), .slice xa1 xn1 xc1, .slice xa2 xn2 xc2, .slice xa3 xn3 xc3, .slice xa4 xn4 xc4], .agg #[.slice ya yn yc, .int .u16 (t : Int), .int .u16 (cl : Int), .int .u32 (tt : Int), .slice ya1 yn1 yc1, .slice ya2 yn2 yc2, .slice ya3 yn3 yc3, .slice ya4 yn4 yc4]] V fun e w' => e = .returned (.bool true) /\ Below V.heap.size V w') := KL
     have KS : ∀ V, Below wr.heap.size wr V -> V.cell? ⟨b1, o1 + k * 8, none⟩ = some (.slice xa xn xc) /\ V.cell? ⟨b1, o1 + k * 8 + 1, none⟩ = some (.int .u16 (t : Int)) /\ V.cell? ⟨b1, o1 + k * 8 + 2, none⟩ = some (.int .u16 (cl : Int)) /\ V.cell? ⟨b1, o1 + k * 8 + 3, none⟩ = some (.int .u32 (tt : Int)) /\ V.cell? ⟨b1, o1 + k * 8 + 4, none⟩ = some (.slice xa1 xn1 xc1) /\ V.cell? ⟨b1, o1 + k * 8 + 5, none⟩ = some (.slice xa2 xn2 xc2) /\ V.cell? ⟨b1, o1 + k * 8 + 6, none⟩ = some (.slice xa3 xn3 xc3) /\ V.cell? ⟨b1, o1 + k * 8 + 7, none⟩ = some (.slice xa4 xn4 xc4) /\ V.cell? ⟨b2, o2 + k * 8, none⟩ = some (.slice ya yn yc) /\ V.cell? ⟨b2, o2 + k * 8 + 1, none⟩ = some (.int .u16 (t : Int)) /\ V.cell? ⟨b2, o2 + k * 8 + 2, none⟩ = some (.int .u16 (cl : Int)) /\ V.cell? ⟨b2, o2 + k * 8 + 3, none⟩ = some (.int .u32 (tt : Int)) /\ V.cell? ⟨b2, o2 + k * 8 + 4, none⟩ = some (.slice ya1 yn1 yc1) /\ V.cell? ⟨b2, o2 + k * 8 + 5, none⟩ = some (.slice ya2 yn2 yc2) /\ V.cell? ⟨b2, o2 + k * 8 + 6, none⟩ = some (.slice ya3 yn3 yc3) /\ V.cell? ⟨b2, o2 + k * 8 + 7, none⟩ = some (.slice ya4 yn4 yc4) := fun V hb => ⟨(hb.cell (p := ⟨_, _, none⟩) q1).trans (rx 0 (by omega)), (hb.cell (p := ⟨_, _, none⟩) q1).trans (rx 1 (by omega)), (hb.cell (p := ⟨_, _, none⟩) q1).trans (rx 2 (by omega)), (hb.cell (p := ⟨_, _, none⟩) q1).trans (rx 3 (by omega)), (hb.cell (p := ⟨_, _, none⟩) q1).trans (rx 4 (by omega)), (hb.cell (p := ⟨_, _, none⟩) q1).trans (rx 5 (by omega)), (hb.cell (p := ⟨_, _, none⟩) q1).trans (rx 6 (by omega)), (hb.cell (p := ⟨_, _, none⟩) q1).trans (rx 7 (by omega)), (hb.cell (p := ⟨_, _, none⟩) q2).trans (ry 0 (by omega)), (hb.cell (p := ⟨_, _, none⟩) q2).trans (ry 1 (by omega)), (hb.cell (p := ⟨_, _, none⟩) q2).trans (ry 2 (by omega)), (hb.cell (p := ⟨_, _, none⟩) q2).trans (ry 3 (by omega)), (hb.cell (p := ⟨_, _, none⟩) q2).trans (ry 4 (by omega)), (hb.cell (p := ⟨_, _, none⟩) q2).trans (ry 5 (by omega)), (hb.cell (p := ⟨_, _, none⟩) q2).trans (ry 6 (by omega)), (hb.cell (p := ⟨_, _, none⟩) q2).trans (ry 7 (by omega))⟩
     clear KL rx ry
     go_wp2_with fail
     go_region_held3 (fun V => V.cell? ⟨b1, o1 + k * 8, none⟩ = some (.slice xa xn xc) /\ V.cell? ⟨b1, o1 + k * 8 + 1, none⟩ = some (.int .u16 (t : Int)) /\ V.cell? ⟨b1, o1 + k * 8 + 2, none⟩ = some (.int .u16 (cl : Int)) /\ V.cell? ⟨b1, o1 + k * 8 + 3, none⟩ = some (.int .u32 (tt : Int)) /\ V.cell? ⟨b1, o1 + k * 8 + 4, none⟩ = some (.slice xa1 xn1 xc1) /\ V.cell? ⟨b1, o1 + k * 8 + 5, none⟩ = some (.slice xa2 xn2 xc2) /\ V.cell? ⟨b1, o1 + k * 8 + 6, none⟩ = some (.slice xa3 xn3 xc3) /\ V.cell? ⟨b1, o1 + k * 8 + 7, none⟩ = some (.slice xa4 xn4 xc4) /\ V.cell? ⟨b2, o2 + k * 8, none⟩ = some (.slice ya yn yc) /\ V.cell? ⟨b2, o2 + k * 8 + 1, none⟩ = some (.int .u16 (t : Int)) /\ V.cell? ⟨b2, o2 + k * 8 + 2, none⟩ = some (.int .u16 (cl : Int)) /\ V.cell? ⟨b2, o2 + k * 8 + 3, none⟩ = some (.int .u32 (tt : Int)) /\ V.cell? ⟨b2, o2 + k * 8 + 4, none⟩ = some (.slice ya1 yn1 yc1) /\ V.cell? ⟨b2, o2 + k * 8 + 5, none⟩ = some (.slice ya2 yn2 yc2) /\ V.cell? ⟨b2, o2 + k * 8 + 6, none⟩ = some (.slice ya3 yn3 yc3) /\ V.cell? ⟨b2, o2 + k * 8 + 7, none⟩ = some (.slice ya4 yn4 yc4)) (first | exact KS _ HBw8.out | exact KS _ (Below.refl wr.heap.size wr).drew | exact KS _ (Below.refl wr.heap.size wr) | exact KS _ HBw8.out.drew) (first
       | (go_at_call 95; refine Calls.mono (KL' _ ?hb).out ?_; (case hb => first | exact (Below.refl wr.heap.size wr).drew | exact Below.refl wr.heap.size wr); rintro e w8 ⟨rfl, Hw8⟩; have HBw8 : Hid (Below wr.heap.size wr w8) := by first | exact (Below.refl wr.heap.size wr).drew.trans Hw8 | exact Hw8)
       | fail)
     all_goals go_wp2
     all_goals exact ⟨⟨k + 1, by omega, by go_num, HB.out.trans (HBw8.out.mono HB.out.size)⟩, by simp [intOf]; omega⟩
   · obtain rfl : k = n := by omega
     go_wp2
     go_ret
     exact ⟨rfl, HB.out⟩
end Go.Proofs.YteplffhfeoephaaGreat
namespace Go.Proofs.YteplffhfeoephaaGreat
open Go.ChangeShapes Go.WideShapes Go.ChangeAt Go.RowKit
theorem put3 {w : World} {g : Nat} {a b c : Value} {t : TypeId} (h : w.heap[g]? = some (.cells #[a, b, c] t)) (x y z : Value) : (((w.setCell ⟨g, 0, none⟩ x).setCell ⟨g, 1, none⟩ y).setCell ⟨g, 2, none⟩ z).heap[g]? = some (.cells #[x, y, z] t) :=
 heap_set (heap_set (heap_set h 0 x) 1 y) 2 z
end Go.Proofs.YteplffhfeoephaaGreat
namespace Go.Proofs.YteplffhfeoephaaGreat
open Go.ChangeShapes Go.WideShapes Go.ChangeAt Go.RowKit
theorem put8 {w : World} {g : Nat} {v0 v1 v2 v3 v4 v5 v6 v7 : Value} {t : TypeId} (h : w.heap[g]? = some (.cells #[v0, v1, v2, v3, v4, v5, v6, v7] t)) (x0 x1 x2 x3 x4 x5 x6 x7 : Value) : ((((((((w.setCell ⟨g, 0, none⟩ x0).setCell ⟨g, 1, none⟩ x1).setCell ⟨g, 2, none⟩ x2).setCell ⟨g, 3, none⟩ x3).setCell ⟨g, 4, none⟩ x4).setCell ⟨g, 5, none⟩ x5).setCell ⟨g, 6, none⟩ x6).setCell ⟨g, 7, none⟩ x7).heap[g]? = some (.cells #[x0, x1, x2, x3, x4, x5, x6, x7] t) :=
 by
 have h0 : (w.setCell ⟨g, 0, none⟩ x0).heap[g]? = some (.cells #[x0, v1, v2, v3, v4, v5, v6, v7] t) := heap_set h 0 x0
 have h1 : ((w.setCell ⟨g, 0, none⟩ x0).setCell ⟨g, 1, none⟩ x1).heap[g]? = some (.cells #[x0, x1, v2, v3, v4, v5, v6, v7] t) := heap_set h0 1 x1
 have h2 : (((w.setCell ⟨g, 0, none⟩ x0).setCell ⟨g, 1, none⟩ x1).setCell ⟨g, 2, none⟩ x2).heap[g]? = some (.cells #[x0, x1, x2, v3, v4, v5, v6, v7] t) := heap_set h1 2 x2
 have h3 : ((((w.setCell ⟨g, 0, none⟩ x0).setCell ⟨g, 1, none⟩ x1).setCell ⟨g, 2, none⟩ x2).setCell ⟨g, 3, none⟩ x3).heap[g]? = some (.cells #[x0, x1, x2, x3, v4, v5, v6, v7] t) := heap_set h2 3 x3
 have h4 : (((((w.setCell ⟨g, 0, none⟩ x0).setCell ⟨g, 1, none⟩ x1).setCell ⟨g, 2, none⟩ x2).setCell ⟨g, 3, none⟩ x3).setCell ⟨g, 4, none⟩ x4).heap[g]? = some (.cells #[x0, x1, x2, x3, x4, v5, v6, v7] t) := heap_set h3 4 x4
 have h5 : ((((((w.setCell ⟨g, 0, none⟩ x0).setCell ⟨g, 1, none⟩ x1).setCell ⟨g, 2, none⟩ x2).setCell ⟨g, 3, none⟩ x3).setCell ⟨g, 4, none⟩ x4).setCell ⟨g, 5, none⟩ x5).heap[g]? = some (.cells #[x0, x1, x2, x3, x4, x5, v6, v7] t) := heap_set h4 5 x5
 have h6 : (((((((w.setCell ⟨g, 0, none⟩ x0).setCell ⟨g, 1, none⟩ x1).setCell ⟨g, 2, none⟩ x2).setCell ⟨g, 3, none⟩ x3).setCell ⟨g, 4, none⟩ x4).setCell ⟨g, 5, none⟩ x5).setCell ⟨g, 6, none⟩ x6).heap[g]? = some (.cells #[x0, x1, x2, x3, x4, x5, x6, v7] t) := heap_set h5 6 x6
 have h7 : ((((((((w.setCell ⟨g, 0, none⟩ x0).setCell ⟨g, 1, none⟩ x1).setCell ⟨g, 2, none⟩ x2).setCell ⟨g, 3, none⟩ x3).setCell ⟨g, 4, none⟩ x4).setCell ⟨g, 5, none⟩ x5).setCell ⟨g, 6, none⟩ x6).setCell ⟨g, 7, none⟩ x7).heap[g]? = some (.cells #[x0, x1, x2, x3, x4, x5, x6, x7] t) := heap_set h6 7 x7
 exact h7
end Go.Proofs.YteplffhfeoephaaGreat
namespace Go.Proofs.YteplffhfeoephaaGreat
open Go.ChangeShapes Go.WideShapes Go.ChangeAt Go.RowKit Go.Maps
theorem gqn_k (zs : List Int) (p : Nat) : gqn zs p = (gnm zs p).bind fun o => (gkind zs o.2).map fun k => (⟨o.1, k.1.1, k.1.2⟩, k.2) := by
 unfold gqn gkind
 cases gnm zs p with
 | none => rfl
 | some o =>
   simp only [Option.bind_some]
   cases g16 zs o.2 with
   | none => rfl
   | some t =>
     simp only [Option.bind_some]
     cases g16 zs t.2 <;> rfl
theorem grec_k (zs : List Int) (p : Nat) : grec zs p = (gnm zs p).bind fun o => (gkind zs o.2).bind fun k => (g32 zs k.2).bind fun l => (g16 zs l.2).bind fun s => (gdat k.1.1 s.1 zs s.2).map fun d => (⟨o.1, k.1.1, k.1.2, l.1, d.1⟩, d.2) := by
 unfold grec gkind
 cases gnm zs p with
 | none => rfl
 | some o =>
   simp only [Option.bind_some]
   cases g16 zs o.2 with
   | none => rfl
   | some t =>
     simp only [Option.bind_some]
     cases g16 zs t.2 <;> rfl
theorem Owx1.go {B r : Nat} {w w' : World} {s : Sl} {nm : List ByteArray} (h : Owx1 B w s nm) (hg : w.grownBy w' (some r)) (hr : r < B) : Owx1 B w' s nm := h.kept hg hr
def RqP (r b o n c : Nat) (zs : List Int) (w : World) (x : Qn × Nat) (e : Ending) (w' : World) : Prop := ∃ s : Sl, e = .returned (.agg #[.slice s.a s.n s.c, .int .u16 x.1.ty, .int .u16 x.1.cl]) /\ Hid (Rdr w' r (some ⟨b, o, none⟩) n c zs x.2 /\ Owx1 w.heap.size w' s x.1.nm /\ w.grownBy w' (some r))
theorem Rdr.blt {w : World} {r b o n c p : Nat} {zs : List Int} (h : Rdr w r (some ⟨b, o, none⟩) n c zs p) (h1 : 1 <= n) : b < w.heap.size := by
 rcases h.rd.1 with h0 | ⟨b', o', e', hb', _⟩
 · have := h.len; rw [h0] at this; simp at this; omega
 · cases e'; exact hb'
theorem Rdr.far {w w' : World} {r b o n c p R : Nat} {zs : List Int} (h : Rdr w r (some ⟨b, o, none⟩) n c zs p) (h1 : 1 <= n) (hg : w.grownBy w' (some R)) (hr : r < R) (hb : b < R) : Rdr w' r (some ⟨b, o, none⟩) n c zs p :=
 h.app hg hb hr (box_lt h.box) (h.blt h1) (fun j e => by injection e with e; omega)
theorem grown_put3 (w : World) (g : Nat) (x y z : Value) : w.grownBy (((w.setCell ⟨g, 0, none⟩ x).setCell ⟨g, 1, none⟩ y).setCell ⟨g, 2, none⟩ z) (some g) :=
 grown_trans (grown_trans (grown_set w g 0 _) (grown_set _ g 1 _)) (grown_set _ g 2 _)
set_option maxHeartbeats 1000000 in
theorem rqn_yes (r b o n c : Nat) (zs : List Int) (p : Nat) (x : Qn × Nat) (w : World) (h : Rdr w r (some ⟨b, o, none⟩) n c zs p) (h1 : 1 <= n) (hx : gqn zs p = some x) :
   Calls Tryz.prog 100 #[.pointer (some ⟨r, 0, none⟩)] w (RqP r b o n c zs w x) := by
 rw [gqn_k] at hx
 simp only [Option.bind_eq_some_iff, Option.map_eq_some_iff] at hx
 obtain ⟨nn, ho, k, hk, rfl⟩ := hx
 have K1 : Hid (∀ W, Rdr W r (some ⟨b, o, none⟩) n c zs p -> Calls Tryz.prog 136 #[.pointer (some ⟨r, 0, none⟩)] W fun e w' => ∃ s : Sl, e = .returned (.slice s.a s.n s.c) /\ Hid (Rdr w' r (some ⟨b, o, none⟩) n c zs nn.2 /\ Owx1 W.heap.size w' s nn.1 /\ W.grownBy w' (some r))) := fun W hW => rnm_yes r (some ⟨b, o, none⟩) n c zs p nn W hW ho
 have K2 : Hid (∀ W, Rdr W r (some ⟨b, o, none⟩) n c zs nn.2 -> Calls Tryz.prog 137 #[.pointer (some ⟨r, 0, none⟩)] W fun e w' => e = .returned (.tuple #[.int .u16 k.1.1, .int .u16 k.1.2]) /\ Hid (Rdr w' r (some ⟨b, o, none⟩) n c zs k.2 /\ W.grownBy w' (some r))) := fun W hW => rkind_yes r (some ⟨b, o, none⟩) n c zs nn.2 k W hW hk
 have hrw := box_lt h.box
 have hbw := h.blt h1
 obtain ⟨n1, n2⟩ := nn
 obtain ⟨⟨k1, k2⟩, k3⟩ := k
 simp only at K1 K2
 have hb0 : Below w.heap.size w (w.alloc (.cells #[.slice none 0 0, .int .u16 0, .int .u16 0] 64)) := newq_below _ _
 have HR0 := Lib.hid (h.below hb0)
 have HD0 : Hid ((w.alloc (.cells #[.slice none 0 0, .int .u16 0, .int .u16 0] 64)).heap[w.heap.size]? = some (.cells #[.slice none 0 0, .int .u16 0, .int .u16 0] 64)) := heap_alloc_new _ _
 have HB0 := Lib.hid hb0
 obtain ⟨R, hR⟩ : ∃ R, R = w.heap.size := ⟨_, rfl⟩
 have HRR := Lib.hid hR
 rw [<- hR] at HD0 hrw hbw
 clear h ho hk hb0
 go_enter Tryz.func100, Tryz.ntmps100
 go_wp2_with fail
 simp only [<- hR]
 generalize w.alloc (.cells #[.slice none 0 0, .int .u16 0, .int .u16 0] 64) = w0 at *
 clear hR
 refine (K1.out w0 HR0.out).mono ?_
 rintro e1 w1 ⟨s1, rfl, H1⟩
 go_wp2_with fail
 refine (K2.out w1 H1.out.1).mono ?_
 rintro e2 w2 ⟨rfl, H2⟩
 have HG2 : Hid (w0.grownBy w2 (some r)) := grown_trans H1.out.2.2 H2.out.2
 have HD2 : Hid (w2.heap[R]? = some (.cells #[.slice none 0 0, .int .u16 0, .int .u16 0] 64)) := (HG2.out.block R (box_lt HD0.out) (fun e => by injection e with e; omega)).trans HD0.out
 have HO2 : Hid (Owx1 w0.heap.size w2 s1 n1) := H1.out.2.1.go H2.out.2 (by have := box_lt HD0.out; omega)
 have HR2 := Lib.hid H2.out.1
 have HL0 := Lib.hid (box_lt HD0.out)
 clear H1 H2 HD0 HR0 K1 K2
 have z0 : w2.cell? ⟨R, 0, none⟩ = some (.slice none 0 0) := box_cell HD2.out 0 _ rfl
 have z1 : w2.cell? ⟨R, 1, none⟩ = some (.int .u16 0) := box_cell HD2.out 1 _ rfl
 have z2 : w2.cell? ⟨R, 2, none⟩ = some (.int .u16 0) := box_cell HD2.out 2 _ rfl
 have f0 := box_frozen HD2.out 0
 have f1 := box_frozen HD2.out 1
 have f2 := box_frozen HD2.out 2
 have hlt := box_lt HD2.out
 go_wp2_with fail
 have z8 : Hid ((((w2.setCell ⟨R, 0, none⟩ (.slice s1.a s1.n s1.c)).setCell ⟨R, 1, none⟩ (.int .u16 (k1 : Int))).setCell ⟨R, 2, none⟩ (.int .u16 (k2 : Int))).heap[R]? = some (.cells #[.slice s1.a s1.n s1.c, .int .u16 (k1 : Int), .int .u16 (k2 : Int)] 64)) := put3 HD2.out _ _ _
 have hg8 : w2.grownBy (((w2.setCell ⟨R, 0, none⟩ (.slice s1.a s1.n s1.c)).setCell ⟨R, 1, none⟩ (.int .u16 (k1 : Int))).setCell ⟨R, 2, none⟩ (.int .u16 (k2 : Int))) (some R) := grown_put3 _ _ _ _ _
 have HG8 := Lib.hid hg8
 clear hg8 z0 z1 z2 f0 f1 f2 hlt
 generalize (((w2.setCell ⟨R, 0, none⟩ (.slice s1.a s1.n s1.c)).setCell ⟨R, 1, none⟩ (.int .u16 (k1 : Int))).setCell ⟨R, 2, none⟩ (.int .u16 (k2 : Int))) = w8 at *
 have y0 := box_cell z8.out 0 _ rfl
 have y1 := box_cell z8.out 1 _ rfl
 have y2 := box_cell z8.out 2 _ rfl
 refine bodyPost_ret (v := .agg #[.slice s1.a s1.n s1.c, .int .u16 (k1 : Int), .int .u16 (k2 : Int)]) (by simp [results, Tryz.results100, go_sem, y0, y1, y2]) rfl ⟨s1, rfl, HR2.out.far h1 HG8.out hrw hbw, ?_, ?_⟩
 · exact (HO2.out.keep fun j h1 h2 h3 => HG8.out.block j (by omega) (fun e => by injection e with e; have := HL0.out; omega)).mono HB0.out.size
 · exact grown_apx (grown_trans (grown_of HB0.out) HG2.out) HG8.out (fun j e => by injection e with e; rw [<- e, HRR.out]; exact Nat.le_refl _)
set_option maxHeartbeats 1000000 in
theorem rqn_no (r : Nat) (a : Option Addr) (n c : Nat) (zs : List Int) (p : Nat) (w : World) (h : Rdr w r a n c zs p) (hx : gqn zs p = none) :
   Calls Tryz.prog 100 #[.pointer (some ⟨r, 0, none⟩)] w fun e w' => e = .panicked thrown /\ Hid (w.grownBy w' (some r)) := by
 rw [gqn_k] at hx
 have hb0 : Below w.heap.size w (w.alloc (.cells #[.slice none 0 0, .int .u16 0, .int .u16 0] 64)) := newq_below _ _
 have HR0 := Lib.hid (h.below hb0)
 have HB0 := Lib.hid hb0
 cases ho : gnm zs p with
 | none =>
   have K1 := Lib.hid (rnm_no r a n c zs p _ HR0.out ho)
   clear h hx hb0
   go_enter Tryz.func100, Tryz.ntmps100
   go_wp2_with fail
   refine K1.out.mono ?_
   rintro e w1 ⟨rfl, H1⟩
   go_wp2
   exact ⟨rfl, rfl, grown_trans (grown_of HB0.out) H1.out⟩
 | some nn =>
   rw [ho] at hx
   simp only [Option.bind_some, Option.map_eq_none_iff] at hx
   have K1 := Lib.hid (rnm_yes r a n c zs p nn _ HR0.out ho)
   have K2 : Hid (∀ W, Rdr W r a n c zs nn.2 -> Calls Tryz.prog 137 #[.pointer (some ⟨r, 0, none⟩)] W fun e w' => e = .panicked thrown /\ Hid (W.grownBy w' (some r))) := fun W hW => rkind_no r a n c zs nn.2 W hW hx
   clear h hx hb0 ho
   go_enter Tryz.func100, Tryz.ntmps100
   go_wp2_with fail
   refine K1.out.mono ?_
   rintro e w1 ⟨s1, rfl, H1⟩
   go_wp2_with fail
   refine (K2.out w1 H1.out.1).mono ?_
   rintro e w2 ⟨rfl, H2⟩
   go_wp2
   exact ⟨rfl, rfl, grown_trans (grown_of HB0.out) (grown_trans H1.out.2.2 H2.out)⟩
end Go.Proofs.YteplffhfeoephaaGreat
namespace Go.Proofs.YteplffhfeoephaaGreat
open Go.ChangeShapes Go.WideShapes Go.ChangeAt Go.RowKit Go.Maps
def RrP (r b o n c : Nat) (zs : List Int) (w : World) (x : Rec × Nat) (e : Ending) (w' : World) : Prop := ∃ y : RA, e = .returned (.agg #[.slice y.o.a y.o.n y.o.c, .int .u16 x.1.t, .int .u16 x.1.cl, .int .u32 x.1.tt, .slice y.d.p1.a y.d.p1.n y.d.p1.c, .slice y.d.p2.a y.d.p2.n y.d.p2.c, .slice y.d.p3.a y.d.p3.n y.d.p3.c, .slice y.d.p4.a y.d.p4.n y.d.p4.c]) /\ Hid (Rdr w' r (some ⟨b, o, none⟩) n c zs x.2 /\ Owx1 w.heap.size w' y.o x.1.ow /\ DOwx w.heap.size w' y.d x.1.d /\ w.grownBy w' (some r))
theorem grown_put8 (w : World) (g : Nat) (x0 x1 x2 x3 x4 x5 x6 x7 : Value) : w.grownBy ((((((((w.setCell ⟨g, 0, none⟩ x0).setCell ⟨g, 1, none⟩ x1).setCell ⟨g, 2, none⟩ x2).setCell ⟨g, 3, none⟩ x3).setCell ⟨g, 4, none⟩ x4).setCell ⟨g, 5, none⟩ x5).setCell ⟨g, 6, none⟩ x6).setCell ⟨g, 7, none⟩ x7) (some g) :=
 grown_trans (grown_trans (grown_trans (grown_trans (grown_trans (grown_trans (grown_trans (grown_set w g 0 _) (grown_set _ g 1 _)) (grown_set _ g 2 _)) (grown_set _ g 3 _)) (grown_set _ g 4 _)) (grown_set _ g 5 _)) (grown_set _ g 6 _)) (grown_set _ g 7 _)
set_option maxHeartbeats 2000000 in
theorem rrec_yes (r b o n c : Nat) (zs : List Int) (p : Nat) (x : Rec × Nat) (w : World) (h : Rdr w r (some ⟨b, o, none⟩) n c zs p) (h1 : 1 <= n) (hx : grec zs p = some x) :
   Calls Tryz.prog 101 #[.pointer (some ⟨r, 0, none⟩)] w (RrP r b o n c zs w x) := by
 rw [grec_k] at hx
 simp only [Option.bind_eq_some_iff, Option.map_eq_some_iff] at hx
 obtain ⟨nn, ho, k, hk, l, hll, s, hs, d, hd, rfl⟩ := hx
 have hsb := g16_bd h.rd.2 hs
 have K1 : Hid (∀ W, Rdr W r (some ⟨b, o, none⟩) n c zs p -> Calls Tryz.prog 136 #[.pointer (some ⟨r, 0, none⟩)] W fun e w' => ∃ s : Sl, e = .returned (.slice s.a s.n s.c) /\ Hid (Rdr w' r (some ⟨b, o, none⟩) n c zs nn.2 /\ Owx1 W.heap.size w' s nn.1 /\ W.grownBy w' (some r))) := fun W hW => rnm_yes r (some ⟨b, o, none⟩) n c zs p nn W hW ho
 have K2 : Hid (∀ W, Rdr W r (some ⟨b, o, none⟩) n c zs nn.2 -> Calls Tryz.prog 137 #[.pointer (some ⟨r, 0, none⟩)] W fun e w' => e = .returned (.tuple #[.int .u16 k.1.1, .int .u16 k.1.2]) /\ Hid (Rdr w' r (some ⟨b, o, none⟩) n c zs k.2 /\ W.grownBy w' (some r))) := fun W hW => rkind_yes r (some ⟨b, o, none⟩) n c zs nn.2 k W hW hk
 have K3 : Hid (∀ W, Rdr W r (some ⟨b, o, none⟩) n c zs k.2 -> Calls Tryz.prog 138 #[.pointer (some ⟨r, 0, none⟩)] W fun e w' => e = .returned (.int .u32 l.1) /\ Hid (Rdr w' r (some ⟨b, o, none⟩) n c zs l.2 /\ W.grownBy w' (some r))) := fun W hW => r32_yes r (some ⟨b, o, none⟩) n c zs k.2 l W hW hll
 have K4 : Hid (∀ W, Rdr W r (some ⟨b, o, none⟩) n c zs l.2 -> Calls Tryz.prog 140 #[.pointer (some ⟨r, 0, none⟩)] W fun e w' => e = .returned (.int .i64 s.1) /\ Hid (Rdr w' r (some ⟨b, o, none⟩) n c zs s.2 /\ W.grownBy w' (some r))) := fun W hW => r16_yes r (some ⟨b, o, none⟩) n c zs l.2 s W hW hs
 have K5 : Hid (∀ W, Rdr W r (some ⟨b, o, none⟩) n c zs s.2 -> Calls Tryz.prog 139 #[.pointer (some ⟨r, 0, none⟩), .int .u16 k.1.1, .int .i64 s.1] W (RdDP r b o n c zs W d)) := fun W hW => rdata_yes r b o n c zs s.2 k.1.1 s.1 d W hW h1 hsb hd
 have hrw := box_lt h.box
 have hbw := h.blt h1
 obtain ⟨n1, n2⟩ := nn
 obtain ⟨⟨k1, k2⟩, k3⟩ := k
 obtain ⟨l1, l2⟩ := l
 obtain ⟨s1, s2⟩ := s
 obtain ⟨d1, d2⟩ := d
 simp only at K1 K2 K3 K4 K5
 have hb0 : Below w.heap.size w (w.alloc (.cells #[.slice none 0 0, .int .u16 0, .int .u16 0, .int .u32 0, .slice none 0 0, .slice none 0 0, .slice none 0 0, .slice none 0 0] 61)) := newq_below _ _
 have HR0 := Lib.hid (h.below hb0)
 have HD0 : Hid ((w.alloc (.cells #[.slice none 0 0, .int .u16 0, .int .u16 0, .int .u32 0, .slice none 0 0, .slice none 0 0, .slice none 0 0, .slice none 0 0] 61)).heap[w.heap.size]? = some (.cells #[.slice none 0 0, .int .u16 0, .int .u16 0, .int .u32 0, .slice none 0 0, .slice none 0 0, .slice none 0 0, .slice none 0 0] 61)) := heap_alloc_new _ _
 have HB0 := Lib.hid hb0
 obtain ⟨R, hR⟩ : ∃ R, R = w.heap.size := ⟨_, rfl⟩
 have HRR := Lib.hid hR
 rw [<- hR] at HD0 hrw hbw
 clear h ho hk hb0 hll hs hd
 go_enter Tryz.func101, Tryz.ntmps101
 go_wp2_with fail
 simp only [<- hR]
 generalize w.alloc (.cells #[.slice none 0 0, .int .u16 0, .int .u16 0, .int .u32 0, .slice none 0 0, .slice none 0 0, .slice none 0 0, .slice none 0 0] 61) = w0 at *
 clear hR
 refine (K1.out w0 HR0.out).mono ?_
 rintro e1 w1 ⟨s1', rfl, H1⟩
 go_wp2_with fail
 refine (K2.out w1 H1.out.1).mono ?_
 rintro e2 w2 ⟨rfl, H2⟩
 go_wp2_with fail
 refine (K3.out w2 H2.out.1).mono ?_
 rintro e3 w3 ⟨rfl, H3⟩
 have HG3 : Hid (w0.grownBy w3 (some r)) := grown_trans (grown_trans H1.out.2.2 H2.out.2) H3.out.2
 have HL0 := Lib.hid (box_lt HD0.out)
 have hrw0 : r < w0.heap.size := by have := HL0.out; omega
 have HO3 : Hid (Owx1 w0.heap.size w3 s1' n1) := (H1.out.2.1.go H2.out.2 hrw0).go H3.out.2 hrw0
 have HR3 := Lib.hid H3.out.1
 clear H1 H2 H3 K1 K2 K3 HR0
 go_wp2_with fail
 refine (K4.out w3 HR3.out).mono ?_
 rintro e4 w4 ⟨rfl, H4⟩
 go_wp2_with fail
 refine (K5.out w4 H4.out.1).mono ?_
 rintro e5 w5 ⟨y5, rfl, H5⟩
 have HG5 : Hid (w0.grownBy w5 (some r)) := grown_trans HG3.out (grown_trans H4.out.2 H5.out.2.2)
 have HD5 : Hid (w5.heap[R]? = some (.cells #[.slice none 0 0, .int .u16 0, .int .u16 0, .int .u32 0, .slice none 0 0, .slice none 0 0, .slice none 0 0, .slice none 0 0] 61)) := (HG5.out.block R HL0.out (fun e => by injection e with e; omega)).trans HD0.out
 have HO5 : Hid (Owx1 w0.heap.size w5 s1' n1) := (HO3.out.go H4.out.2 hrw0).go H5.out.2.2 hrw0
 have HX5 : Hid (DOwx w0.heap.size w5 y5 d1) := H5.out.2.1.mono (Nat.le_trans HG3.out.size H4.out.2.size)
 have HR5 := Lib.hid H5.out.1
 clear H4 H5 K4 K5 HR3 HO3 HG3 HD0
 have z0 := box_cell HD5.out 0 _ rfl
 have z1 := box_cell HD5.out 1 _ rfl
 have z2 := box_cell HD5.out 2 _ rfl
 have z3 := box_cell HD5.out 3 _ rfl
 have z4 := box_cell HD5.out 4 _ rfl
 have z5 := box_cell HD5.out 5 _ rfl
 have z6 := box_cell HD5.out 6 _ rfl
 have z7 := box_cell HD5.out 7 _ rfl
 have f0 := box_frozen HD5.out 0
 have f1 := box_frozen HD5.out 1
 have f2 := box_frozen HD5.out 2
 have f3 := box_frozen HD5.out 3
 have f4 := box_frozen HD5.out 4
 have f5 := box_frozen HD5.out 5
 have f6 := box_frozen HD5.out 6
 have f7 := box_frozen HD5.out 7
 have hlt := box_lt HD5.out
 obtain ⟨⟨u1, v1, x1⟩, ⟨u2, v2, x2⟩, ⟨u3, v3, x3⟩, ⟨u4, v4, x4⟩⟩ := y5
 obtain ⟨sa, sn, sc⟩ := s1'
 simp only
 go_wp2_with fail
 have z8 := Lib.hid (put8 HD5.out (.slice sa sn sc) (.int .u16 (k1 : Int)) (.int .u16 (k2 : Int)) (.int .u32 (l1 : Int)) (.slice u1 v1 x1) (.slice u2 v2 x2) (.slice u3 v3 x3) (.slice u4 v4 x4))
 have HG8 := Lib.hid (grown_put8 w5 R (.slice sa sn sc) (.int .u16 (k1 : Int)) (.int .u16 (k2 : Int)) (.int .u32 (l1 : Int)) (.slice u1 v1 x1) (.slice u2 v2 x2) (.slice u3 v3 x3) (.slice u4 v4 x4))
 clear z0 z1 z2 z3 z4 z5 z6 z7 f0 f1 f2 f3 f4 f5 f6 f7 hlt
 generalize ((((((((w5.setCell ⟨R, 0, none⟩ (.slice sa sn sc)).setCell ⟨R, 1, none⟩ (.int .u16 (k1 : Int))).setCell ⟨R, 2, none⟩ (.int .u16 (k2 : Int))).setCell ⟨R, 3, none⟩ (.int .u32 (l1 : Int))).setCell ⟨R, 4, none⟩ (.slice u1 v1 x1)).setCell ⟨R, 5, none⟩ (.slice u2 v2 x2)).setCell ⟨R, 6, none⟩ (.slice u3 v3 x3)).setCell ⟨R, 7, none⟩ (.slice u4 v4 x4)) = w8 at *
 have y0 := box_cell z8.out 0 _ rfl
 have y1 := box_cell z8.out 1 _ rfl
 have y2 := box_cell z8.out 2 _ rfl
 have y3 := box_cell z8.out 3 _ rfl
 have y4 := box_cell z8.out 4 _ rfl
 have y5 := box_cell z8.out 5 _ rfl
 have y6 := box_cell z8.out 6 _ rfl
 have y7 := box_cell z8.out 7 _ rfl
 refine bodyPost_ret (v := .agg #[.slice sa sn sc, .int .u16 (k1 : Int), .int .u16 (k2 : Int), .int .u32 (l1 : Int), .slice u1 v1 x1, .slice u2 v2 x2, .slice u3 v3 x3, .slice u4 v4 x4]) (by simp [results, Tryz.results101, go_sem, y0, y1, y2, y3, y4, y5, y6, y7]) rfl ⟨⟨⟨sa, sn, sc⟩, ⟨⟨u1, v1, x1⟩, ⟨u2, v2, x2⟩, ⟨u3, v3, x3⟩, ⟨u4, v4, x4⟩⟩⟩, rfl, HR5.out.far h1 HG8.out hrw hbw, ?_, ?_, ?_⟩
 · exact (HO5.out.keep fun j h1 h2 h3 => HG8.out.block j (by omega) (fun e => by injection e with e; have := HL0.out; omega)).mono HB0.out.size
 · exact (HX5.out.keep fun j h1 h2 => HG8.out.block j (by omega) (fun e => by injection e with e; have := HL0.out; omega)).mono HB0.out.size
 · exact grown_apx (grown_trans (grown_of HB0.out) HG5.out) HG8.out (fun j e => by injection e with e; rw [<- e, HRR.out]; exact Nat.le_refl _)
end Go.Proofs.YteplffhfeoephaaGreat
namespace Go.Proofs.YteplffhfeoephaaGreat
open Go.ChangeShapes Go.WideShapes Go.ChangeAt Go.RowKit Go.Maps
set_option maxHeartbeats 2000000 in
theorem rrec_no0 (r b o n c : Nat) (zs : List Int) (p : Nat) (w : World) (h : Rdr w r (some ⟨b, o, none⟩) n c zs p) (h1 : 1 <= n) (h_nn : gnm zs p = none) :
   Calls Tryz.prog 101 #[.pointer (some ⟨r, 0, none⟩)] w fun e w' => e = .panicked thrown /\ Hid (w.grownBy w' (some r)) := by
 have K0 : Hid (∀ W, Rdr W r (some ⟨b, o, none⟩) n c zs p -> Calls Tryz.prog 136 #[.pointer (some ⟨r, 0, none⟩)] W fun e w' => e = .panicked thrown /\ Hid (W.grownBy w' (some r))) := fun W hW => rnm_no r (some ⟨b, o, none⟩) n c zs p W hW h_nn
 have hb0 : Below w.heap.size w (w.alloc (.cells #[.slice none 0 0, .int .u16 0, .int .u16 0, .int .u32 0, .slice none 0 0, .slice none 0 0, .slice none 0 0, .slice none 0 0] 61)) := newq_below _ _
 have HR0 := Lib.hid (h.below hb0)
 have HB0 := Lib.hid hb0
 clear h hb0 h_nn
 go_enter Tryz.func101, Tryz.ntmps101
 go_wp2_with fail
 generalize w.alloc (.cells #[.slice none 0 0, .int .u16 0, .int .u16 0, .int .u32 0, .slice none 0 0, .slice none 0 0, .slice none 0 0, .slice none 0 0] 61) = w0 at *
 refine (K0.out w0 HR0.out).mono ?_
 rintro e1 w1 ⟨rfl, H0⟩
 go_wp2
 exact ⟨rfl, rfl, grown_trans (grown_of HB0.out) H0.out⟩
set_option maxHeartbeats 2000000 in
theorem rrec_no1 (r b o n c : Nat) (zs : List Int) (p : Nat) (w : World) (h : Rdr w r (some ⟨b, o, none⟩) n c zs p) (h1 : 1 <= n) (nn : List ByteArray × Nat) (h_nn : gnm zs p = some nn) (h_k : gkind zs nn.2 = none) :
   Calls Tryz.prog 101 #[.pointer (some ⟨r, 0, none⟩)] w fun e w' => e = .panicked thrown /\ Hid (w.grownBy w' (some r)) := by
 have K0 : Hid (∀ W, Rdr W r (some ⟨b, o, none⟩) n c zs p -> Calls Tryz.prog 136 #[.pointer (some ⟨r, 0, none⟩)] W fun e w' => ∃ s : Sl, e = .returned (.slice s.a s.n s.c) /\ Hid (Rdr w' r (some ⟨b, o, none⟩) n c zs nn.2 /\ Owx1 W.heap.size w' s nn.1 /\ W.grownBy w' (some r))) := fun W hW => rnm_yes r (some ⟨b, o, none⟩) n c zs p nn W hW h_nn
 have K1 : Hid (∀ W, Rdr W r (some ⟨b, o, none⟩) n c zs nn.2 -> Calls Tryz.prog 137 #[.pointer (some ⟨r, 0, none⟩)] W fun e w' => e = .panicked thrown /\ Hid (W.grownBy w' (some r))) := fun W hW => rkind_no r (some ⟨b, o, none⟩) n c zs nn.2 W hW h_k
 have hb0 : Below w.heap.size w (w.alloc (.cells #[.slice none 0 0, .int .u16 0, .int .u16 0, .int .u32 0, .slice none 0 0, .slice none 0 0, .slice none 0 0, .slice none 0 0] 61)) := newq_below _ _
 have HR0 := Lib.hid (h.below hb0)
 have HB0 := Lib.hid hb0
 clear h hb0 h_nn h_k
 go_enter Tryz.func101, Tryz.ntmps101
 go_wp2_with fail
 generalize w.alloc (.cells #[.slice none 0 0, .int .u16 0, .int .u16 0, .int .u32 0, .slice none 0 0, .slice none 0 0, .slice none 0 0, .slice none 0 0] 61) = w0 at *
 refine (K0.out w0 HR0.out).mono ?_
 rintro e1 w1 ⟨s0, rfl, H0⟩
 go_wp2_with fail
 refine (K1.out w1 H0.out.1).mono ?_
 rintro e2 w2 ⟨rfl, H1⟩
 go_wp2
 exact ⟨rfl, rfl, grown_trans (grown_trans (grown_of HB0.out) H0.out.2.2) H1.out⟩
set_option maxHeartbeats 2000000 in
theorem rrec_no2 (r b o n c : Nat) (zs : List Int) (p : Nat) (w : World) (h : Rdr w r (some ⟨b, o, none⟩) n c zs p) (h1 : 1 <= n) (nn : List ByteArray × Nat) (h_nn : gnm zs p = some nn) (k : (Nat × Nat) × Nat) (h_k : gkind zs nn.2 = some k) (h_l : g32 zs k.2 = none) :
   Calls Tryz.prog 101 #[.pointer (some ⟨r, 0, none⟩)] w fun e w' => e = .panicked thrown /\ Hid (w.grownBy w' (some r)) := by
 have K0 : Hid (∀ W, Rdr W r (some ⟨b, o, none⟩) n c zs p -> Calls Tryz.prog 136 #[.pointer (some ⟨r, 0, none⟩)] W fun e w' => ∃ s : Sl, e = .returned (.slice s.a s.n s.c) /\ Hid (Rdr w' r (some ⟨b, o, none⟩) n c zs nn.2 /\ Owx1 W.heap.size w' s nn.1 /\ W.grownBy w' (some r))) := fun W hW => rnm_yes r (some ⟨b, o, none⟩) n c zs p nn W hW h_nn
 have K1 : Hid (∀ W, Rdr W r (some ⟨b, o, none⟩) n c zs nn.2 -> Calls Tryz.prog 137 #[.pointer (some ⟨r, 0, none⟩)] W fun e w' => e = .returned (.tuple #[.int .u16 k.1.1, .int .u16 k.1.2]) /\ Hid (Rdr w' r (some ⟨b, o, none⟩) n c zs k.2 /\ W.grownBy w' (some r))) := fun W hW => rkind_yes r (some ⟨b, o, none⟩) n c zs nn.2 k W hW h_k
 have K2 : Hid (∀ W, Rdr W r (some ⟨b, o, none⟩) n c zs k.2 -> Calls Tryz.prog 138 #[.pointer (some ⟨r, 0, none⟩)] W fun e w' => e = .panicked thrown /\ Hid (W.grownBy w' (some r))) := fun W hW => r32_no r (some ⟨b, o, none⟩) n c zs k.2 W hW h_l
 have hb0 : Below w.heap.size w (w.alloc (.cells #[.slice none 0 0, .int .u16 0, .int .u16 0, .int .u32 0, .slice none 0 0, .slice none 0 0, .slice none 0 0, .slice none 0 0] 61)) := newq_below _ _
 have HR0 := Lib.hid (h.below hb0)
 have HB0 := Lib.hid hb0
 clear h hb0 h_nn h_k h_l
 go_enter Tryz.func101, Tryz.ntmps101
 go_wp2_with fail
 generalize w.alloc (.cells #[.slice none 0 0, .int .u16 0, .int .u16 0, .int .u32 0, .slice none 0 0, .slice none 0 0, .slice none 0 0, .slice none 0 0] 61) = w0 at *
 refine (K0.out w0 HR0.out).mono ?_
 rintro e1 w1 ⟨s0, rfl, H0⟩
 go_wp2_with fail
 refine (K1.out w1 H0.out.1).mono ?_
 rintro e2 w2 ⟨rfl, H1⟩
 go_wp2_with fail
 refine (K2.out w2 H1.out.1).mono ?_
 rintro e3 w3 ⟨rfl, H2⟩
 go_wp2
 exact ⟨rfl, rfl, grown_trans (grown_trans (grown_trans (grown_of HB0.out) H0.out.2.2) H1.out.2) H2.out⟩
set_option maxHeartbeats 2000000 in
theorem rrec_no3 (r b o n c : Nat) (zs : List Int) (p : Nat) (w : World) (h : Rdr w r (some ⟨b, o, none⟩) n c zs p) (h1 : 1 <= n) (nn : List ByteArray × Nat) (h_nn : gnm zs p = some nn) (k : (Nat × Nat) × Nat) (h_k : gkind zs nn.2 = some k) (l : Nat × Nat) (h_l : g32 zs k.2 = some l) (h_s : g16 zs l.2 = none) :
   Calls Tryz.prog 101 #[.pointer (some ⟨r, 0, none⟩)] w fun e w' => e = .panicked thrown /\ Hid (w.grownBy w' (some r)) := by
 have K0 : Hid (∀ W, Rdr W r (some ⟨b, o, none⟩) n c zs p -> Calls Tryz.prog 136 #[.pointer (some ⟨r, 0, none⟩)] W fun e w' => ∃ s : Sl, e = .returned (.slice s.a s.n s.c) /\ Hid (Rdr w' r (some ⟨b, o, none⟩) n c zs nn.2 /\ Owx1 W.heap.size w' s nn.1 /\ W.grownBy w' (some r))) := fun W hW => rnm_yes r (some ⟨b, o, none⟩) n c zs p nn W hW h_nn
 have K1 : Hid (∀ W, Rdr W r (some ⟨b, o, none⟩) n c zs nn.2 -> Calls Tryz.prog 137 #[.pointer (some ⟨r, 0, none⟩)] W fun e w' => e = .returned (.tuple #[.int .u16 k.1.1, .int .u16 k.1.2]) /\ Hid (Rdr w' r (some ⟨b, o, none⟩) n c zs k.2 /\ W.grownBy w' (some r))) := fun W hW => rkind_yes r (some ⟨b, o, none⟩) n c zs nn.2 k W hW h_k
 have K2 : Hid (∀ W, Rdr W r (some ⟨b, o, none⟩) n c zs k.2 -> Calls Tryz.prog 138 #[.pointer (some ⟨r, 0, none⟩)] W fun e w' => e = .returned (.int .u32 l.1) /\ Hid (Rdr w' r (some ⟨b, o, none⟩) n c zs l.2 /\ W.grownBy w' (some r))) := fun W hW => r32_yes r (some ⟨b, o, none⟩) n c zs k.2 l W hW h_l
 have K3 : Hid (∀ W, Rdr W r (some ⟨b, o, none⟩) n c zs l.2 -> Calls Tryz.prog 140 #[.pointer (some ⟨r, 0, none⟩)] W fun e w' => e = .panicked thrown /\ Hid (W.grownBy w' (some r))) := fun W hW => r16_no r (some ⟨b, o, none⟩) n c zs l.2 W hW h_s
 have hb0 : Below w.heap.size w (w.alloc (.cells #[.slice none 0 0, .int .u16 0, .int .u16 0, .int .u32 0, .slice none 0 0, .slice none 0 0, .slice none 0 0, .slice none 0 0] 61)) := newq_below _ _
 have HR0 := Lib.hid (h.below hb0)
 have HB0 := Lib.hid hb0
 clear h hb0 h_nn h_k h_l h_s
 go_enter Tryz.func101, Tryz.ntmps101
 go_wp2_with fail
 generalize w.alloc (.cells #[.slice none 0 0, .int .u16 0, .int .u16 0, .int .u32 0, .slice none 0 0, .slice none 0 0, .slice none 0 0, .slice none 0 0] 61) = w0 at *
 refine (K0.out w0 HR0.out).mono ?_
 rintro e1 w1 ⟨s0, rfl, H0⟩
 go_wp2_with fail
 refine (K1.out w1 H0.out.1).mono ?_
 rintro e2 w2 ⟨rfl, H1⟩
 go_wp2_with fail
 refine (K2.out w2 H1.out.1).mono ?_
 rintro e3 w3 ⟨rfl, H2⟩
 go_wp2_with fail
 refine (K3.out w3 H2.out.1).mono ?_
 rintro e4 w4 ⟨rfl, H3⟩
 go_wp2
 exact ⟨rfl, rfl, grown_trans (grown_trans (grown_trans (grown_trans (grown_of HB0.out) H0.out.2.2) H1.out.2) H2.out.2) H3.out⟩
set_option maxHeartbeats 2000000 in
theorem rrec_no4 (r b o n c : Nat) (zs : List Int) (p : Nat) (w : World) (h : Rdr w r (some ⟨b, o, none⟩) n c zs p) (h1 : 1 <= n) (nn : List ByteArray × Nat) (h_nn : gnm zs p = some nn) (k : (Nat × Nat) × Nat) (h_k : gkind zs nn.2 = some k) (l : Nat × Nat) (h_l : g32 zs k.2 = some l) (s : Nat × Nat) (h_s : g16 zs l.2 = some s) (h_d : gdat k.1.1 s.1 zs s.2 = none) :
   Calls Tryz.prog 101 #[.pointer (some ⟨r, 0, none⟩)] w fun e w' => e = .panicked thrown /\ Hid (w.grownBy w' (some r)) := by
 have hsb := g16_bd h.rd.2 h_s
 have K0 : Hid (∀ W, Rdr W r (some ⟨b, o, none⟩) n c zs p -> Calls Tryz.prog 136 #[.pointer (some ⟨r, 0, none⟩)] W fun e w' => ∃ s : Sl, e = .returned (.slice s.a s.n s.c) /\ Hid (Rdr w' r (some ⟨b, o, none⟩) n c zs nn.2 /\ Owx1 W.heap.size w' s nn.1 /\ W.grownBy w' (some r))) := fun W hW => rnm_yes r (some ⟨b, o, none⟩) n c zs p nn W hW h_nn
 have K1 : Hid (∀ W, Rdr W r (some ⟨b, o, none⟩) n c zs nn.2 -> Calls Tryz.prog 137 #[.pointer (some ⟨r, 0, none⟩)] W fun e w' => e = .returned (.tuple #[.int .u16 k.1.1, .int .u16 k.1.2]) /\ Hid (Rdr w' r (some ⟨b, o, none⟩) n c zs k.2 /\ W.grownBy w' (some r))) := fun W hW => rkind_yes r (some ⟨b, o, none⟩) n c zs nn.2 k W hW h_k
 have K2 : Hid (∀ W, Rdr W r (some ⟨b, o, none⟩) n c zs k.2 -> Calls Tryz.prog 138 #[.pointer (some ⟨r, 0, none⟩)] W fun e w' => e = .returned (.int .u32 l.1) /\ Hid (Rdr w' r (some ⟨b, o, none⟩) n c zs l.2 /\ W.grownBy w' (some r))) := fun W hW => r32_yes r (some ⟨b, o, none⟩) n c zs k.2 l W hW h_l
 have K3 : Hid (∀ W, Rdr W r (some ⟨b, o, none⟩) n c zs l.2 -> Calls Tryz.prog 140 #[.pointer (some ⟨r, 0, none⟩)] W fun e w' => e = .returned (.int .i64 s.1) /\ Hid (Rdr w' r (some ⟨b, o, none⟩) n c zs s.2 /\ W.grownBy w' (some r))) := fun W hW => r16_yes r (some ⟨b, o, none⟩) n c zs l.2 s W hW h_s
 have K4 : Hid (∀ W, Rdr W r (some ⟨b, o, none⟩) n c zs s.2 -> Calls Tryz.prog 139 #[.pointer (some ⟨r, 0, none⟩), .int .u16 k.1.1, .int .i64 s.1] W fun e w' => e = .panicked thrown /\ Hid (W.grownBy w' (some r))) := fun W hW => rdata_no r b o n c zs s.2 k.1.1 s.1 W hW h1 hsb h_d
 have hb0 : Below w.heap.size w (w.alloc (.cells #[.slice none 0 0, .int .u16 0, .int .u16 0, .int .u32 0, .slice none 0 0, .slice none 0 0, .slice none 0 0, .slice none 0 0] 61)) := newq_below _ _
 have HR0 := Lib.hid (h.below hb0)
 have HB0 := Lib.hid hb0
 clear h hb0 h_nn h_k h_l h_s h_d
 go_enter Tryz.func101, Tryz.ntmps101
 go_wp2_with fail
 generalize w.alloc (.cells #[.slice none 0 0, .int .u16 0, .int .u16 0, .int .u32 0, .slice none 0 0, .slice none 0 0, .slice none 0 0, .slice none 0 0] 61) = w0 at *
 refine (K0.out w0 HR0.out).mono ?_
 rintro e1 w1 ⟨s0, rfl, H0⟩
 go_wp2_with fail
 refine (K1.out w1 H0.out.1).mono ?_
 rintro e2 w2 ⟨rfl, H1⟩
 go_wp2_with fail
 refine (K2.out w2 H1.out.1).mono ?_
 rintro e3 w3 ⟨rfl, H2⟩
 go_wp2_with fail
 refine (K3.out w3 H2.out.1).mono ?_
 rintro e4 w4 ⟨rfl, H3⟩
 go_wp2_with fail
 refine (K4.out w4 H3.out.1).mono ?_
 rintro e5 w5 ⟨rfl, H4⟩
 go_wp2
 exact ⟨rfl, rfl, grown_trans (grown_trans (grown_trans (grown_trans (grown_trans (grown_of HB0.out) H0.out.2.2) H1.out.2) H2.out.2) H3.out.2) H4.out⟩
theorem rrec_no (r b o n c : Nat) (zs : List Int) (p : Nat) (w : World) (h : Rdr w r (some ⟨b, o, none⟩) n c zs p) (h1 : 1 <= n) (hx : grec zs p = none) :
   Calls Tryz.prog 101 #[.pointer (some ⟨r, 0, none⟩)] w fun e w' => e = .panicked thrown /\ Hid (w.grownBy w' (some r)) := by
 rw [grec_k] at hx
 cases h_nn : gnm zs p with
 | none => exact rrec_no0 r b o n c zs p w h h1 h_nn
 | some nn =>
   rw [h_nn] at hx
   simp only [Option.bind_some] at hx
   cases h_k : gkind zs nn.2 with
   | none => exact rrec_no1 r b o n c zs p w h h1 nn h_nn h_k
   | some k =>
     rw [h_k] at hx
     simp only [Option.bind_some] at hx
     cases h_l : g32 zs k.2 with
     | none => exact rrec_no2 r b o n c zs p w h h1 nn h_nn k h_k h_l
     | some l =>
       rw [h_l] at hx
       simp only [Option.bind_some] at hx
       cases h_s : g16 zs l.2 with
       | none => exact rrec_no3 r b o n c zs p w h h1 nn h_nn k h_k l h_l h_s
       | some s =>
         rw [h_s] at hx
         simp only [Option.bind_some, Option.map_eq_none_iff] at hx
         exact rrec_no4 r b o n c zs p w h h1 nn h_nn k h_k l h_l s h_s hx
end Go.Proofs.YteplffhfeoephaaGreat
namespace Go.Proofs.YteplffhfeoephaaGreat
open Go.ChangeShapes Go.WideShapes Go.ChangeAt Go.RowKit
theorem put14 {w : World} {g : Nat} {u0 u1 u2 u3 u4 u5 u6 u7 u8 u9 u10 u11 u12 u13 : Value} {t : TypeId} (h : w.heap[g]? = some (.cells #[u0, u1, u2, u3, u4, u5, u6, u7, u8, u9, u10, u11, u12, u13] t)) (x0 x1 x2 x3 x4 x5 x6 x7 x8 x9 x10 x11 x12 x13 : Value) : ((((((((((((((w.setCell ⟨g, 0, none⟩ x0).setCell ⟨g, 1, none⟩ x1).setCell ⟨g, 2, none⟩ x2).setCell ⟨g, 3, none⟩ x3).setCell ⟨g, 4, none⟩ x4).setCell ⟨g, 5, none⟩ x5).setCell ⟨g, 6, none⟩ x6).setCell ⟨g, 7, none⟩ x7).setCell ⟨g, 8, none⟩ x8).setCell ⟨g, 9, none⟩ x9).setCell ⟨g, 10, none⟩ x10).setCell ⟨g, 11, none⟩ x11).setCell ⟨g, 12, none⟩ x12).setCell ⟨g, 13, none⟩ x13).heap[g]? = some (.cells #[x0, x1, x2, x3, x4, x5, x6, x7, x8, x9, x10, x11, x12, x13] t) := by
 have h0 : (w.setCell ⟨g, 0, none⟩ x0).heap[g]? = some (.cells #[x0, u1, u2, u3, u4, u5, u6, u7, u8, u9, u10, u11, u12, u13] t) := heap_set h 0 x0
 have h1 : ((w.setCell ⟨g, 0, none⟩ x0).setCell ⟨g, 1, none⟩ x1).heap[g]? = some (.cells #[x0, x1, u2, u3, u4, u5, u6, u7, u8, u9, u10, u11, u12, u13] t) := heap_set h0 1 x1
 have h2 : (((w.setCell ⟨g, 0, none⟩ x0).setCell ⟨g, 1, none⟩ x1).setCell ⟨g, 2, none⟩ x2).heap[g]? = some (.cells #[x0, x1, x2, u3, u4, u5, u6, u7, u8, u9, u10, u11, u12, u13] t) := heap_set h1 2 x2
 have h3 : ((((w.setCell ⟨g, 0, none⟩ x0).setCell ⟨g, 1, none⟩ x1).setCell ⟨g, 2, none⟩ x2).setCell ⟨g, 3, none⟩ x3).heap[g]? = some (.cells #[x0, x1, x2, x3, u4, u5, u6, u7, u8, u9, u10, u11, u12, u13] t) := heap_set h2 3 x3
 have h4 : (((((w.setCell ⟨g, 0, none⟩ x0).setCell ⟨g, 1, none⟩ x1).setCell ⟨g, 2, none⟩ x2).setCell ⟨g, 3, none⟩ x3).setCell ⟨g, 4, none⟩ x4).heap[g]? = some (.cells #[x0, x1, x2, x3, x4, u5, u6, u7, u8, u9, u10, u11, u12, u13] t) := heap_set h3 4 x4
 have h5 : ((((((w.setCell ⟨g, 0, none⟩ x0).setCell ⟨g, 1, none⟩ x1).setCell ⟨g, 2, none⟩ x2).setCell ⟨g, 3, none⟩ x3).setCell ⟨g, 4, none⟩ x4).setCell ⟨g, 5, none⟩ x5).heap[g]? = some (.cells #[x0, x1, x2, x3, x4, x5, u6, u7, u8, u9, u10, u11, u12, u13] t) := heap_set h4 5 x5
 have h6 : (((((((w.setCell ⟨g, 0, none⟩ x0).setCell ⟨g, 1, none⟩ x1).setCell ⟨g, 2, none⟩ x2).setCell ⟨g, 3, none⟩ x3).setCell ⟨g, 4, none⟩ x4).setCell ⟨g, 5, none⟩ x5).setCell ⟨g, 6, none⟩ x6).heap[g]? = some (.cells #[x0, x1, x2, x3, x4, x5, x6, u7, u8, u9, u10, u11, u12, u13] t) := heap_set h5 6 x6
 have h7 : ((((((((w.setCell ⟨g, 0, none⟩ x0).setCell ⟨g, 1, none⟩ x1).setCell ⟨g, 2, none⟩ x2).setCell ⟨g, 3, none⟩ x3).setCell ⟨g, 4, none⟩ x4).setCell ⟨g, 5, none⟩ x5).setCell ⟨g, 6, none⟩ x6).setCell ⟨g, 7, none⟩ x7).heap[g]? = some (.cells #[x0, x1, x2, x3, x4, x5, x6, x7, u8, u9, u10, u11, u12, u13] t) := heap_set h6 7 x7
 have h8 : (((((((((w.setCell ⟨g, 0, none⟩ x0).setCell ⟨g, 1, none⟩ x1).setCell ⟨g, 2, none⟩ x2).setCell ⟨g, 3, none⟩ x3).setCell ⟨g, 4, none⟩ x4).setCell ⟨g, 5, none⟩ x5).setCell ⟨g, 6, none⟩ x6).setCell ⟨g, 7, none⟩ x7).setCell ⟨g, 8, none⟩ x8).heap[g]? = some (.cells #[x0, x1, x2, x3, x4, x5, x6, x7, x8, u9, u10, u11, u12, u13] t) := heap_set h7 8 x8
 have h9 : ((((((((((w.setCell ⟨g, 0, none⟩ x0).setCell ⟨g, 1, none⟩ x1).setCell ⟨g, 2, none⟩ x2).setCell ⟨g, 3, none⟩ x3).setCell ⟨g, 4, none⟩ x4).setCell ⟨g, 5, none⟩ x5).setCell ⟨g, 6, none⟩ x6).setCell ⟨g, 7, none⟩ x7).setCell ⟨g, 8, none⟩ x8).setCell ⟨g, 9, none⟩ x9).heap[g]? = some (.cells #[x0, x1, x2, x3, x4, x5, x6, x7, x8, x9, u10, u11, u12, u13] t) := heap_set h8 9 x9
 have h10 : (((((((((((w.setCell ⟨g, 0, none⟩ x0).setCell ⟨g, 1, none⟩ x1).setCell ⟨g, 2, none⟩ x2).setCell ⟨g, 3, none⟩ x3).setCell ⟨g, 4, none⟩ x4).setCell ⟨g, 5, none⟩ x5).setCell ⟨g, 6, none⟩ x6).setCell ⟨g, 7, none⟩ x7).setCell ⟨g, 8, none⟩ x8).setCell ⟨g, 9, none⟩ x9).setCell ⟨g, 10, none⟩ x10).heap[g]? = some (.cells #[x0, x1, x2, x3, x4, x5, x6, x7, x8, x9, x10, u11, u12, u13] t) := heap_set h9 10 x10
 have h11 : ((((((((((((w.setCell ⟨g, 0, none⟩ x0).setCell ⟨g, 1, none⟩ x1).setCell ⟨g, 2, none⟩ x2).setCell ⟨g, 3, none⟩ x3).setCell ⟨g, 4, none⟩ x4).setCell ⟨g, 5, none⟩ x5).setCell ⟨g, 6, none⟩ x6).setCell ⟨g, 7, none⟩ x7).setCell ⟨g, 8, none⟩ x8).setCell ⟨g, 9, none⟩ x9).setCell ⟨g, 10, none⟩ x10).setCell ⟨g, 11, none⟩ x11).heap[g]? = some (.cells #[x0, x1, x2, x3, x4, x5, x6, x7, x8, x9, x10, x11, u12, u13] t) := heap_set h10 11 x11
 have h12 : (((((((((((((w.setCell ⟨g, 0, none⟩ x0).setCell ⟨g, 1, none⟩ x1).setCell ⟨g, 2, none⟩ x2).setCell ⟨g, 3, none⟩ x3).setCell ⟨g, 4, none⟩ x4).setCell ⟨g, 5, none⟩ x5).setCell ⟨g, 6, none⟩ x6).setCell ⟨g, 7, none⟩ x7).setCell ⟨g, 8, none⟩ x8).setCell ⟨g, 9, none⟩ x9).setCell ⟨g, 10, none⟩ x10).setCell ⟨g, 11, none⟩ x11).setCell ⟨g, 12, none⟩ x12).heap[g]? = some (.cells #[x0, x1, x2, x3, x4, x5, x6, x7, x8, x9, x10, x11, x12, u13] t) := heap_set h11 12 x12
 have h13 : ((((((((((((((w.setCell ⟨g, 0, none⟩ x0).setCell ⟨g, 1, none⟩ x1).setCell ⟨g, 2, none⟩ x2).setCell ⟨g, 3, none⟩ x3).setCell ⟨g, 4, none⟩ x4).setCell ⟨g, 5, none⟩ x5).setCell ⟨g, 6, none⟩ x6).setCell ⟨g, 7, none⟩ x7).setCell ⟨g, 8, none⟩ x8).setCell ⟨g, 9, none⟩ x9).setCell ⟨g, 10, none⟩ x10).setCell ⟨g, 11, none⟩ x11).setCell ⟨g, 12, none⟩ x12).setCell ⟨g, 13, none⟩ x13).heap[g]? = some (.cells #[x0, x1, x2, x3, x4, x5, x6, x7, x8, x9, x10, x11, x12, x13] t) := heap_set h12 13 x13
 exact h13
theorem put14_below (w : World) (g : Nat) (x0 x1 x2 x3 x4 x5 x6 x7 x8 x9 x10 x11 x12 x13 : Value) : Below g w ((((((((((((((w.setCell ⟨g, 0, none⟩ x0).setCell ⟨g, 1, none⟩ x1).setCell ⟨g, 2, none⟩ x2).setCell ⟨g, 3, none⟩ x3).setCell ⟨g, 4, none⟩ x4).setCell ⟨g, 5, none⟩ x5).setCell ⟨g, 6, none⟩ x6).setCell ⟨g, 7, none⟩ x7).setCell ⟨g, 8, none⟩ x8).setCell ⟨g, 9, none⟩ x9).setCell ⟨g, 10, none⟩ x10).setCell ⟨g, 11, none⟩ x11).setCell ⟨g, 12, none⟩ x12).setCell ⟨g, 13, none⟩ x13) :=
 ((((((((((((((Below.refl g w).setCell (p := ⟨g, 0, none⟩) (Nat.le_refl g) x0).setCell (p := ⟨g, 1, none⟩) (Nat.le_refl g) x1).setCell (p := ⟨g, 2, none⟩) (Nat.le_refl g) x2).setCell (p := ⟨g, 3, none⟩) (Nat.le_refl g) x3).setCell (p := ⟨g, 4, none⟩) (Nat.le_refl g) x4).setCell (p := ⟨g, 5, none⟩) (Nat.le_refl g) x5).setCell (p := ⟨g, 6, none⟩) (Nat.le_refl g) x6).setCell (p := ⟨g, 7, none⟩) (Nat.le_refl g) x7).setCell (p := ⟨g, 8, none⟩) (Nat.le_refl g) x8).setCell (p := ⟨g, 9, none⟩) (Nat.le_refl g) x9).setCell (p := ⟨g, 10, none⟩) (Nat.le_refl g) x10).setCell (p := ⟨g, 11, none⟩) (Nat.le_refl g) x11).setCell (p := ⟨g, 12, none⟩) (Nat.le_refl g) x12).setCell (p := ⟨g, 13, none⟩) (Nat.le_refl g) x13
theorem put14_other (w : World) (g : Nat) (x0 x1 x2 x3 x4 x5 x6 x7 x8 x9 x10 x11 x12 x13 : Value) (j : Nat) (h : j ≠ g) : ((((((((((((((w.setCell ⟨g, 0, none⟩ x0).setCell ⟨g, 1, none⟩ x1).setCell ⟨g, 2, none⟩ x2).setCell ⟨g, 3, none⟩ x3).setCell ⟨g, 4, none⟩ x4).setCell ⟨g, 5, none⟩ x5).setCell ⟨g, 6, none⟩ x6).setCell ⟨g, 7, none⟩ x7).setCell ⟨g, 8, none⟩ x8).setCell ⟨g, 9, none⟩ x9).setCell ⟨g, 10, none⟩ x10).setCell ⟨g, 11, none⟩ x11).setCell ⟨g, 12, none⟩ x12).setCell ⟨g, 13, none⟩ x13).heap[j]? = w.heap[j]? := by
 rw [Below.heap_setCell _ _ _ _ h, Below.heap_setCell _ _ _ _ h, Below.heap_setCell _ _ _ _ h, Below.heap_setCell _ _ _ _ h, Below.heap_setCell _ _ _ _ h, Below.heap_setCell _ _ _ _ h, Below.heap_setCell _ _ _ _ h, Below.heap_setCell _ _ _ _ h, Below.heap_setCell _ _ _ _ h, Below.heap_setCell _ _ _ _ h, Below.heap_setCell _ _ _ _ h, Below.heap_setCell _ _ _ _ h, Below.heap_setCell _ _ _ _ h, Below.heap_setCell _ _ _ _ h]
end Go.Proofs.YteplffhfeoephaaGreat
namespace Go.Proofs.YteplffhfeoephaaGreat
open Go.ChangeShapes Go.WideShapes Go.ChangeAt Go.RowKit Go.Maps
theorem put4 {w : World} {g : Nat} {a b c d : Value} {t : TypeId} (h : w.heap[g]? = some (.cells #[a, b, c, d] t)) (x y z u : Value) : ((((w.setCell ⟨g, 0, none⟩ x).setCell ⟨g, 1, none⟩ y).setCell ⟨g, 2, none⟩ z).setCell ⟨g, 3, none⟩ u).heap[g]? = some (.cells #[x, y, z, u] t) :=
 (heap_set (heap_set (heap_set (heap_set h 0 _) 1 _) 2 _) 3 _).trans (by simp)
theorem put4_other (w : World) (g : Nat) (x y z u : Value) (j : Nat) (hj : j ≠ g) : ((((w.setCell ⟨g, 0, none⟩ x).setCell ⟨g, 1, none⟩ y).setCell ⟨g, 2, none⟩ z).setCell ⟨g, 3, none⟩ u).heap[j]? = w.heap[j]? :=
 (((Below.heap_setCell _ _ _ j hj).trans (Below.heap_setCell _ _ _ j hj)).trans (Below.heap_setCell _ _ _ j hj)).trans (Below.heap_setCell _ _ _ j hj)
theorem put4_below (w : World) (g : Nat) (x y z u : Value) : Below g w ((((w.setCell ⟨g, 0, none⟩ x).setCell ⟨g, 1, none⟩ y).setCell ⟨g, 2, none⟩ z).setCell ⟨g, 3, none⟩ u) :=
 ⟨rfl, rfl, rfl, by simp [World.setCell], fun j hj => put4_other w g x y z u j (by omega)⟩
theorem Rdr.low {w w' : World} {r b o n c p B : Nat} {zs : List Int} (h : Rdr w r (some ⟨b, o, none⟩) n c zs p) (hb : Below B w w') (hr : r < B) (hbB : b < B) : Rdr w' r (some ⟨b, o, none⟩) n c zs p :=
 ⟨(hb.block r hr).trans h.box, h.rd.of_blocks hb.size (fun b' o' e => by cases e; exact hb.block b hbB), h.len, h.cap, h.big, h.off, h.nil, h.pn⟩
theorem grown_low {w w4 w5 : World} {r : Nat} (h : w.grownBy w4 (some r)) (hb : Below w.heap.size w4 w5) : w.grownBy w5 (some r) :=
 ⟨hb.os.trans h.os, hb.tape.trans h.tape, hb.output.trans h.output, Nat.le_trans h.size hb.size, fun j hj hne => (hb.block j hj).trans (h.block j hj hne)⟩
theorem head_end {w : World} {B0 B1 : Nat} {v0 v1 v2 v3 v4 v5 v6 v7 v8 v9 v10 v11 v12 v13 u0 u1 u2 u3 : Value} {t t' : TypeId} (h1 : w.heap[B0]? = some (.cells #[v0, v1, v2, v3, v4, v5, v6, v7, v8, v9, v10, v11, v12, v13] t)) (h2 : w.heap[B1]? = some (.cells #[u0, u1, u2, u3] t')) (hne : ¬ B0 = B1) (hlt : B0 < B1) (x0 x1 x2 x3 x4 x5 x6 x7 x8 x9 x10 x11 x12 x13 y0 y1 y2 y3 : Value) :
   (((((((((((((((((((w.setCell ⟨B0, 0, none⟩ (x0)).setCell ⟨B0, 1, none⟩ (x1)).setCell ⟨B0, 2, none⟩ (x2)).setCell ⟨B0, 3, none⟩ (x3)).setCell ⟨B0, 4, none⟩ (x4)).setCell ⟨B0, 5, none⟩ (x5)).setCell ⟨B0, 6, none⟩ (x6)).setCell ⟨B0, 7, none⟩ (x7)).setCell ⟨B0, 8, none⟩ (x8)).setCell ⟨B0, 9, none⟩ (x9)).setCell ⟨B0, 10, none⟩ (x10)).setCell ⟨B0, 11, none⟩ (x11)).setCell ⟨B0, 12, none⟩ (x12)).setCell ⟨B0, 13, none⟩ (x13)).setCell ⟨B1, 0, none⟩ (y0)).setCell ⟨B1, 1, none⟩ (y1)).setCell ⟨B1, 2, none⟩ (y2)).setCell ⟨B1, 3, none⟩ (y3)).drew).heap[B0]? = some (.cells #[x0, x1, x2, x3, x4, x5, x6, x7, x8, x9, x10, x11, x12, x13] t) /\ (((((((((((((((((((w.setCell ⟨B0, 0, none⟩ (x0)).setCell ⟨B0, 1, none⟩ (x1)).setCell ⟨B0, 2, none⟩ (x2)).setCell ⟨B0, 3, none⟩ (x3)).setCell ⟨B0, 4, none⟩ (x4)).setCell ⟨B0, 5, none⟩ (x5)).setCell ⟨B0, 6, none⟩ (x6)).setCell ⟨B0, 7, none⟩ (x7)).setCell ⟨B0, 8, none⟩ (x8)).setCell ⟨B0, 9, none⟩ (x9)).setCell ⟨B0, 10, none⟩ (x10)).setCell ⟨B0, 11, none⟩ (x11)).setCell ⟨B0, 12, none⟩ (x12)).setCell ⟨B0, 13, none⟩ (x13)).setCell ⟨B1, 0, none⟩ (y0)).setCell ⟨B1, 1, none⟩ (y1)).setCell ⟨B1, 2, none⟩ (y2)).setCell ⟨B1, 3, none⟩ (y3)).drew).heap[B1]? = some (.cells #[y0, y1, y2, y3] t') /\ Below B0 w (((((((((((((((((((w.setCell ⟨B0, 0, none⟩ (x0)).setCell ⟨B0, 1, none⟩ (x1)).setCell ⟨B0, 2, none⟩ (x2)).setCell ⟨B0, 3, none⟩ (x3)).setCell ⟨B0, 4, none⟩ (x4)).setCell ⟨B0, 5, none⟩ (x5)).setCell ⟨B0, 6, none⟩ (x6)).setCell ⟨B0, 7, none⟩ (x7)).setCell ⟨B0, 8, none⟩ (x8)).setCell ⟨B0, 9, none⟩ (x9)).setCell ⟨B0, 10, none⟩ (x10)).setCell ⟨B0, 11, none⟩ (x11)).setCell ⟨B0, 12, none⟩ (x12)).setCell ⟨B0, 13, none⟩ (x13)).setCell ⟨B1, 0, none⟩ (y0)).setCell ⟨B1, 1, none⟩ (y1)).setCell ⟨B1, 2, none⟩ (y2)).setCell ⟨B1, 3, none⟩ (y3)).drew) := by
 have e1 := put14 h1 x0 x1 x2 x3 x4 x5 x6 x7 x8 x9 x10 x11 x12 x13
 have e2 := put14_other w B0 x0 x1 x2 x3 x4 x5 x6 x7 x8 x9 x10 x11 x12 x13 B1 (fun e => hne e.symm)
 have e3 := put14_below w B0 x0 x1 x2 x3 x4 x5 x6 x7 x8 x9 x10 x11 x12 x13
 generalize ((((((((((((((w.setCell ⟨B0, 0, none⟩ (x0)).setCell ⟨B0, 1, none⟩ (x1)).setCell ⟨B0, 2, none⟩ (x2)).setCell ⟨B0, 3, none⟩ (x3)).setCell ⟨B0, 4, none⟩ (x4)).setCell ⟨B0, 5, none⟩ (x5)).setCell ⟨B0, 6, none⟩ (x6)).setCell ⟨B0, 7, none⟩ (x7)).setCell ⟨B0, 8, none⟩ (x8)).setCell ⟨B0, 9, none⟩ (x9)).setCell ⟨B0, 10, none⟩ (x10)).setCell ⟨B0, 11, none⟩ (x11)).setCell ⟨B0, 12, none⟩ (x12)).setCell ⟨B0, 13, none⟩ (x13)) = w1 at *
 have e4 := put4_other w1 B1 y0 y1 y2 y3 B0 hne
 have e5 := put4 (e2.trans h2) y0 y1 y2 y3
 have e6 := put4_below w1 B1 y0 y1 y2 y3
 generalize ((((w1.setCell ⟨B1, 0, none⟩ (y0)).setCell ⟨B1, 1, none⟩ (y1)).setCell ⟨B1, 2, none⟩ (y2)).setCell ⟨B1, 3, none⟩ (y3)) = w2 at *
 exact ⟨e4.trans e1, e5, (e3.trans (e6.mono (by omega))).drew⟩
def RhP (r : Nat) (a : Option Addr) (n c : Nat) (zs : List Int) (w : World) (e : Ending) (w' : World) : Prop :=
 e = .returned (.tuple #[.agg (msgU (nv zs 0) (nv zs 1)), .agg #[.int .i64 (nv zs 2 : Int), .int .i64 (nv zs 3 : Int), .int .i64 (nv zs 4 : Int), .int .i64 (nv zs 5 : Int)]]) /\ Hid (Rdr w' r a n c zs 12 /\ w.grownBy w' (some r))
theorem two_at (w : World) (x y : Obj) : ((w.alloc x).alloc y).heap[w.heap.size]? = some x /\ ((w.alloc x).alloc y).heap[w.heap.size + 1]? = some y /\ ((w.alloc x).alloc y).heap.size = w.heap.size + 2 /\ Below w.heap.size w ((w.alloc x).alloc y) := by
 refine ⟨block_alloc (alloc_at _ _) _, ?_, by simp, ((Below.refl _ _).alloc (Nat.le_refl _) _).alloc (by simp) _⟩
 have := alloc_at (w.alloc x) y
 simp only [World.size_alloc] at this
 exact this
set_option maxHeartbeats 4000000 in
theorem rhead_yes (r b o n c : Nat) (zs : List Int) (p : Nat) (w : World) (h : Rdr w r (some ⟨b, o, none⟩) n c zs p) (hx : ¬ hdBad zs) :
   Calls Tryz.prog 99 #[.pointer (some ⟨r, 0, none⟩)] w (RhP r (some ⟨b, o, none⟩) n c zs w) := by
 have hgood : ¬ (zs.length < 12 ∨ unfl (nv zs 1) 64 = true) := fun e => hx (.inl e)
 have hcnt : nv zs 2 <= 16 /\ nv zs 3 + nv zs 4 + nv zs 5 <= 512 := by
   by_cases e : nv zs 2 <= 16 /\ nv zs 3 + nv zs 4 + nv zs 5 <= 512
   · exact e
   · exact absurd (.inr e) hx
 have hn12 : 12 <= n := by
   have := h.len
   by_cases e : zs.length < 12
   · exact absurd (.inl e) hgood
   · omega
 have h1 : 1 <= n := by omega
 have K1 : Hid (∀ W, Rd W (some ⟨b, o, none⟩) zs -> Calls Tryz.prog 135 #[.slice (some ⟨b, o, none⟩) n c] W fun e w' => e = .returned (.tuple #[.agg #[.int .u16 (nv zs 0 : Int), .bool (unfl (nv zs 1) 32768), .int .i64 (unop (nv zs 1) : Nat), .bool (unfl (nv zs 1) 1024), .bool (unfl (nv zs 1) 512), .bool (unfl (nv zs 1) 256), .bool (unfl (nv zs 1) 128), .bool (unfl (nv zs 1) 32), .bool (unfl (nv zs 1) 16), .int .i64 (unrc (nv zs 1) : Nat), .slice none 0 0, .slice none 0 0, .slice none 0 0, .slice none 0 0], .agg #[.int .i64 (nv zs 2 : Int), .int .i64 (nv zs 3 : Int), .int .i64 (nv zs 4 : Int), .int .i64 (nv zs 5 : Int)], .int .i64 0]) /\ Below W.heap.size W w') := by
   intro W hW
   refine (read18 (some ⟨b, o, none⟩) n c zs W hW h.len h.cap.1 h.cap.2).mono ?_
   rintro e w' ⟨q1, q2, q3⟩
   exact ⟨q2 hgood, q3⟩
 have HN : RhP r (some ⟨b, o, none⟩) n c zs w = fun e w' => e = .returned (.tuple #[.agg #[.int .u16 (nv zs 0 : Int), .bool (unfl (nv zs 1) 32768), .int .i64 (unop (nv zs 1) : Nat), .bool (unfl (nv zs 1) 1024), .bool (unfl (nv zs 1) 512), .bool (unfl (nv zs 1) 256), .bool (unfl (nv zs 1) 128), .bool (unfl (nv zs 1) 32), .bool (unfl (nv zs 1) 16), .int .i64 (unrc (nv zs 1) : Nat), .slice none 0 0, .slice none 0 0, .slice none 0 0, .slice none 0 0], .agg #[.int .i64 (nv zs 2 : Int), .int .i64 (nv zs 3 : Int), .int .i64 (nv zs 4 : Int), .int .i64 (nv zs 5 : Int)]]) /\ Hid (Rdr w' r (some ⟨b, o, none⟩) n c zs 12 /\ w.grownBy w' (some r)) := rfl
 rw [HN]
 clear HN hgood hx
 generalize nv zs 0 = I at *
 generalize nv zs 1 = F at *
 generalize nv zs 2 = C2 at *
 generalize nv zs 3 = C3 at *
 generalize nv zs 4 = C4 at *
 generalize nv zs 5 = C5 at *
 obtain ⟨hc2, hc3⟩ := hcnt
 have KY := fun W => Lib.hid (need_yes W)
 obtain ⟨v0, v1, v2, v3⟩ := two_at w (.cells #[.int .u16 0, .bool false, .int .i64 0, .bool false, .bool false, .bool false, .bool false, .bool false, .bool false, .int .i64 0, .slice none 0 0, .slice none 0 0, .slice none 0 0, .slice none 0 0] 26) (.cells #[.int .i64 0, .int .i64 0, .int .i64 0, .int .i64 0] 74)
 have HV : Hid (((w.alloc (.cells #[.int .u16 0, .bool false, .int .i64 0, .bool false, .bool false, .bool false, .bool false, .bool false, .bool false, .int .i64 0, .slice none 0 0, .slice none 0 0, .slice none 0 0, .slice none 0 0] 26)).alloc (.cells #[.int .i64 0, .int .i64 0, .int .i64 0, .int .i64 0] 74)).heap[w.heap.size]? = some (.cells #[.int .u16 0, .bool false, .int .i64 0, .bool false, .bool false, .bool false, .bool false, .bool false, .bool false, .int .i64 0, .slice none 0 0, .slice none 0 0, .slice none 0 0, .slice none 0 0] 26) /\ ((w.alloc (.cells #[.int .u16 0, .bool false, .int .i64 0, .bool false, .bool false, .bool false, .bool false, .bool false, .bool false, .int .i64 0, .slice none 0 0, .slice none 0 0, .slice none 0 0, .slice none 0 0] 26)).alloc (.cells #[.int .i64 0, .int .i64 0, .int .i64 0, .int .i64 0] 74)).heap[w.heap.size + 1]? = some (.cells #[.int .i64 0, .int .i64 0, .int .i64 0, .int .i64 0] 74) /\ ((w.alloc (.cells #[.int .u16 0, .bool false, .int .i64 0, .bool false, .bool false, .bool false, .bool false, .bool false, .bool false, .int .i64 0, .slice none 0 0, .slice none 0 0, .slice none 0 0, .slice none 0 0] 26)).alloc (.cells #[.int .i64 0, .int .i64 0, .int .i64 0, .int .i64 0] 74)).heap.size = w.heap.size + 2 /\ Below w.heap.size w ((w.alloc (.cells #[.int .u16 0, .bool false, .int .i64 0, .bool false, .bool false, .bool false, .bool false, .bool false, .bool false, .int .i64 0, .slice none 0 0, .slice none 0 0, .slice none 0 0, .slice none 0 0] 26)).alloc (.cells #[.int .i64 0, .int .i64 0, .int .i64 0, .int .i64 0] 74))) := ⟨v0, v1, v2, v3⟩
 have HR0 := Lib.hid (h.below v3)
 have hrw := box_lt h.box
 have hbw := h.blt h1
 obtain ⟨B0, hB0⟩ : ∃ B0, B0 = w.heap.size := ⟨_, rfl⟩
 obtain ⟨B1, hB1⟩ : ∃ B1, B1 = B0 + 1 := ⟨_, rfl⟩
 have HBB : Hid (B0 = w.heap.size /\ B1 = w.heap.size + 1) := ⟨hB0, by rw [hB1, hB0]⟩
 have hne1 : ¬ B0 = B1 := by omega
 have hne2 : ¬ B1 = B0 := by omega
 rw [<- hB0, <- hB1] at HV
 clear h v0 v1 v2 v3
 have c0 : ((w.alloc (.cells #[.int .u16 0, .bool false, .int .i64 0, .bool false, .bool false, .bool false, .bool false, .bool false, .bool false, .int .i64 0, .slice none 0 0, .slice none 0 0, .slice none 0 0, .slice none 0 0] 26)).alloc (.cells #[.int .i64 0, .int .i64 0, .int .i64 0, .int .i64 0] 74)).cell? ⟨r, 0, none⟩ = some (.slice (some ⟨b, o, none⟩) n c) := box_cell HR0.out.box 0 _ rfl
 have hlt : r < ((w.alloc (.cells #[.int .u16 0, .bool false, .int .i64 0, .bool false, .bool false, .bool false, .bool false, .bool false, .bool false, .int .i64 0, .slice none 0 0, .slice none 0 0, .slice none 0 0, .slice none 0 0] 26)).alloc (.cells #[.int .i64 0, .int .i64 0, .int .i64 0, .int .i64 0] 74)).heap.size := box_lt HR0.out.box
 go_enter Tryz.func99, Tryz.ntmps99
 go_upto_region 1 with fail
 simp only [World.size_alloc, <- hB0, <- hB1]
 generalize ((w.alloc (.cells #[.int .u16 0, .bool false, .int .i64 0, .bool false, .bool false, .bool false, .bool false, .bool false, .bool false, .int .i64 0, .slice none 0 0, .slice none 0 0, .slice none 0 0, .slice none 0 0] 26)).alloc (.cells #[.int .i64 0, .int .i64 0, .int .i64 0, .int .i64 0] 74)) = w0 at *
 clear hB0 hB1
 go_wp2_with fail
 refine (K1.out w0 HR0.out.rd).mono ?_
 rintro e1 w1 ⟨rfl, hb1⟩
 have HB1 := Lib.hid hb1
 obtain ⟨v0, v1, v2, v3⟩ := two_at w1 (.cells #[.int .u16 (I : Int), .bool (unfl F 32768), .int .i64 (unop F : Nat), .bool (unfl F 1024), .bool (unfl F 512), .bool (unfl F 256), .bool (unfl F 128), .bool (unfl F 32), .bool (unfl F 16), .int .i64 (unrc F : Nat), .slice none 0 0, .slice none 0 0, .slice none 0 0, .slice none 0 0] 26) (.cells #[.int .i64 (C2 : Int), .int .i64 (C3 : Int), .int .i64 (C4 : Int), .int .i64 (C5 : Int)] 74)
 have HB2 : Hid (Below w0.heap.size w0 ((w1.alloc (.cells #[.int .u16 (I : Int), .bool (unfl F 32768), .int .i64 (unop F : Nat), .bool (unfl F 1024), .bool (unfl F 512), .bool (unfl F 256), .bool (unfl F 128), .bool (unfl F 32), .bool (unfl F 16), .int .i64 (unrc F : Nat), .slice none 0 0, .slice none 0 0, .slice none 0 0, .slice none 0 0] 26)).alloc (.cells #[.int .i64 (C2 : Int), .int .i64 (C3 : Int), .int .i64 (C4 : Int), .int .i64 (C5 : Int)] 74))) := hb1.trans (v3.mono hb1.size)
 have HR2 := Lib.hid (HR0.out.below HB2.out)
 have HD2 : Hid (((w1.alloc (.cells #[.int .u16 (I : Int), .bool (unfl F 32768), .int .i64 (unop F : Nat), .bool (unfl F 1024), .bool (unfl F 512), .bool (unfl F 256), .bool (unfl F 128), .bool (unfl F 32), .bool (unfl F 16), .int .i64 (unrc F : Nat), .slice none 0 0, .slice none 0 0, .slice none 0 0, .slice none 0 0] 26)).alloc (.cells #[.int .i64 (C2 : Int), .int .i64 (C3 : Int), .int .i64 (C4 : Int), .int .i64 (C5 : Int)] 74)).heap[w1.heap.size]? = some (.cells #[.int .u16 (I : Int), .bool (unfl F 32768), .int .i64 (unop F : Nat), .bool (unfl F 1024), .bool (unfl F 512), .bool (unfl F 256), .bool (unfl F 128), .bool (unfl F 32), .bool (unfl F 16), .int .i64 (unrc F : Nat), .slice none 0 0, .slice none 0 0, .slice none 0 0, .slice none 0 0] 26) /\ ((w1.alloc (.cells #[.int .u16 (I : Int), .bool (unfl F 32768), .int .i64 (unop F : Nat), .bool (unfl F 1024), .bool (unfl F 512), .bool (unfl F 256), .bool (unfl F 128), .bool (unfl F 32), .bool (unfl F 16), .int .i64 (unrc F : Nat), .slice none 0 0, .slice none 0 0, .slice none 0 0, .slice none 0 0] 26)).alloc (.cells #[.int .i64 (C2 : Int), .int .i64 (C3 : Int), .int .i64 (C4 : Int), .int .i64 (C5 : Int)] 74)).heap[w1.heap.size + 1]? = some (.cells #[.int .i64 (C2 : Int), .int .i64 (C3 : Int), .int .i64 (C4 : Int), .int .i64 (C5 : Int)] 74)) := ⟨v0, v1⟩
 obtain ⟨D0, hD0⟩ : ∃ D0, D0 = w1.heap.size := ⟨_, rfl⟩
 obtain ⟨D1, hD1⟩ : ∃ D1, D1 = D0 + 1 := ⟨_, rfl⟩
 have HDs : Hid (w0.heap.size <= D0) := (by rw [hD0]; exact hb1.size : w0.heap.size <= D0)
 rw [<- hD0, <- hD1] at HD2
 clear c0 hlt hb1 v0 v1 v2 v3 K1 HR0
 go_upto_region 2 with fail
 simp only [World.size_alloc, <- hD0, <- hD1]
 generalize ((w1.alloc (.cells #[.int .u16 (I : Int), .bool (unfl F 32768), .int .i64 (unop F : Nat), .bool (unfl F 1024), .bool (unfl F 512), .bool (unfl F 256), .bool (unfl F 128), .bool (unfl F 32), .bool (unfl F 16), .int .i64 (unrc F : Nat), .slice none 0 0, .slice none 0 0, .slice none 0 0, .slice none 0 0] 26)).alloc (.cells #[.int .i64 (C2 : Int), .int .i64 (C3 : Int), .int .i64 (C4 : Int), .int .i64 (C5 : Int)] 74)) = w2 at *
 have HDD : Hid (D1 = D0 + 1) := hD1
 clear hD0 hD1
 have k0 : w2.cell? ⟨D1, 0, none⟩ = some (.int .i64 (C2 : Int)) := box_cell HD2.out.2 0 _ rfl
 have k1 : w2.cell? ⟨D1, 1, none⟩ = some (.int .i64 (C3 : Int)) := box_cell HD2.out.2 1 _ rfl
 have k2 : w2.cell? ⟨D1, 2, none⟩ = some (.int .i64 (C4 : Int)) := box_cell HD2.out.2 2 _ rfl
 have k3 : w2.cell? ⟨D1, 3, none⟩ = some (.int .i64 (C5 : Int)) := box_cell HD2.out.2 3 _ rfl
 have hltD := box_lt HD2.out.2
 go_wp2_with fail
 refine (KY w2).out.mono ?_
 rintro e3 w3 ⟨rfl, hw3⟩
 subst w3
 have j1 : (C2 : Int) <= 16 := by omega
 have j2 : ((C3 : Int) + (C4 : Int)) + (C5 : Int) <= 512 := by omega
 have j3 : IntKind.i64.wrap ((C3 : Int) + (C4 : Int)) = (C3 : Int) + (C4 : Int) := wrap_in (by omega) (by omega)
 have j4 : IntKind.i64.wrap (((C3 : Int) + (C4 : Int)) + (C5 : Int)) = ((C3 : Int) + (C4 : Int)) + (C5 : Int) := wrap_in (by omega) (by omega)
 go_wp2_with fail
 refine (KY w2).out.mono ?_
 rintro e4 w4 ⟨rfl, hw4⟩
 subst w4
 have c1 : w2.cell? ⟨r, 1, none⟩ = some (.int .i64 p) := box_cell HR2.out.box 1 _ rfl
 have hlt := box_lt HR2.out.box
 have hfz := box_frozen HR2.out.box 1
 have HMV := Lib.hid (HR2.out.move 12 hn12)
 have hcast : ((12 : Nat) : Int) = 12 := rfl
 rw [hcast] at HMV
 clear hcast k0 k1 k2 k3 hltD
 go_upto_region 5 with fail
 generalize w2.setCell ⟨r, 1, none⟩ (.int .i64 12) = w4 at *
 clear c1 hlt hfz
 have hs0 : w0.heap.size = B0 + 2 := HV.out.2.2.1.trans (by have := HBB.out.1; omega)
 have q1 : Hid (w4.heap[D0]? = some (.cells #[.int .u16 (I : Int), .bool (unfl F 32768), .int .i64 (unop F : Nat), .bool (unfl F 1024), .bool (unfl F 512), .bool (unfl F 256), .bool (unfl F 128), .bool (unfl F 32), .bool (unfl F 16), .int .i64 (unrc F : Nat), .slice none 0 0, .slice none 0 0, .slice none 0 0, .slice none 0 0] 26)) := (HMV.out.2.block D0 (box_lt HD2.out.1) (fun e => by injection e with e; have := HDs.out; have := HBB.out.1; omega)).trans HD2.out.1
 have q2 : Hid (w4.heap[D1]? = some (.cells #[.int .i64 (C2 : Int), .int .i64 (C3 : Int), .int .i64 (C4 : Int), .int .i64 (C5 : Int)] 74)) := (HMV.out.2.block D1 (box_lt HD2.out.2) (fun e => by injection e with e; have := HDs.out; have := HBB.out.1; have := HDD.out; omega)).trans HD2.out.2
 have q3 : Hid (w4.heap[B0]? = some (.cells #[.int .u16 0, .bool false, .int .i64 0, .bool false, .bool false, .bool false, .bool false, .bool false, .bool false, .int .i64 0, .slice none 0 0, .slice none 0 0, .slice none 0 0, .slice none 0 0] 26)) := (HMV.out.2.block B0 (by have := HB2.out.size; omega) (fun e => by injection e with e; have := HBB.out.1; omega)).trans ((HB2.out.block B0 (by omega)).trans HV.out.1)
 have q4 : Hid (w4.heap[B1]? = some (.cells #[.int .i64 0, .int .i64 0, .int .i64 0, .int .i64 0] 74)) := (HMV.out.2.block B1 (by have := HB2.out.size; have := HBB.out; omega) (fun e => by injection e with e; have := HBB.out; omega)).trans ((HB2.out.block B1 (by have := HBB.out; omega)).trans HV.out.2.1)
 have HG4 : Hid (w.grownBy w4 (some r)) := grown_trans (grown_trans (grown_of (by have := HV.out.2.2.2; rw [HBB.out.1] at this; exact this)) (grown_of (HB2.out))) HMV.out.2
 have HR4 := Lib.hid HMV.out.1
 clear HMV HD2 HB2 HV HR2
 have m0 : w4.cell? ⟨D0, 0, none⟩ = some (.int .u16 (I : Int)) := box_cell q1.out 0 _ rfl
 have m1 : w4.cell? ⟨D0, 1, none⟩ = some (.bool (unfl F 32768)) := box_cell q1.out 1 _ rfl
 have m2 : w4.cell? ⟨D0, 2, none⟩ = some (.int .i64 (unop F : Nat)) := box_cell q1.out 2 _ rfl
 have m3 : w4.cell? ⟨D0, 3, none⟩ = some (.bool (unfl F 1024)) := box_cell q1.out 3 _ rfl
 have m4 : w4.cell? ⟨D0, 4, none⟩ = some (.bool (unfl F 512)) := box_cell q1.out 4 _ rfl
 have m5 : w4.cell? ⟨D0, 5, none⟩ = some (.bool (unfl F 256)) := box_cell q1.out 5 _ rfl
 have m6 : w4.cell? ⟨D0, 6, none⟩ = some (.bool (unfl F 128)) := box_cell q1.out 6 _ rfl
 have m7 : w4.cell? ⟨D0, 7, none⟩ = some (.bool (unfl F 32)) := box_cell q1.out 7 _ rfl
 have m8 : w4.cell? ⟨D0, 8, none⟩ = some (.bool (unfl F 16)) := box_cell q1.out 8 _ rfl
 have m9 : w4.cell? ⟨D0, 9, none⟩ = some (.int .i64 (unrc F : Nat)) := box_cell q1.out 9 _ rfl
 have m10 : w4.cell? ⟨D0, 10, none⟩ = some (.slice none 0 0) := box_cell q1.out 10 _ rfl
 have m11 : w4.cell? ⟨D0, 11, none⟩ = some (.slice none 0 0) := box_cell q1.out 11 _ rfl
 have m12 : w4.cell? ⟨D0, 12, none⟩ = some (.slice none 0 0) := box_cell q1.out 12 _ rfl
 have m13 : w4.cell? ⟨D0, 13, none⟩ = some (.slice none 0 0) := box_cell q1.out 13 _ rfl
 have k0 : w4.cell? ⟨D1, 0, none⟩ = some (.int .i64 (C2 : Int)) := box_cell q2.out 0 _ rfl
 have k1 : w4.cell? ⟨D1, 1, none⟩ = some (.int .i64 (C3 : Int)) := box_cell q2.out 1 _ rfl
 have k2 : w4.cell? ⟨D1, 2, none⟩ = some (.int .i64 (C4 : Int)) := box_cell q2.out 2 _ rfl
 have k3 : w4.cell? ⟨D1, 3, none⟩ = some (.int .i64 (C5 : Int)) := box_cell q2.out 3 _ rfl
 have z0 : w4.cell? ⟨B0, 0, none⟩ = some (.int .u16 0) := box_cell q3.out 0 _ rfl
 have f0 := box_frozen q3.out 0
 have z1 : w4.cell? ⟨B0, 1, none⟩ = some (.bool false) := box_cell q3.out 1 _ rfl
 have f1 := box_frozen q3.out 1
 have z2 : w4.cell? ⟨B0, 2, none⟩ = some (.int .i64 0) := box_cell q3.out 2 _ rfl
 have f2 := box_frozen q3.out 2
 have z3 : w4.cell? ⟨B0, 3, none⟩ = some (.bool false) := box_cell q3.out 3 _ rfl
 have f3 := box_frozen q3.out 3
 have z4 : w4.cell? ⟨B0, 4, none⟩ = some (.bool false) := box_cell q3.out 4 _ rfl
 have f4 := box_frozen q3.out 4
 have z5 : w4.cell? ⟨B0, 5, none⟩ = some (.bool false) := box_cell q3.out 5 _ rfl
 have f5 := box_frozen q3.out 5
 have z6 : w4.cell? ⟨B0, 6, none⟩ = some (.bool false) := box_cell q3.out 6 _ rfl
 have f6 := box_frozen q3.out 6
 have z7 : w4.cell? ⟨B0, 7, none⟩ = some (.bool false) := box_cell q3.out 7 _ rfl
 have f7 := box_frozen q3.out 7
 have z8 : w4.cell? ⟨B0, 8, none⟩ = some (.bool false) := box_cell q3.out 8 _ rfl
 have f8 := box_frozen q3.out 8
 have z9 : w4.cell? ⟨B0, 9, none⟩ = some (.int .i64 0) := box_cell q3.out 9 _ rfl
 have f9 := box_frozen q3.out 9
 have z10 : w4.cell? ⟨B0, 10, none⟩ = some (.slice none 0 0) := box_cell q3.out 10 _ rfl
 have f10 := box_frozen q3.out 10
 have z11 : w4.cell? ⟨B0, 11, none⟩ = some (.slice none 0 0) := box_cell q3.out 11 _ rfl
 have f11 := box_frozen q3.out 11
 have z12 : w4.cell? ⟨B0, 12, none⟩ = some (.slice none 0 0) := box_cell q3.out 12 _ rfl
 have f12 := box_frozen q3.out 12
 have z13 : w4.cell? ⟨B0, 13, none⟩ = some (.slice none 0 0) := box_cell q3.out 13 _ rfl
 have f13 := box_frozen q3.out 13
 have y0 : w4.cell? ⟨B1, 0, none⟩ = some (.int .i64 0) := box_cell q4.out 0 _ rfl
 have g0 := box_frozen q4.out 0
 have y1 : w4.cell? ⟨B1, 1, none⟩ = some (.int .i64 0) := box_cell q4.out 1 _ rfl
 have g1 := box_frozen q4.out 1
 have y2 : w4.cell? ⟨B1, 2, none⟩ = some (.int .i64 0) := box_cell q4.out 2 _ rfl
 have g2 := box_frozen q4.out 2
 have y3 : w4.cell? ⟨B1, 3, none⟩ = some (.int .i64 0) := box_cell q4.out 3 _ rfl
 have g3 := box_frozen q4.out 3
 have n1 : ¬ D0 = B0 := by have := HDs.out; omega
 have n2 : ¬ B0 = D0 := by omega
 have n3 : ¬ D0 = B1 := by have := HDs.out; have := HBB.out; omega
 have n4 : ¬ B1 = D0 := by omega
 have n5 : ¬ D1 = B0 := by have := HDs.out; have := HDD.out; omega
 have n6 : ¬ B0 = D1 := by omega
 have n7 : ¬ D1 = B1 := by have := HDs.out; have := HBB.out; have := HDD.out; omega
 have n8 : ¬ B1 = D1 := by omega
 have n9 : ¬ D1 = D0 := by have := HDD.out; omega
 have n10 : ¬ D0 = D1 := by omega
 have l1 := box_lt q1.out
 have l2 := box_lt q2.out
 have l3 := box_lt q3.out
 have l4 := box_lt q4.out
 go_region
 obtain ⟨u1', u2', u3'⟩ := head_end q3.out q4.out hne1 (by have := HBB.out; omega) (.int .u16 (I : Int)) (.bool (unfl F 32768)) (.int .i64 (unop F : Nat)) (.bool (unfl F 1024)) (.bool (unfl F 512)) (.bool (unfl F 256)) (.bool (unfl F 128)) (.bool (unfl F 32)) (.bool (unfl F 16)) (.int .i64 (unrc F : Nat)) (.slice none 0 0) (.slice none 0 0) (.slice none 0 0) (.slice none 0 0) (.int .i64 (C2 : Int)) (.int .i64 (C3 : Int)) (.int .i64 (C4 : Int)) (.int .i64 (C5 : Int))
 have u1 := Lib.hid u1'
 have u2 := Lib.hid u2'
 have u3 := Lib.hid u3'
 clear u1' u2' u3'
 clear q1 q2 q3 q4 m0 z0 f0 m1 z1 f1 m2 z2 f2 m3 z3 f3 m4 z4 f4 m5 z5 f5 m6 z6 f6 m7 z7 f7 m8 z8 f8 m9 z9 f9 m10 z10 f10 m11 z11 f11 m12 z12 f12 m13 z13 f13 k0 y0 g0 k1 y1 g1 k2 y2 g2 k3 y3 g3 l1 l2 l3 l4
 generalize ((((((((((((((((((w4.setCell ⟨B0, 0, none⟩ (.int .u16 (I : Int))).setCell ⟨B0, 1, none⟩ (.bool (unfl F 32768))).setCell ⟨B0, 2, none⟩ (.int .i64 (unop F : Nat))).setCell ⟨B0, 3, none⟩ (.bool (unfl F 1024))).setCell ⟨B0, 4, none⟩ (.bool (unfl F 512))).setCell ⟨B0, 5, none⟩ (.bool (unfl F 256))).setCell ⟨B0, 6, none⟩ (.bool (unfl F 128))).setCell ⟨B0, 7, none⟩ (.bool (unfl F 32))).setCell ⟨B0, 8, none⟩ (.bool (unfl F 16))).setCell ⟨B0, 9, none⟩ (.int .i64 (unrc F : Nat))).setCell ⟨B0, 10, none⟩ (.slice none 0 0)).setCell ⟨B0, 11, none⟩ (.slice none 0 0)).setCell ⟨B0, 12, none⟩ (.slice none 0 0)).setCell ⟨B0, 13, none⟩ (.slice none 0 0)).setCell ⟨B1, 0, none⟩ (.int .i64 (C2 : Int))).setCell ⟨B1, 1, none⟩ (.int .i64 (C3 : Int))).setCell ⟨B1, 2, none⟩ (.int .i64 (C4 : Int))).setCell ⟨B1, 3, none⟩ (.int .i64 (C5 : Int))).drew = w9 at *
 have m0 : w9.cell? ⟨B0, 0, none⟩ = some (.int .u16 (I : Int)) := box_cell u1.out 0 _ rfl
 have m1 : w9.cell? ⟨B0, 1, none⟩ = some (.bool (unfl F 32768)) := box_cell u1.out 1 _ rfl
 have m2 : w9.cell? ⟨B0, 2, none⟩ = some (.int .i64 (unop F : Nat)) := box_cell u1.out 2 _ rfl
 have m3 : w9.cell? ⟨B0, 3, none⟩ = some (.bool (unfl F 1024)) := box_cell u1.out 3 _ rfl
 have m4 : w9.cell? ⟨B0, 4, none⟩ = some (.bool (unfl F 512)) := box_cell u1.out 4 _ rfl
 have m5 : w9.cell? ⟨B0, 5, none⟩ = some (.bool (unfl F 256)) := box_cell u1.out 5 _ rfl
 have m6 : w9.cell? ⟨B0, 6, none⟩ = some (.bool (unfl F 128)) := box_cell u1.out 6 _ rfl
 have m7 : w9.cell? ⟨B0, 7, none⟩ = some (.bool (unfl F 32)) := box_cell u1.out 7 _ rfl
 have m8 : w9.cell? ⟨B0, 8, none⟩ = some (.bool (unfl F 16)) := box_cell u1.out 8 _ rfl
 have m9 : w9.cell? ⟨B0, 9, none⟩ = some (.int .i64 (unrc F : Nat)) := box_cell u1.out 9 _ rfl
 have m10 : w9.cell? ⟨B0, 10, none⟩ = some (.slice none 0 0) := box_cell u1.out 10 _ rfl
 have m11 : w9.cell? ⟨B0, 11, none⟩ = some (.slice none 0 0) := box_cell u1.out 11 _ rfl
 have m12 : w9.cell? ⟨B0, 12, none⟩ = some (.slice none 0 0) := box_cell u1.out 12 _ rfl
 have m13 : w9.cell? ⟨B0, 13, none⟩ = some (.slice none 0 0) := box_cell u1.out 13 _ rfl
 have k0 : w9.cell? ⟨B1, 0, none⟩ = some (.int .i64 (C2 : Int)) := box_cell u2.out 0 _ rfl
 have k1 : w9.cell? ⟨B1, 1, none⟩ = some (.int .i64 (C3 : Int)) := box_cell u2.out 1 _ rfl
 have k2 : w9.cell? ⟨B1, 2, none⟩ = some (.int .i64 (C4 : Int)) := box_cell u2.out 2 _ rfl
 have k3 : w9.cell? ⟨B1, 3, none⟩ = some (.int .i64 (C5 : Int)) := box_cell u2.out 3 _ rfl
 go_wp2
 refine bodyPost_ret (v := .tuple #[.agg #[.int .u16 (I : Int), .bool (unfl F 32768), .int .i64 (unop F : Nat), .bool (unfl F 1024), .bool (unfl F 512), .bool (unfl F 256), .bool (unfl F 128), .bool (unfl F 32), .bool (unfl F 16), .int .i64 (unrc F : Nat), .slice none 0 0, .slice none 0 0, .slice none 0 0, .slice none 0 0], .agg #[.int .i64 (C2 : Int), .int .i64 (C3 : Int), .int .i64 (C4 : Int), .int .i64 (C5 : Int)]]) (by simp [results, Tryz.results99, go_sem, m0, m1, m2, m3, m4, m5, m6, m7, m8, m9, m10, m11, m12, m13, k0, k1, k2, k3]) rfl ⟨rfl, ?_, ?_⟩
 · exact HR4.out.low u3.out (by have := HBB.out; omega) (by have := HBB.out; omega)
 · exact grown_low HG4.out (by have := u3.out; rw [HBB.out.1] at this; exact this)
end Go.Proofs.YteplffhfeoephaaGreat
namespace Go.Proofs.YteplffhfeoephaaGreat
open Go.ChangeShapes Go.WideShapes Go.ChangeAt Go.RowKit Go.Maps
theorem nv_top {zs : List Int} (h : ∀ z ∈ zs, 0 <= z /\ z <= 255) (k : Nat) : nv zs k <= 65535 := by
 have := (nv_val h k).2
 omega
set_option maxHeartbeats 4000000 in
theorem rhead_noE (r : Nat) (a : Option Addr) (n c : Nat) (zs : List Int) (p : Nat) (w : World) (h : Rdr w r a n c zs p) (hx : zs.length < 12 ∨ unfl (nv zs 1) 64 = true) :
   Calls Tryz.prog 99 #[.pointer (some ⟨r, 0, none⟩)] w fun e w' => e = .panicked thrown /\ Hid (w.grownBy w' (some r)) := by
 have K1 : Hid (∀ W, Rd W a zs -> Calls Tryz.prog 135 #[.slice a n c] W fun e w' => e = .returned (.tuple #[.agg #[.int .u16 0, .bool false, .int .i64 0, .bool false, .bool false, .bool false, .bool false, .bool false, .bool false, .int .i64 0, .slice none 0 0, .slice none 0 0, .slice none 0 0, .slice none 0 0], .agg #[.int .i64 0, .int .i64 0, .int .i64 0, .int .i64 0], .int .i64 8]) /\ Below W.heap.size W w') := by
   intro W hW
   refine (read18 a n c zs W hW h.len h.cap.1 h.cap.2).mono ?_
   rintro e w' ⟨q1, q2, q3⟩
   exact ⟨q1 hx, q3⟩
 have KY := fun W => Lib.hid (need_yes W)
 have KN := fun W => Lib.hid (need_no W)
 obtain ⟨v0, v1, v2, v3⟩ := two_at w (.cells #[.int .u16 0, .bool false, .int .i64 0, .bool false, .bool false, .bool false, .bool false, .bool false, .bool false, .int .i64 0, .slice none 0 0, .slice none 0 0, .slice none 0 0, .slice none 0 0] 26) (.cells #[.int .i64 0, .int .i64 0, .int .i64 0, .int .i64 0] 74)
 have HV : Hid (Below w.heap.size w ((w.alloc (.cells #[.int .u16 0, .bool false, .int .i64 0, .bool false, .bool false, .bool false, .bool false, .bool false, .bool false, .int .i64 0, .slice none 0 0, .slice none 0 0, .slice none 0 0, .slice none 0 0] 26)).alloc (.cells #[.int .i64 0, .int .i64 0, .int .i64 0, .int .i64 0] 74))) := v3
 have HR0 := Lib.hid (h.below v3)
 clear h v0 v1 v2 v3 hx
 have c0 : ((w.alloc (.cells #[.int .u16 0, .bool false, .int .i64 0, .bool false, .bool false, .bool false, .bool false, .bool false, .bool false, .int .i64 0, .slice none 0 0, .slice none 0 0, .slice none 0 0, .slice none 0 0] 26)).alloc (.cells #[.int .i64 0, .int .i64 0, .int .i64 0, .int .i64 0] 74)).cell? ⟨r, 0, none⟩ = some (.slice a n c) := box_cell HR0.out.box 0 _ rfl
 have hlt : r < ((w.alloc (.cells #[.int .u16 0, .bool false, .int .i64 0, .bool false, .bool false, .bool false, .bool false, .bool false, .bool false, .int .i64 0, .slice none 0 0, .slice none 0 0, .slice none 0 0, .slice none 0 0] 26)).alloc (.cells #[.int .i64 0, .int .i64 0, .int .i64 0, .int .i64 0] 74)).heap.size := box_lt HR0.out.box
 go_enter Tryz.func99, Tryz.ntmps99
 go_upto_region 1 with fail
 generalize ((w.alloc (.cells #[.int .u16 0, .bool false, .int .i64 0, .bool false, .bool false, .bool false, .bool false, .bool false, .bool false, .int .i64 0, .slice none 0 0, .slice none 0 0, .slice none 0 0, .slice none 0 0] 26)).alloc (.cells #[.int .i64 0, .int .i64 0, .int .i64 0, .int .i64 0] 74)) = w0 at *
 go_wp2_with fail
 refine (K1.out w0 HR0.out.rd).mono ?_
 rintro e1 w1 ⟨rfl, hb1⟩
 obtain ⟨v0, v1, v2, v3⟩ := two_at w1 (.cells #[.int .u16 0, .bool false, .int .i64 0, .bool false, .bool false, .bool false, .bool false, .bool false, .bool false, .int .i64 0, .slice none 0 0, .slice none 0 0, .slice none 0 0, .slice none 0 0] 26) (.cells #[.int .i64 0, .int .i64 0, .int .i64 0, .int .i64 0] 74)
 have HB2 : Hid (Below w0.heap.size w0 ((w1.alloc (.cells #[.int .u16 0, .bool false, .int .i64 0, .bool false, .bool false, .bool false, .bool false, .bool false, .bool false, .int .i64 0, .slice none 0 0, .slice none 0 0, .slice none 0 0, .slice none 0 0] 26)).alloc (.cells #[.int .i64 0, .int .i64 0, .int .i64 0, .int .i64 0] 74))) := hb1.trans (v3.mono hb1.size)
 have HD2 : Hid (((w1.alloc (.cells #[.int .u16 0, .bool false, .int .i64 0, .bool false, .bool false, .bool false, .bool false, .bool false, .bool false, .int .i64 0, .slice none 0 0, .slice none 0 0, .slice none 0 0, .slice none 0 0] 26)).alloc (.cells #[.int .i64 0, .int .i64 0, .int .i64 0, .int .i64 0] 74)).heap[w1.heap.size + 1]? = some (.cells #[.int .i64 0, .int .i64 0, .int .i64 0, .int .i64 0] 74)) := v1
 obtain ⟨D0, hD0⟩ : ∃ D0, D0 = w1.heap.size := ⟨_, rfl⟩
 obtain ⟨D1, hD1⟩ : ∃ D1, D1 = D0 + 1 := ⟨_, rfl⟩
 rw [<- hD0, <- hD1] at HD2
 clear c0 hlt hb1 v0 v1 v2 v3 K1 HR0
 go_upto_region 2 with fail
 simp only [World.size_alloc, <- hD0, <- hD1]
 generalize ((w1.alloc (.cells #[.int .u16 0, .bool false, .int .i64 0, .bool false, .bool false, .bool false, .bool false, .bool false, .bool false, .int .i64 0, .slice none 0 0, .slice none 0 0, .slice none 0 0, .slice none 0 0] 26)).alloc (.cells #[.int .i64 0, .int .i64 0, .int .i64 0, .int .i64 0] 74)) = w2 at *
 clear hD0 hD1
 go_wp2_with fail
 refine (KN w2).out.mono ?_
 rintro e4 w4 ⟨rfl, hw4⟩
 subst w4
 go_wp2
 exact ⟨rfl, rfl, grown_trans (grown_of HV.out) (grown_of HB2.out)⟩
set_option maxHeartbeats 4000000 in
theorem rhead_noQ (r : Nat) (a : Option Addr) (n c : Nat) (zs : List Int) (p : Nat) (w : World) (h : Rdr w r a n c zs p) (hgood : ¬ (zs.length < 12 ∨ unfl (nv zs 1) 64 = true)) (hq : ¬ nv zs 2 <= 16) :
   Calls Tryz.prog 99 #[.pointer (some ⟨r, 0, none⟩)] w fun e w' => e = .panicked thrown /\ Hid (w.grownBy w' (some r)) := by
 have K1 : Hid (∀ W, Rd W a zs -> Calls Tryz.prog 135 #[.slice a n c] W fun e w' => e = .returned (.tuple #[.agg #[.int .u16 (nv zs 0 : Int), .bool (unfl (nv zs 1) 32768), .int .i64 (unop (nv zs 1) : Nat), .bool (unfl (nv zs 1) 1024), .bool (unfl (nv zs 1) 512), .bool (unfl (nv zs 1) 256), .bool (unfl (nv zs 1) 128), .bool (unfl (nv zs 1) 32), .bool (unfl (nv zs 1) 16), .int .i64 (unrc (nv zs 1) : Nat), .slice none 0 0, .slice none 0 0, .slice none 0 0, .slice none 0 0], .agg #[.int .i64 (nv zs 2 : Int), .int .i64 (nv zs 3 : Int), .int .i64 (nv zs 4 : Int), .int .i64 (nv zs 5 : Int)], .int .i64 0]) /\ Below W.heap.size W w') := by
   intro W hW
   refine (read18 a n c zs W hW h.len h.cap.1 h.cap.2).mono ?_
   rintro e w' ⟨q1, q2, q3⟩
   exact ⟨q2 hgood, q3⟩
 have nb2 : nv zs 2 <= 65535 := nv_top h.rd.2 2
 have nb3 : nv zs 3 <= 65535 := nv_top h.rd.2 3
 have nb4 : nv zs 4 <= 65535 := nv_top h.rd.2 4
 have nb5 : nv zs 5 <= 65535 := nv_top h.rd.2 5
 clear hgood
 generalize nv zs 0 = I at *
 generalize nv zs 1 = F at *
 generalize nv zs 2 = C2 at *
 generalize nv zs 3 = C3 at *
 generalize nv zs 4 = C4 at *
 generalize nv zs 5 = C5 at *
 have KY := fun W => Lib.hid (need_yes W)
 have KN := fun W => Lib.hid (need_no W)
 obtain ⟨v0, v1, v2, v3⟩ := two_at w (.cells #[.int .u16 0, .bool false, .int .i64 0, .bool false, .bool false, .bool false, .bool false, .bool false, .bool false, .int .i64 0, .slice none 0 0, .slice none 0 0, .slice none 0 0, .slice none 0 0] 26) (.cells #[.int .i64 0, .int .i64 0, .int .i64 0, .int .i64 0] 74)
 have HV : Hid (Below w.heap.size w ((w.alloc (.cells #[.int .u16 0, .bool false, .int .i64 0, .bool false, .bool false, .bool false, .bool false, .bool false, .bool false, .int .i64 0, .slice none 0 0, .slice none 0 0, .slice none 0 0, .slice none 0 0] 26)).alloc (.cells #[.int .i64 0, .int .i64 0, .int .i64 0, .int .i64 0] 74))) := v3
 have HR0 := Lib.hid (h.below v3)
 clear h v0 v1 v2 v3
 have c0 : ((w.alloc (.cells #[.int .u16 0, .bool false, .int .i64 0, .bool false, .bool false, .bool false, .bool false, .bool false, .bool false, .int .i64 0, .slice none 0 0, .slice none 0 0, .slice none 0 0, .slice none 0 0] 26)).alloc (.cells #[.int .i64 0, .int .i64 0, .int .i64 0, .int .i64 0] 74)).cell? ⟨r, 0, none⟩ = some (.slice a n c) := box_cell HR0.out.box 0 _ rfl
 have hlt : r < ((w.alloc (.cells #[.int .u16 0, .bool false, .int .i64 0, .bool false, .bool false, .bool false, .bool false, .bool false, .bool false, .int .i64 0, .slice none 0 0, .slice none 0 0, .slice none 0 0, .slice none 0 0] 26)).alloc (.cells #[.int .i64 0, .int .i64 0, .int .i64 0, .int .i64 0] 74)).heap.size := box_lt HR0.out.box
 go_enter Tryz.func99, Tryz.ntmps99
 go_upto_region 1 with fail
 generalize ((w.alloc (.cells #[.int .u16 0, .bool false, .int .i64 0, .bool false, .bool false, .bool false, .bool false, .bool false, .bool false, .int .i64 0, .slice none 0 0, .slice none 0 0, .slice none 0 0, .slice none 0 0] 26)).alloc (.cells #[.int .i64 0, .int .i64 0, .int .i64 0, .int .i64 0] 74)) = w0 at *
 go_wp2_with fail
 refine (K1.out w0 HR0.out.rd).mono ?_
 rintro e1 w1 ⟨rfl, hb1⟩
 obtain ⟨v0, v1, v2, v3⟩ := two_at w1 (.cells #[.int .u16 (I : Int), .bool (unfl F 32768), .int .i64 (unop F : Nat), .bool (unfl F 1024), .bool (unfl F 512), .bool (unfl F 256), .bool (unfl F 128), .bool (unfl F 32), .bool (unfl F 16), .int .i64 (unrc F : Nat), .slice none 0 0, .slice none 0 0, .slice none 0 0, .slice none 0 0] 26) (.cells #[.int .i64 (C2 : Int), .int .i64 (C3 : Int), .int .i64 (C4 : Int), .int .i64 (C5 : Int)] 74)
 have HB2 : Hid (Below w0.heap.size w0 ((w1.alloc (.cells #[.int .u16 (I : Int), .bool (unfl F 32768), .int .i64 (unop F : Nat), .bool (unfl F 1024), .bool (unfl F 512), .bool (unfl F 256), .bool (unfl F 128), .bool (unfl F 32), .bool (unfl F 16), .int .i64 (unrc F : Nat), .slice none 0 0, .slice none 0 0, .slice none 0 0, .slice none 0 0] 26)).alloc (.cells #[.int .i64 (C2 : Int), .int .i64 (C3 : Int), .int .i64 (C4 : Int), .int .i64 (C5 : Int)] 74))) := hb1.trans (v3.mono hb1.size)
 have HD2 : Hid (((w1.alloc (.cells #[.int .u16 (I : Int), .bool (unfl F 32768), .int .i64 (unop F : Nat), .bool (unfl F 1024), .bool (unfl F 512), .bool (unfl F 256), .bool (unfl F 128), .bool (unfl F 32), .bool (unfl F 16), .int .i64 (unrc F : Nat), .slice none 0 0, .slice none 0 0, .slice none 0 0, .slice none 0 0] 26)).alloc (.cells #[.int .i64 (C2 : Int), .int .i64 (C3 : Int), .int .i64 (C4 : Int), .int .i64 (C5 : Int)] 74)).heap[w1.heap.size + 1]? = some (.cells #[.int .i64 (C2 : Int), .int .i64 (C3 : Int), .int .i64 (C4 : Int), .int .i64 (C5 : Int)] 74)) := v1
 obtain ⟨D0, hD0⟩ : ∃ D0, D0 = w1.heap.size := ⟨_, rfl⟩
 obtain ⟨D1, hD1⟩ : ∃ D1, D1 = D0 + 1 := ⟨_, rfl⟩
 rw [<- hD0, <- hD1] at HD2
 clear c0 hlt hb1 v0 v1 v2 v3 K1 HR0
 go_upto_region 2 with fail
 simp only [World.size_alloc, <- hD0, <- hD1]
 generalize ((w1.alloc (.cells #[.int .u16 (I : Int), .bool (unfl F 32768), .int .i64 (unop F : Nat), .bool (unfl F 1024), .bool (unfl F 512), .bool (unfl F 256), .bool (unfl F 128), .bool (unfl F 32), .bool (unfl F 16), .int .i64 (unrc F : Nat), .slice none 0 0, .slice none 0 0, .slice none 0 0, .slice none 0 0] 26)).alloc (.cells #[.int .i64 (C2 : Int), .int .i64 (C3 : Int), .int .i64 (C4 : Int), .int .i64 (C5 : Int)] 74)) = w2 at *
 have k0 : w2.cell? ⟨D1, 0, none⟩ = some (.int .i64 (C2 : Int)) := box_cell HD2.out 0 _ rfl
 have k1 : w2.cell? ⟨D1, 1, none⟩ = some (.int .i64 (C3 : Int)) := box_cell HD2.out 1 _ rfl
 have k2 : w2.cell? ⟨D1, 2, none⟩ = some (.int .i64 (C4 : Int)) := box_cell HD2.out 2 _ rfl
 have k3 : w2.cell? ⟨D1, 3, none⟩ = some (.int .i64 (C5 : Int)) := box_cell HD2.out 3 _ rfl
 have hltD := box_lt HD2.out
 clear hD0 hD1
 go_wp2_with fail
 refine (KY w2).out.mono ?_
 rintro e3 w3 ⟨rfl, hw3⟩
 subst w3
 have j1 : ¬ (C2 : Int) <= 16 := by omega
 have j1b : (16 : Int) < (C2 : Int) := by omega
 have j1d : decide ((C2 : Int) <= 16) = false := decide_eq_false j1
 go_wp2_with fail
 try rw [j1d]
 refine (KN w2).out.mono ?_
 rintro e4 w4 ⟨rfl, hw4⟩
 subst w4
 go_wp2
 exact ⟨rfl, rfl, grown_trans (grown_of HV.out) (grown_of HB2.out)⟩
set_option maxHeartbeats 4000000 in
theorem rhead_noS (r : Nat) (a : Option Addr) (n c : Nat) (zs : List Int) (p : Nat) (w : World) (h : Rdr w r a n c zs p) (hgood : ¬ (zs.length < 12 ∨ unfl (nv zs 1) 64 = true)) (hq : nv zs 2 <= 16) (hs : ¬ nv zs 3 + nv zs 4 + nv zs 5 <= 512) :
   Calls Tryz.prog 99 #[.pointer (some ⟨r, 0, none⟩)] w fun e w' => e = .panicked thrown /\ Hid (w.grownBy w' (some r)) := by
 have K1 : Hid (∀ W, Rd W a zs -> Calls Tryz.prog 135 #[.slice a n c] W fun e w' => e = .returned (.tuple #[.agg #[.int .u16 (nv zs 0 : Int), .bool (unfl (nv zs 1) 32768), .int .i64 (unop (nv zs 1) : Nat), .bool (unfl (nv zs 1) 1024), .bool (unfl (nv zs 1) 512), .bool (unfl (nv zs 1) 256), .bool (unfl (nv zs 1) 128), .bool (unfl (nv zs 1) 32), .bool (unfl (nv zs 1) 16), .int .i64 (unrc (nv zs 1) : Nat), .slice none 0 0, .slice none 0 0, .slice none 0 0, .slice none 0 0], .agg #[.int .i64 (nv zs 2 : Int), .int .i64 (nv zs 3 : Int), .int .i64 (nv zs 4 : Int), .int .i64 (nv zs 5 : Int)], .int .i64 0]) /\ Below W.heap.size W w') := by
   intro W hW
   refine (read18 a n c zs W hW h.len h.cap.1 h.cap.2).mono ?_
   rintro e w' ⟨q1, q2, q3⟩
   exact ⟨q2 hgood, q3⟩
 have nb2 : nv zs 2 <= 65535 := nv_top h.rd.2 2
 have nb3 : nv zs 3 <= 65535 := nv_top h.rd.2 3
 have nb4 : nv zs 4 <= 65535 := nv_top h.rd.2 4
 have nb5 : nv zs 5 <= 65535 := nv_top h.rd.2 5
 clear hgood
 generalize nv zs 0 = I at *
 generalize nv zs 1 = F at *
 generalize nv zs 2 = C2 at *
 generalize nv zs 3 = C3 at *
 generalize nv zs 4 = C4 at *
 generalize nv zs 5 = C5 at *
 have KY := fun W => Lib.hid (need_yes W)
 have KN := fun W => Lib.hid (need_no W)
 obtain ⟨v0, v1, v2, v3⟩ := two_at w (.cells #[.int .u16 0, .bool false, .int .i64 0, .bool false, .bool false, .bool false, .bool false, .bool false, .bool false, .int .i64 0, .slice none 0 0, .slice none 0 0, .slice none 0 0, .slice none 0 0] 26) (.cells #[.int .i64 0, .int .i64 0, .int .i64 0, .int .i64 0] 74)
 have HV : Hid (Below w.heap.size w ((w.alloc (.cells #[.int .u16 0, .bool false, .int .i64 0, .bool false, .bool false, .bool false, .bool false, .bool false, .bool false, .int .i64 0, .slice none 0 0, .slice none 0 0, .slice none 0 0, .slice none 0 0] 26)).alloc (.cells #[.int .i64 0, .int .i64 0, .int .i64 0, .int .i64 0] 74))) := v3
 have HR0 := Lib.hid (h.below v3)
 clear h v0 v1 v2 v3
 have c0 : ((w.alloc (.cells #[.int .u16 0, .bool false, .int .i64 0, .bool false, .bool false, .bool false, .bool false, .bool false, .bool false, .int .i64 0, .slice none 0 0, .slice none 0 0, .slice none 0 0, .slice none 0 0] 26)).alloc (.cells #[.int .i64 0, .int .i64 0, .int .i64 0, .int .i64 0] 74)).cell? ⟨r, 0, none⟩ = some (.slice a n c) := box_cell HR0.out.box 0 _ rfl
 have hlt : r < ((w.alloc (.cells #[.int .u16 0, .bool false, .int .i64 0, .bool false, .bool false, .bool false, .bool false, .bool false, .bool false, .int .i64 0, .slice none 0 0, .slice none 0 0, .slice none 0 0, .slice none 0 0] 26)).alloc (.cells #[.int .i64 0, .int .i64 0, .int .i64 0, .int .i64 0] 74)).heap.size := box_lt HR0.out.box
 go_enter Tryz.func99, Tryz.ntmps99
 go_upto_region 1 with fail
 generalize ((w.alloc (.cells #[.int .u16 0, .bool false, .int .i64 0, .bool false, .bool false, .bool false, .bool false, .bool false, .bool false, .int .i64 0, .slice none 0 0, .slice none 0 0, .slice none 0 0, .slice none 0 0] 26)).alloc (.cells #[.int .i64 0, .int .i64 0, .int .i64 0, .int .i64 0] 74)) = w0 at *
 go_wp2_with fail
 refine (K1.out w0 HR0.out.rd).mono ?_
 rintro e1 w1 ⟨rfl, hb1⟩
 obtain ⟨v0, v1, v2, v3⟩ := two_at w1 (.cells #[.int .u16 (I : Int), .bool (unfl F 32768), .int .i64 (unop F : Nat), .bool (unfl F 1024), .bool (unfl F 512), .bool (unfl F 256), .bool (unfl F 128), .bool (unfl F 32), .bool (unfl F 16), .int .i64 (unrc F : Nat), .slice none 0 0, .slice none 0 0, .slice none 0 0, .slice none 0 0] 26) (.cells #[.int .i64 (C2 : Int), .int .i64 (C3 : Int), .int .i64 (C4 : Int), .int .i64 (C5 : Int)] 74)
 have HB2 : Hid (Below w0.heap.size w0 ((w1.alloc (.cells #[.int .u16 (I : Int), .bool (unfl F 32768), .int .i64 (unop F : Nat), .bool (unfl F 1024), .bool (unfl F 512), .bool (unfl F 256), .bool (unfl F 128), .bool (unfl F 32), .bool (unfl F 16), .int .i64 (unrc F : Nat), .slice none 0 0, .slice none 0 0, .slice none 0 0, .slice none 0 0] 26)).alloc (.cells #[.int .i64 (C2 : Int), .int .i64 (C3 : Int), .int .i64 (C4 : Int), .int .i64 (C5 : Int)] 74))) := hb1.trans (v3.mono hb1.size)
 have HD2 : Hid (((w1.alloc (.cells #[.int .u16 (I : Int), .bool (unfl F 32768), .int .i64 (unop F : Nat), .bool (unfl F 1024), .bool (unfl F 512), .bool (unfl F 256), .bool (unfl F 128), .bool (unfl F 32), .bool (unfl F 16), .int .i64 (unrc F : Nat), .slice none 0 0, .slice none 0 0, .slice none 0 0, .slice none 0 0] 26)).alloc (.cells #[.int .i64 (C2 : Int), .int .i64 (C3 : Int), .int .i64 (C4 : Int), .int .i64 (C5 : Int)] 74)).heap[w1.heap.size + 1]? = some (.cells #[.int .i64 (C2 : Int), .int .i64 (C3 : Int), .int .i64 (C4 : Int), .int .i64 (C5 : Int)] 74)) := v1
 obtain ⟨D0, hD0⟩ : ∃ D0, D0 = w1.heap.size := ⟨_, rfl⟩
 obtain ⟨D1, hD1⟩ : ∃ D1, D1 = D0 + 1 := ⟨_, rfl⟩
 rw [<- hD0, <- hD1] at HD2
 clear c0 hlt hb1 v0 v1 v2 v3 K1 HR0
 go_upto_region 2 with fail
 simp only [World.size_alloc, <- hD0, <- hD1]
 generalize ((w1.alloc (.cells #[.int .u16 (I : Int), .bool (unfl F 32768), .int .i64 (unop F : Nat), .bool (unfl F 1024), .bool (unfl F 512), .bool (unfl F 256), .bool (unfl F 128), .bool (unfl F 32), .bool (unfl F 16), .int .i64 (unrc F : Nat), .slice none 0 0, .slice none 0 0, .slice none 0 0, .slice none 0 0] 26)).alloc (.cells #[.int .i64 (C2 : Int), .int .i64 (C3 : Int), .int .i64 (C4 : Int), .int .i64 (C5 : Int)] 74)) = w2 at *
 have k0 : w2.cell? ⟨D1, 0, none⟩ = some (.int .i64 (C2 : Int)) := box_cell HD2.out 0 _ rfl
 have k1 : w2.cell? ⟨D1, 1, none⟩ = some (.int .i64 (C3 : Int)) := box_cell HD2.out 1 _ rfl
 have k2 : w2.cell? ⟨D1, 2, none⟩ = some (.int .i64 (C4 : Int)) := box_cell HD2.out 2 _ rfl
 have k3 : w2.cell? ⟨D1, 3, none⟩ = some (.int .i64 (C5 : Int)) := box_cell HD2.out 3 _ rfl
 have hltD := box_lt HD2.out
 clear hD0 hD1
 go_wp2_with fail
 refine (KY w2).out.mono ?_
 rintro e3 w3 ⟨rfl, hw3⟩
 subst w3
 have j1 : (C2 : Int) <= 16 := by omega
 have j2 : ¬ ((C3 : Int) + (C4 : Int)) + (C5 : Int) <= 512 := by omega
 have j2b : 512 < ((C3 : Int) + (C4 : Int)) + (C5 : Int) := by omega
 have j3 : IntKind.i64.wrap ((C3 : Int) + (C4 : Int)) = (C3 : Int) + (C4 : Int) := wrap_in (by omega) (by omega)
 have j4 : IntKind.i64.wrap (((C3 : Int) + (C4 : Int)) + (C5 : Int)) = ((C3 : Int) + (C4 : Int)) + (C5 : Int) := wrap_in (by omega) (by omega)
 go_wp2_with fail
 try rw [show decide (((C3 : Int) + (C4 : Int)) + (C5 : Int) <= 512) = false from decide_eq_false (by omega)]
 refine (KN w2).out.mono ?_
 rintro e4 w4 ⟨rfl, hw4⟩
 subst w4
 go_wp2
 exact ⟨rfl, rfl, grown_trans (grown_of HV.out) (grown_of HB2.out)⟩
theorem rhead_no (r : Nat) (a : Option Addr) (n c : Nat) (zs : List Int) (p : Nat) (w : World) (h : Rdr w r a n c zs p) (hx : hdBad zs) :
   Calls Tryz.prog 99 #[.pointer (some ⟨r, 0, none⟩)] w fun e w' => e = .panicked thrown /\ Hid (w.grownBy w' (some r)) := by
 by_cases hg : zs.length < 12 ∨ unfl (nv zs 1) 64 = true
 · exact rhead_noE r a n c zs p w h hg
 · rcases hx with hx | hx
   · exact absurd hx hg
   · by_cases hq : nv zs 2 <= 16
     · exact rhead_noS r a n c zs p w h hg hq (fun e => hx ⟨hq, e⟩)
     · exact rhead_noQ r a n c zs p w h hg hq
end Go.Proofs.YteplffhfeoephaaGreat
namespace Go.Proofs.YteplffhfeoephaaGreat
open Go.ChangeShapes Go.WideShapes Go.ChangeAt Go.RowKit
def qCells (x : Sl) (r : Qn) : List Value := [.slice x.a x.n x.c, .int .u16 r.ty, .int .u16 r.cl]
def cellsQ (ps : List (Sl × Qn)) : List Value := ps.flatMap fun p => qCells p.1 p.2
theorem cellsQ_at (ps : List (Sl × Qn)) (k : Nat) (h : k < ps.length) (j : Nat) (hj : j < 3) : (cellsQ ps)[k * 3 + j]? = (qCells ps[k].1 ps[k].2)[j]? := by
 induction ps generalizing k with
 | nil => simp at h
 | cons p ws ih =>
   have hc : cellsQ (p :: ws) = qCells p.1 p.2 ++ cellsQ ws := by simp [cellsQ]
   have h8 : (qCells p.1 p.2).length = 3 := rfl
   rw [hc]
   cases k with
   | zero => rw [List.getElem?_append_left (by rw [h8]; omega)]; simp
   | succ k =>
     have := ih k (by simpa using h)
     rw [List.getElem?_append_right (by rw [h8]; omega), h8, show (k + 1) * 3 + j - 3 = k * 3 + j by omega, this]
     simp
theorem cellsQ_app (a b : List (Sl × Qn)) : cellsQ (a ++ b) = cellsQ a ++ cellsQ b := by simp [cellsQ]
theorem cellsQ_one (xs : List (Sl × Qn)) : ∀ u ∈ cellsQ xs, u.oneCell' = true := by
 intro u hu
 simp only [cellsQ, List.mem_flatMap] at hu
 obtain ⟨p, _, hu⟩ := hu
 simp [qCells] at hu
 rcases hu with rfl | rfl | rfl <;> rfl
def QRd (w : World) (x : Sl) (r : Qn) : Prop := TRd w x r.nm
def QOwx (B : Nat) (w : World) (x : Sl) (r : Qn) : Prop := Owx1 B w x r.nm
def RdQ (w : World) (a : Option Addr) (rs : List Qn) : Prop :=
 rs = [] ∨ ∃ b o, a = some ⟨b, o, none⟩ /\ b < w.heap.size /\ ∀ i (h : i < rs.length), ∃ x : Sl, (∀ j (hj : j < 3), w.cell? ⟨b, o + i * 3 + j, none⟩ = (qCells x rs[i])[j]?) /\ QRd w x rs[i]
def RfQ (B : Nat) (w : World) (g : Option Nat) (x : Sl) (r : Qn) : Prop :=
 ∀ w' : World, w.heap.size <= w'.heap.size -> (∀ j, j < w.heap.size -> B <= j -> some j ≠ g -> w'.heap[j]? = w.heap[j]?) -> QRd w' x r
theorem RfQ.of {B B' : Nat} {w : World} {g : Option Nat} {x : Sl} {r : Qn} (h : QOwx B' w x r) (hB : B <= B') (hg : ∀ k, g = some k -> k < B') : RfQ B w g x r := by
 intro w' hs hb
 have hk : ∀ j, B' <= j -> j < w.heap.size -> w'.heap[j]? = w.heap[j]? := fun j h1 h2 => hb j h2 (by omega) (fun e => by have := hg j e.symm; omega)
 exact (Owx1.keep h (fun j h1 h2 _ => hk j h1 h2)).rd
theorem RfQ.go {B : Nat} {w w' : World} {g g' : Option Nat} {x : Sl} {r : Qn} (h : RfQ B w g x r) (hs : w.heap.size <= w'.heap.size) (hb : ∀ j, j < w.heap.size -> B <= j -> some j ≠ g -> w'.heap[j]? = w.heap[j]?) (hg : ∀ j, j < w.heap.size -> some j ≠ g -> some j ≠ g') : RfQ B w' g' x r := by
 intro w2 hs2 hb2
 exact h w2 (Nat.le_trans hs hs2) (fun j h1 h2 h3 => (hb2 j (by omega) h2 (hg j h1 h3)).trans (hb j h1 h2 h3))
def OwQ (B : Nat) (w : World) (v : Value) (rs : List Qn) : Prop :=
 ∃ ps : List (Sl × Qn), ps.map (·.2) = rs /\ w.ownsRow B 64 3 v ps.length (cellsQ ps) /\ ∀ p ∈ ps, RfQ B w v.ownBlock p.1 p.2
theorem OwQ.stays {B : Nat} {w w' : World} {v : Value} {rs : List Qn} (h : OwQ B w v rs) (hb : Below w.heap.size w w') : OwQ B w' v rs := by
 obtain ⟨ps, h1, h2, h3⟩ := h
 exact ⟨ps, h1, ownsRow_stays h2 hb, fun p hp => (h3 p hp).go hb.size (fun j hj _ _ => hb.block j hj) (fun j _ h => h)⟩
theorem OwQ.mono {B B' : Nat} {w : World} {v : Value} {rs : List Qn} (h : OwQ B w v rs) (hB : B' <= B) : OwQ B' w v rs := by
 obtain ⟨ps, h1, h2, h3⟩ := h
 exact ⟨ps, h1, ownsRow_low h2 hB, fun p hp w' hs hb => h3 p hp w' hs (fun j e1 e2 e3 => hb j e1 (by omega) e3)⟩
theorem OwQ.rd {B : Nat} {w : World} {v : Value} {rs : List Qn} (h : OwQ B w v rs) : ∃ a c, v = .slice a rs.length c /\ RdQ w a rs /\ rs.length <= c /\ c <= 9223372036854775807 /\ (a = none -> c = 0) := by
 obtain ⟨ps, rfl, h2, h3⟩ := h
 have hpl : (ps.map (·.2)).length = ps.length := by simp
 rw [hpl]
 rcases h2.2 with ⟨rfl, h0⟩ | ⟨g, cap, cur, rfl, hb, hg, k1, k2, k3, k4⟩
 · have : ps = [] := List.length_eq_zero_iff.1 h0
   subst this
   exact ⟨none, 0, rfl, .inl rfl, by simp, by omega, fun _ => rfl⟩
 · refine ⟨_, cap, rfl, .inr ⟨g, 0, rfl, (Array.getElem?_eq_some_iff.1 hg).1, fun i hi => ?_⟩, k1, by simpa only [maxLen] using k2, by simp⟩
   have hi' : i < ps.length := by simpa using hi
   have ad : ∀ j, (⟨g, 0, none⟩ : Addr).add j = ⟨g, 0 + j, none⟩ := fun j => by unfold Addr.add; split <;> simp_all
   have hgi : (ps.map (·.2))[i] = ps[i].2 := by simp
   refine ⟨ps[i].1, fun j hj => ?_, ?_⟩
   · rw [hgi]
     have e1 := cellsQ_at ps i hi' j hj
     have hlt : j < (qCells ps[i].1 ps[i].2).length := hj
     rw [List.getElem?_eq_getElem hlt] at e1 ⊢
     have := h2.cells (g := g) rfl _ _ e1
     rw [ad] at this
     rw [Nat.add_assoc]; exact this
   · rw [hgi]
     exact h3 ps[i] (List.getElem_mem _) w (Nat.le_refl _) (fun _ _ _ _ => rfl)
theorem one_qn (w : World) (x : Sl) (r : Qn) : ∀ j u, (cellsQ [(x, r)])[j]? = some u -> (w.alloc (.cells (qCells x r).toArray 64)).cell? ((⟨w.heap.size, 0, none⟩ : Addr).add j) = some u := by
 intro j u hu
 have ad : (⟨w.heap.size, 0, none⟩ : Addr).add j = ⟨w.heap.size, j, none⟩ := by unfold Addr.add; split <;> simp_all
 rw [ad]
 unfold World.cell?
 rw [heap_alloc_new]
 have : cellsQ [(x, r)] = qCells x r := by simp [cellsQ]
 rw [this] at hu
 simpa using hu
theorem OwQ.nil (B : Nat) (w : World) : OwQ B w (.slice none 0 0) [] := ⟨[], rfl, ⟨rfl, .inl ⟨rfl, rfl⟩⟩, by simp⟩
theorem OwQ.qs {B : Nat} {w : World} {v : Value} {qs : List Qn} (h : OwQ B w v qs) (hb : ∀ q ∈ qs, q.ty < 65536 /\ q.cl < 65536) : ∃ a c, v = .slice a qs.length c /\ QsRd w ⟨a, qs.length, c⟩ qs := by
 obtain ⟨a, c, rfl, h1, h2, h3, h4⟩ := h.rd
 refine ⟨a, c, rfl, ?_, rfl, ⟨h2, h3⟩, h4⟩
 rcases h1 with h1 | ⟨b, o, e1, e2, e3⟩
 · exact .inl h1
 · refine .inr ⟨b, o, e1, e2, fun i hi => ?_⟩
   obtain ⟨x, g1, g2⟩ := e3 i hi
   have q := hb qs[i] (List.getElem_mem hi)
   exact ⟨⟨x, qs[i].ty, qs[i].cl⟩, g1 0 (by omega), g1 1 (by omega), g1 2 (by omega), ⟨g2, rfl, rfl, q.1, q.2⟩⟩
end Go.Proofs.YteplffhfeoephaaGreat
