/- Texts laid together, in parts: Mwi Mwj Mwl Mwm Vv Mla Mlb Mlc Mld Mlo Mlp Mlq. -/
import Derived.Test.YtkjnbgekaifdfaaGreatWpi
import Derived.Deep.RegionHeld3
import Derived.Lib.OwnKind
import Derived.Deep.AppendLies
import Derived.Deep.Upon
set_option maxRecDepth 100000
set_option linter.unusedVariables false
set_option linter.unusedSimpArgs false
namespace Go.Proofs.YtkjnbgekaifdfaaGreat
open Go.ChangeShapes Go.WideShapes Go.ChangeAt Go.RowKit Go.Maps
structure LRd (w : World) (s : Sl) (rs : List Rec) : Prop where
 rd : RdR w s.a rs
 len : rs.length = s.n
 cap : s.n <= s.c /\ s.c <= 9223372036854775807
 nil : s.a = none -> s.c = 0
theorem LRd.below {w w' : World} {s : Sl} {rs : List Rec} (h : LRd w s rs) (hb : Below w.heap.size w w') : LRd w' s rs := ⟨h.rd.below hb, h.len, h.cap, h.nil⟩
structure MRd (w : World) (H : Hd) (x : MA) (m : Mg) : Prop where
 h : m.h = H
 q : QsRd w x.q m.qs
 l1 : LRd w x.l1 m.l1
 l2 : LRd w x.l2 m.l2
 l3 : LRd w x.l3 m.l3
 b : Mb m
theorem MRd.below {w w' : World} {H : Hd} {x : MA} {m : Mg} (h : MRd w H x m) (hb : Below w.heap.size w w') : MRd w' H x m := ⟨h.h, h.q.below hb, h.l1.below hb, h.l2.below hb, h.l3.below hb, h.b⟩
def nthL (m : Mg) (k : Nat) : List Rec := if k = 0 then m.l1 else if k = 1 then m.l2 else m.l3
theorem MRd.nth {w : World} {H : Hd} {x : MA} {m : Mg} (h : MRd w H x m) (k : Nat) : LRd w (nth3 x k) (nthL m k) /\ ∀ r ∈ nthL m k, Rb r := by
 unfold nth3 nthL
 split
 · exact ⟨h.l1, h.b.2.2.1⟩
 · split
   · exact ⟨h.l2, h.b.2.2.2.1⟩
   · exact ⟨h.l3, h.b.2.2.2.2⟩
def BdM (m : Mg) : Prop := ∀ k, ∀ r ∈ nthL m k, Bd r.d
def aftm (m : Mg) (s : WSt) : Nat -> WSt
 | 0 => s
 | k + 1 => prun (pls ((nthL m k).map prec)) (aftm m s k)
theorem pmsg_run (m : Mg) : prun (pmsg m) (some ([], [])) = aftm m (prun (pls (m.qs.map pqn)) (prun (pby (hdB m.h m.qs.length m.l1.length m.l2.length m.l3.length)) (some ([], [])))) 3 := by
 rw [pmsg, pbody, prun_seq, prun_seq, prun_seq, prun_seq]
 rfl
theorem ChkOk.nth {m : Mg} (h : ChkOk m) (k : Nat) : ∀ r ∈ nthL m k, nck r.ow = 0 /\ checkF r.t r.d = 0 := by
 unfold nthL
 split
 · exact h.l1
 · split
   · exact h.l2
   · exact h.l3
def WrR (r : WSt) (w' : World) (s : Sl) (er : Int) : Prop := match r with
 | none => er = 3 /\ s = ⟨none, 0, 0⟩
 | some z => er = 0 /\ BRd w' s z.1
def WrP (r : WSt) (w : World) (e : Ending) (w' : World) : Prop := ∃ (s : Sl) (er : Int), e = .returned (.tuple #[.slice s.a s.n s.c, .int .i64 er]) /\ Hid (WrR r w' s er /\ Below w.heap.size w w')
theorem head_ok (H : Hd) (x : MA) (c0 c1 c2 c3 : Nat) (hH : hdOk H) (hi : H.id < 65536) (h0 : c0 <= 65535) (h1 : c1 <= 65535) (h2 : c2 <= 65535) (h3 : c3 <= 65535) (W : World) :
   Calls Tryz.prog 41 #[.agg #[.int .u16 H.id, .bool H.rs, .int .i64 H.op, .bool H.aa, .bool H.tc, .bool H.rd, .bool H.ra, .bool H.ad, .bool H.cd, .int .i64 H.rc, .slice x.q.a x.q.n x.q.c, .slice x.l1.a x.l1.n x.l1.c, .slice x.l2.a x.l2.n x.l2.c, .slice x.l3.a x.l3.n x.l3.c], .agg #[.int .i64 (c0 : Int), .int .i64 (c1 : Int), .int .i64 (c2 : Int), .int .i64 (c3 : Int)]] W fun e w' => ∃ g', e = .returned (.tuple #[.slice (some ⟨g', 0, none⟩) 12 12, .int .i64 0]) /\ Hid (Blk w' g' (hdB H c0 c1 c2 c3) /\ Below W.heap.size W w') := by
 have h := bytes10 H.id H.rs H.op.toNat H.aa H.tc H.rd H.ra H.ad H.cd H.rc.toNat x.q.a x.l1.a x.l2.a x.l3.a x.q.n x.l1.n x.l2.n x.l3.n x.q.c x.l1.c x.l2.c x.l3.c (c0 : Int) (c1 : Int) (c2 : Int) (c3 : Int) W hi (by have := hH.2.1; omega) (by have := hH.2.2.2; omega)
 rw [Int.toNat_of_nonneg hH.1, Int.toNat_of_nonneg hH.2.2.1] at h
 refine h.mono ?_
 rintro e w' ⟨b1, b2, b3⟩
 obtain ⟨g', e1, e2, e3⟩ := b1 (by
   have hN := hdN_lt hH
   unfold hdN at hN
   intro m hm
   simp only [nsL, List.mem_cons, List.not_mem_nil, or_false] at hm
   unfold okN
   rcases hm with rfl | rfl | rfl | rfl | rfl | rfl <;> omega)
 exact ⟨g', e1, e3, b3⟩
theorem BRd.of {w' : World} {a : Option Addr} {n c : Nat} {zs : List Int} (h : Rd w' a zs) (hl : zs.length = n) (hc : n <= c) (hc2 : c <= 9223372036854775807) (h0 : zs ≠ []) : BRd w' ⟨a, n, c⟩ zs := by
 refine ⟨h, hl, ⟨hc, hc2⟩, fun e => ?_⟩
 rcases h.1 with h1 | ⟨b, o, e2, _⟩
 · exact absurd h1 h0
 · rw [show a = none from e] at e2; cases e2
theorem prun_nil {B : Nat} {w : World} {h g : Nat} {s : WSt} (hm : MW B w h g s) : prun (pls []) s = s := by
 cases s with
 | none => rfl
 | some S =>
   have := hm.2.2.len
   simp only [pls, prun, Option.bind_some, pby, List.length_nil, Nat.add_zero, List.append_nil]
   rw [if_neg (by omega)]
set_option maxHeartbeats 4000000 in
theorem mwrite_any (H : Hd) (x : MA) (m : Mg) (w : World) (hm : MRd w H x m) (hck : ChkOk m) (hbd : BdM m) :
   Calls Tryz.prog 31 #[.agg #[.int .u16 H.id, .bool H.rs, .int .i64 H.op, .bool H.aa, .bool H.tc, .bool H.rd, .bool H.ra, .bool H.ad, .bool H.cd, .int .i64 H.rc, .slice x.q.a x.q.n x.q.c, .slice x.l1.a x.l1.n x.l1.c, .slice x.l2.a x.l2.n x.l2.c, .slice x.l3.a x.l3.n x.l3.c]] w (WrP (prun (pmsg m) (some ([], []))) w) := by
 have hq := hm.q.len
 have e1 := hm.l1.len
 have e2 := hm.l2.len
 have e3 := hm.l3.len
 have hnq := hck.nq
 have hnr := hck.nr
 unfold tot at hnr
 have hH : hdOk H := by rw [<- hm.h]; exact hck.hd
 have hid : H.id < 65536 := by rw [<- hm.h]; exact hm.b.1
 have KC := fun W => Lib.hid (counts_any H x W)
 have KH := fun W => Lib.hid (head_ok H x x.q.n x.l1.n x.l2.n x.l3.n hH hid (by omega) (by omega) (by omega) (by omega) W)
 have KSec : Hid (∀ W, Calls Tryz.prog 43 #[.pointer (some ⟨w.heap.size, 0, none⟩)] W fun e w' => e = .returned (.agg #[.pointer (some ⟨w.heap.size, 11, none⟩), .pointer (some ⟨w.heap.size, 12, none⟩), .pointer (some ⟨w.heap.size, 13, none⟩)]) /\ Hid (Below W.heap.size W w')) := fun W => sections_any w.heap.size W
 have HHD : Hid (hdB m.h m.qs.length m.l1.length m.l2.length m.l3.length = hdB H x.q.n x.l1.n x.l2.n x.l3.n) := (show _ = _ by rw [hm.h, hq, e1, e2, e3])
 generalize hdB H x.q.n x.l1.n x.l2.n x.l3.n = hb at *
 have hb0 : Below w.heap.size w (w.alloc (.cells #[.int .u16 H.id, .bool H.rs, .int .i64 H.op, .bool H.aa, .bool H.tc, .bool H.rd, .bool H.ra, .bool H.ad, .bool H.cd, .int .i64 H.rc, .slice x.q.a x.q.n x.q.c, .slice x.l1.a x.l1.n x.l1.c, .slice x.l2.a x.l2.n x.l2.c, .slice x.l3.a x.l3.n x.l3.c] 26)) := newq_below _ _
 have HBX : Hid ((w.alloc (.cells #[.int .u16 H.id, .bool H.rs, .int .i64 H.op, .bool H.aa, .bool H.tc, .bool H.rd, .bool H.ra, .bool H.ad, .bool H.cd, .int .i64 H.rc, .slice x.q.a x.q.n x.q.c, .slice x.l1.a x.l1.n x.l1.c, .slice x.l2.a x.l2.n x.l2.c, .slice x.l3.a x.l3.n x.l3.c] 26)).heap[w.heap.size]? = some (.cells #[.int .u16 H.id, .bool H.rs, .int .i64 H.op, .bool H.aa, .bool H.tc, .bool H.rd, .bool H.ra, .bool H.ad, .bool H.cd, .int .i64 H.rc, .slice x.q.a x.q.n x.q.c, .slice x.l1.a x.l1.n x.l1.c, .slice x.l2.a x.l2.n x.l2.c, .slice x.l3.a x.l3.n x.l3.c] 26)) := mbox_new H x w
 have HBel : Hid (Below w.heap.size w (w.alloc (.cells #[.int .u16 H.id, .bool H.rs, .int .i64 H.op, .bool H.aa, .bool H.tc, .bool H.rd, .bool H.ra, .bool H.ad, .bool H.cd, .int .i64 H.rc, .slice x.q.a x.q.n x.q.c, .slice x.l1.a x.l1.n x.l1.c, .slice x.l2.a x.l2.n x.l2.c, .slice x.l3.a x.l3.n x.l3.c] 26))) := hb0
 have HM : Hid (MRd w H x m /\ ChkOk m /\ BdM m) := ⟨hm, hck, hbd⟩
 have hqn : x.q.n <= 16 := by omega
 have hln : ∀ k, (nth3 x k).n <= 512 := by
   intro k
   unfold nth3
   split
   · omega
   · split <;> omega
 clear hm hck hbd hq e1 e2 e3 hH hid hnr hnq hb0
 go_enter Tryz.func31, Tryz.ntmps31
 go_wp2_with fail
 generalize w.alloc (.cells #[.int .u16 H.id, .bool H.rs, .int .i64 H.op, .bool H.aa, .bool H.tc, .bool H.rd, .bool H.ra, .bool H.ad, .bool H.cd, .int .i64 H.rc, .slice x.q.a x.q.n x.q.c, .slice x.l1.a x.l1.n x.l1.c, .slice x.l2.a x.l2.n x.l2.c, .slice x.l3.a x.l3.n x.l3.c] 26) = Z at *
 obtain ⟨b, hbb⟩ : ∃ b, b = w.heap.size := ⟨_, rfl⟩
 rw [<- hbb] at HBX KSec ⊢
 have HBB : Hid (b = w.heap.size) := hbb
 clear hbb
 have KS : ∀ W, Below Z.heap.size Z W -> (W.cell? ⟨b, 0, none⟩ = some (.int .u16 H.id) /\ W.cell? ⟨b, 1, none⟩ = some (.bool H.rs) /\ W.cell? ⟨b, 2, none⟩ = some (.int .i64 H.op) /\ W.cell? ⟨b, 3, none⟩ = some (.bool H.aa) /\ W.cell? ⟨b, 4, none⟩ = some (.bool H.tc) /\ W.cell? ⟨b, 5, none⟩ = some (.bool H.rd) /\ W.cell? ⟨b, 6, none⟩ = some (.bool H.ra) /\ W.cell? ⟨b, 7, none⟩ = some (.bool H.ad) /\ W.cell? ⟨b, 8, none⟩ = some (.bool H.cd) /\ W.cell? ⟨b, 9, none⟩ = some (.int .i64 H.rc) /\ W.cell? ⟨b, 10, none⟩ = some (.slice x.q.a x.q.n x.q.c) /\ W.cell? ⟨b, 11, none⟩ = some (.slice x.l1.a x.l1.n x.l1.c) /\ W.cell? ⟨b, 12, none⟩ = some (.slice x.l2.a x.l2.n x.l2.c) /\ W.cell? ⟨b, 13, none⟩ = some (.slice x.l3.a x.l3.n x.l3.c)) := fun W hW => mbox_cells ((hW.block b (box_lt HBX.out)).trans HBX.out)
 obtain ⟨z0, z1, z2, z3, z4, z5, z6, z7, z8, z9, z10, z11, z12, z13⟩ := KS Z (Below.refl _ _)
 have hbZ := box_lt HBX.out
 go_region_held3 (fun W => (W.cell? ⟨b, 0, none⟩ = some (.int .u16 H.id) /\ W.cell? ⟨b, 1, none⟩ = some (.bool H.rs) /\ W.cell? ⟨b, 2, none⟩ = some (.int .i64 H.op) /\ W.cell? ⟨b, 3, none⟩ = some (.bool H.aa) /\ W.cell? ⟨b, 4, none⟩ = some (.bool H.tc) /\ W.cell? ⟨b, 5, none⟩ = some (.bool H.rd) /\ W.cell? ⟨b, 6, none⟩ = some (.bool H.ra) /\ W.cell? ⟨b, 7, none⟩ = some (.bool H.ad) /\ W.cell? ⟨b, 8, none⟩ = some (.bool H.cd) /\ W.cell? ⟨b, 9, none⟩ = some (.int .i64 H.rc) /\ W.cell? ⟨b, 10, none⟩ = some (.slice x.q.a x.q.n x.q.c) /\ W.cell? ⟨b, 11, none⟩ = some (.slice x.l1.a x.l1.n x.l1.c) /\ W.cell? ⟨b, 12, none⟩ = some (.slice x.l2.a x.l2.n x.l2.c) /\ W.cell? ⟨b, 13, none⟩ = some (.slice x.l3.a x.l3.n x.l3.c))) (first | exact KS _ HB2.out | exact KS _ HB1.out | exact KS _ (Below.refl Z.heap.size Z).drew | exact KS _ (Below.refl Z.heap.size Z) | exact KS _ HB2.out.drew | exact KS _ HB1.out.drew) (first
   | (go_at_call 51; refine Calls.mono (KC _).out ?_; rintro e w1 ⟨rfl, H1⟩; have HB1 : Hid (Below Z.heap.size Z w1) := (by first | exact Below.trans ((Below.refl Z.heap.size Z).drew) (Below.mono H1.out (Below.size ((Below.refl Z.heap.size Z).drew))) | exact Below.trans (Below.refl Z.heap.size Z) (Below.mono H1.out (Below.size (Below.refl Z.heap.size Z)))))
   | (go_at_call 41; refine Calls.mono (KH _).out ?_; rintro e w2 ⟨gh, rfl, H2⟩; have HB2 : Hid (Below Z.heap.size Z w2) := (by first | exact Below.trans HB1.out (Below.mono H2.out.2 (Below.size HB1.out)) | exact Below.trans HB1.out.drew (Below.mono H2.out.2 (Below.size HB1.out.drew)))))
 have HBW2 : Hid (Below w.heap.size w w2 /\ w2.heap[b]? = some (.cells #[.int .u16 H.id, .bool H.rs, .int .i64 H.op, .bool H.aa, .bool H.tc, .bool H.rd, .bool H.ra, .bool H.ad, .bool H.cd, .int .i64 H.rc, .slice x.q.a x.q.n x.q.c, .slice x.l1.a x.l1.n x.l1.c, .slice x.l2.a x.l2.n x.l2.c, .slice x.l3.a x.l3.n x.l3.c] 26) /\ Blk w2 gh hb) := ⟨HBel.out.trans (HB2.out.mono HBel.out.size), (HB2.out.block b hbZ).trans HBX.out, H2.out.1⟩
 clear KC KH KS HB1 HB2 H1 H2 z0 z1 z2 z3 z4 z5 z6 z7 z8 z9 z10 z11 z12 z13 hbZ HBX
 have KN := Lib.hid (sqnew_any w2)
 go_wp2_with fail
 refine KN.out.mono ?_
 rintro e w3 ⟨rfl, H3⟩
 obtain ⟨B, hB⟩ : ∃ B, B = w2.heap.size := ⟨_, rfl⟩
 obtain ⟨g, hg⟩ : ∃ g, g = w2.heap.size + 1 := ⟨_, rfl⟩
 have HBg : Hid (B = w2.heap.size /\ g = B + 1) := ⟨hB, by omega⟩
 have HMW : Hid (MW B (w3.alloc (.cells #[.pointer (some ⟨g, 0, none⟩), .int .i64 0] 94)) w3.heap.size g (some ([], [])) /\ Below B w2 (w3.alloc (.cells #[.pointer (some ⟨g, 0, none⟩), .int .i64 0] 94))) := by
   have hb3 : Below w3.heap.size w3 (w3.alloc (.cells #[.pointer (some ⟨g, 0, none⟩), .int .i64 0] 94)) := newq_below _ _
   have hs := H3.out.2.size
   rw [hg, hB]
   refine ⟨⟨hs, Nat.le_trans hs (newq_below w3 _).size, ⟨heap_alloc_new _ _, H3.out.1.below (newq_below w3 _), by simp, by simp, by simp⟩⟩, H3.out.2.trans ((newq_below w3 _).mono hs)⟩
 rw [<- hg]
 clear hg hB KN H3
 obtain ⟨h, hh⟩ : ∃ h, h = w3.heap.size := ⟨_, rfl⟩
 rw [<- hh] at HMW
 go_wp2_with fail
 rw [<- hh]
 clear hh
 generalize w3.alloc (.cells #[.pointer (some ⟨g, 0, none⟩), .int .i64 0] 94) = w4 at *
 have K4 := Lib.hid (mw_bytes B h g _ (some ⟨gh, 0, none⟩) 12 12 hb w4 HMW.out.1 (by
   have := (HBW2.out.2.2.rd 12).below (by rw [<- HBg.out.1]; exact HMW.out.2)
   rw [List.take_of_length_le (by rw [<- HHD.out, hdB_len]; exact Nat.le_refl _)] at this
   exact this) (by rw [<- HHD.out, hdB_len]) (by simp) (by omega))
 refine K4.out.mono ?_
 rintro e w5 ⟨rfl, H5⟩
 generalize hS0 : prun (pby hb) (some ([], [])) = S0 at *
 have HS0 := Lib.hid hS0
 have HB5 : Hid (Below B w2 w5) := HMW.out.2.trans H5.out.2.below
 have HX5 : Hid (w5.heap[b]? = some (.cells #[.int .u16 H.id, .bool H.rs, .int .i64 H.op, .bool H.aa, .bool H.tc, .bool H.rd, .bool H.ra, .bool H.ad, .bool H.cd, .int .i64 H.rc, .slice x.q.a x.q.n x.q.c, .slice x.l1.a x.l1.n x.l1.c, .slice x.l2.a x.l2.n x.l2.c, .slice x.l3.a x.l3.n x.l3.c] 26)) := (HB5.out.block b (by rw [HBg.out.1]; exact box_lt HBW2.out.2.1)).trans HBW2.out.2.1
 have c10 := box_cell HX5.out 10 _ rfl
 have hl5 := box_lt HX5.out
 have HMM : Hid (∀ W, Below B w2 W -> MRd W H x m) := fun W hW => (HM.out.1.below HBW2.out.1).below (by rw [<- HBg.out.1]; exact hW)
 have HQL : Hid (m.qs.length = x.q.n) := HM.out.1.q.len
 clear K4 hS0
 go_wp2_with fail
 go_loopw [30] (fun z wr => ∃ k : Nat, k <= x.q.n /\ z = .int .i64 k /\ Hid (MW B wr h g (prun (pls ((m.qs.take k).map pqn)) S0) /\ Below B w2 wr)) (fun z _ => x.q.n - (intOf z).toNat)
 case atStart =>
   refine ⟨0, Nat.zero_le _, rfl, ?_, HB5.out⟩
   have e : prun (pls ((m.qs.take 0).map pqn)) S0 = S0 := prun_nil H5.out.1
   rw [e]
   exact H5.out.1
 case round =>
   obtain ⟨k, hk, rfl, HK⟩ := hrel
   by_cases hlt : k < x.q.n
   · have hlt' : (k : Int) < (x.q.n : Int) := by omega
     have hks : k < m.qs.length := by rw [HQL.out]; exact hlt
     obtain ⟨qb, qo, hqa, hqb, y, y0, y1, y2, hy⟩ := ((HMM.out wr HK.out.2).q).at k hks
     have HKQ : Hid (∀ W, Below wr.heap.size wr W -> MW B W h g (prun (pls ((m.qs.take k).map pqn)) S0) -> Calls Tryz.prog 54 #[.pointer (some ⟨h, 0, none⟩), .agg #[.slice y.s.a y.s.n y.s.c, .int .u16 y.ty, .int .u16 y.cl]] W fun e w' => e = .returned (.tuple #[]) /\ Hid (MW B w' h g (prun (pqn m.qs[k]) (prun (pls ((m.qs.take k).map pqn)) S0)) /\ Fm B g W w')) := fun W hW hMW => mw_question B h g _ y m.qs[k] W hMW (hy.below hW) (HM.out.2.1.qs _ (List.getElem_mem hks))
     have HTK : Hid ((m.qs.take (k + 1)).map pqn = (m.qs.take k).map pqn ++ [pqn m.qs[k]]) := (show _ = _ by rw [List.take_succ_eq_append_getElem hks, List.map_append]; rfl)
     clear hy
     generalize x.q.a = qa at *
     subst hqa
     have HKM := Lib.hid HK.out.1
     go_wp2_with fail
     have hba : Below wr.heap.size wr (wr.alloc (.cells #[.slice y.s.a y.s.n y.s.c, .int .u16 (y.ty : Int), .int .u16 (y.cl : Int)] 55)) := newq_below _ _
     refine (HKQ.out _ hba (HKM.out.below hba)).mono ?_
     rintro e w6 ⟨rfl, H6⟩
     go_wp2
     refine ⟨⟨k + 1, by omega, by go_num, ?_, HK.out.2.trans ((hba.mono HKM.out.2.1).trans H6.out.2.below)⟩, by simp [intOf]; omega⟩
     rw [HTK.out, pls_snoc]
     exact H6.out.1
   · have hkk : k = x.q.n := by omega
     subst k
     have HK2 : Hid (MW B wr h g (prun (pls (m.qs.map pqn)) S0) /\ Below B w2 wr) := by have := HK.out; rw [<- HQL.out, List.take_length] at this; exact this
     generalize hS1 : prun (pls (m.qs.map pqn)) S0 = S1 at *
     have HS1 := Lib.hid hS1
     clear HK hS1
     go_wp2_with fail
     refine (KSec.out _).mono ?_
     rintro e w7 ⟨rfl, H7⟩
     have HM7 : Hid (MW B w7 h g S1 /\ Below B w2 w7) := ⟨HK2.out.1.below H7.out, HK2.out.2.trans (H7.out.mono HK2.out.1.2.1)⟩
     clear HK2
     have HBBB : Hid (b < B) := (by rw [HBg.out.1]; exact box_lt HBW2.out.2.1 : b < B)
     obtain ⟨wz, hwz⟩ : ∃ z, z = wr := ⟨_, rfl⟩
     subst hwz
     go_wp2_with fail
     go_loopw [39] (fun z wr => ∃ j : Nat, j <= 3 /\ z = .int .i64 j /\ Hid (MW B wr h g (aftm m S1 j) /\ Below B w2 wr)) (fun z _ => 3 - (intOf z).toNat)
     case atStart => exact ⟨0, by omega, rfl, HM7.out⟩
     case round =>
       obtain ⟨j, hj, rfl, HJ⟩ := hrel
       by_cases hlt3 : j < 3
       · have h3 : (j : Int) < 3 := by omega
         have hix := ixS b j hlt3
         have HXw : Hid (wr.heap[b]? = some (.cells #[.int .u16 H.id, .bool H.rs, .int .i64 H.op, .bool H.aa, .bool H.tc, .bool H.rd, .bool H.ra, .bool H.ad, .bool H.cd, .int .i64 H.rc, .slice x.q.a x.q.n x.q.c, .slice x.l1.a x.l1.n x.l1.c, .slice x.l2.a x.l2.n x.l2.c, .slice x.l3.a x.l3.n x.l3.c] 26)) := (HJ.out.2.block b HBBB.out).trans HBW2.out.2.1
         have hc := mbox_list HXw.out j hlt3
         have hlw := box_lt HXw.out
         have hsn := hln j
         have HLL : Hid (∀ W, Below B w2 W -> LRd W (nth3 x j) (nthL m j) /\ ∀ r ∈ nthL m j, Rb r) := fun W hW => (HMM.out W hW).nth j
         have HCR : Hid (∀ r ∈ nthL m j, (nck r.ow = 0 /\ checkF r.t r.d = 0) /\ Bd r.d) := fun r hr => ⟨HM.out.2.1.nth j r hr, HM.out.2.2 j r hr⟩
         have HAF : Hid (aftm m S1 (j + 1) = prun (pls ((nthL m j).map prec)) (aftm m S1 j)) := rfl
         have HMJ := Lib.hid HJ.out
         generalize nth3 x j = sl at *
         generalize aftm m S1 j = SJ at *
         generalize nthL m j = rl at *
         obtain ⟨sa, sn, sc⟩ := sl
         simp only at hc hsn
         have HRL : Hid (rl.length = sn) := (HLL.out wr HMJ.out.2).1.len
         clear HJ HXw
         obtain ⟨wo, hwo⟩ : ∃ z, z = wr := ⟨_, rfl⟩
         subst hwo
         go_wp2_with fail
         go_loopw [46] (fun z wr => ∃ k : Nat, k <= sn /\ z = .int .i64 k /\ Hid (MW B wr h g (prun (pls ((rl.take k).map prec)) SJ) /\ Below B w2 wr)) (fun z _ => sn - (intOf z).toNat)
         case atStart =>
           refine ⟨0, Nat.zero_le _, rfl, ?_, HMJ.out.2⟩
           have e : prun (pls ((rl.take 0).map prec)) SJ = SJ := prun_nil HMJ.out.1
           rw [e]
           exact HMJ.out.1
         case round =>
           obtain ⟨k, hk, rfl, HK⟩ := hrel
           by_cases hlt : k < sn
           · have hlt' : (k : Int) < (sn : Int) := by omega
             have hks : k < rl.length := by rw [HRL.out]; exact hlt
             obtain ⟨rb, ro, hra, hrb, y, hcells, hy⟩ := ((HLL.out w2 (Below.refl _ _)).1.rd).at k hks
             have hrB : rb < B := by rw [HBg.out.1]; exact hrb
             have hrw : rb < wr.heap.size := Nat.lt_of_lt_of_le hrB HK.out.1.2.1
             simp only at hra
             have y0 : wr.cell? ⟨rb, ro + k * 8, none⟩ = some (.slice y.o.a y.o.n y.o.c) := (HK.out.2.cell (p := ⟨rb, ro + k * 8, none⟩) hrB).trans (hcells 0 (by omega))
             have y1 : wr.cell? ⟨rb, ro + k * 8 + 1, none⟩ = some (.int .u16 (rl[k].t : Int)) := (HK.out.2.cell (p := ⟨rb, ro + k * 8 + 1, none⟩) hrB).trans (hcells 1 (by omega))
             have y2 : wr.cell? ⟨rb, ro + k * 8 + 2, none⟩ = some (.int .u16 (rl[k].cl : Int)) := (HK.out.2.cell (p := ⟨rb, ro + k * 8 + 2, none⟩) hrB).trans (hcells 2 (by omega))
             have y3 : wr.cell? ⟨rb, ro + k * 8 + 3, none⟩ = some (.int .u32 (rl[k].tt : Int)) := (HK.out.2.cell (p := ⟨rb, ro + k * 8 + 3, none⟩) hrB).trans (hcells 3 (by omega))
             have y4 : wr.cell? ⟨rb, ro + k * 8 + 4, none⟩ = some (.slice y.d.p1.a y.d.p1.n y.d.p1.c) := (HK.out.2.cell (p := ⟨rb, ro + k * 8 + 4, none⟩) hrB).trans (hcells 4 (by omega))
             have y5 : wr.cell? ⟨rb, ro + k * 8 + 5, none⟩ = some (.slice y.d.p2.a y.d.p2.n y.d.p2.c) := (HK.out.2.cell (p := ⟨rb, ro + k * 8 + 5, none⟩) hrB).trans (hcells 5 (by omega))
             have y6 : wr.cell? ⟨rb, ro + k * 8 + 6, none⟩ = some (.slice y.d.p3.a y.d.p3.n y.d.p3.c) := (HK.out.2.cell (p := ⟨rb, ro + k * 8 + 6, none⟩) hrB).trans (hcells 6 (by omega))
             have y7 : wr.cell? ⟨rb, ro + k * 8 + 7, none⟩ = some (.slice y.d.p4.a y.d.p4.n y.d.p4.c) := (HK.out.2.cell (p := ⟨rb, ro + k * 8 + 7, none⟩) hrB).trans (hcells 7 (by omega))
             have HKR : Hid (∀ W, Below wr.heap.size wr W -> MW B W h g (prun (pls ((rl.take k).map prec)) SJ) -> Calls Tryz.prog 55 #[.pointer (some ⟨h, 0, none⟩), .agg #[.slice y.o.a y.o.n y.o.c, .int .u16 rl[k].t, .int .u16 rl[k].cl, .int .u32 rl[k].tt, .slice y.d.p1.a y.d.p1.n y.d.p1.c, .slice y.d.p2.a y.d.p2.n y.d.p2.c, .slice y.d.p3.a y.d.p3.n y.d.p3.c, .slice y.d.p4.a y.d.p4.n y.d.p4.c]] W fun e w' => e = .returned (.tuple #[]) /\ Hid (MW B w' h g (prun (prec rl[k]) (prun (pls ((rl.take k).map prec)) SJ)) /\ Fm B g W w')) := by
               intro W hW hMW
               have hmem := List.getElem_mem hks
               have hcr := HCR.out _ hmem
               exact mw_record B h g _ y rl[k] w2 W hMW HBg.out.1.symm hy (HK.out.2.trans (hW.mono HK.out.1.2.1)) hcr.1.1 hcr.1.2 hcr.2 ((HLL.out w2 (Below.refl _ _)).2 _ hmem)
             have HTK : Hid ((rl.take (k + 1)).map prec = (rl.take k).map prec ++ [prec rl[k]]) := (show _ = _ by rw [List.take_succ_eq_append_getElem hks, List.map_append]; rfl)
             clear hy hcells hrb
             generalize rl[k] = r at *
             subst hra
             have HKM := Lib.hid HK.out.1
             go_wp2_with fail
             have hba : Below wr.heap.size wr (wr.alloc (.cells #[.slice y.o.a y.o.n y.o.c, .int .u16 r.t, .int .u16 r.cl, .int .u32 r.tt, .slice y.d.p1.a y.d.p1.n y.d.p1.c, .slice y.d.p2.a y.d.p2.n y.d.p2.c, .slice y.d.p3.a y.d.p3.n y.d.p3.c, .slice y.d.p4.a y.d.p4.n y.d.p4.c] 62)) := newq_below _ _
             refine (HKR.out _ hba (HKM.out.below hba)).mono ?_
             rintro e w6 ⟨rfl, H6⟩
             go_wp2
             refine ⟨⟨k + 1, by omega, by go_num, ?_, HK.out.2.trans ((hba.mono HKM.out.2.1).trans H6.out.2.below)⟩, by simp [intOf]; omega⟩
             rw [HTK.out, pls_snoc]
             exact H6.out.1
           · have hkk : k = sn := by omega
             subst k
             have HK2 : Hid (MW B wr h g (prun (pls (rl.map prec)) SJ) /\ Below B w2 wr) := by have := HK.out; rw [<- HRL.out, List.take_length] at this; exact this
             go_wp2
             refine ⟨⟨j + 1, by omega, by go_num, ?_, HK2.out.2⟩, by simp [intOf]; omega⟩
             rw [HAF.out]
             exact HK2.out.1
       · have hjj : j = 3 := by omega
         subst j
         have HRES : Hid (prun (pmsg m) (some ([], [])) = aftm m S1 3) := (show _ = _ by rw [pmsg_run, HHD.out, HS0.out, HS1.out])
         have HJ2 := Lib.hid HJ.out
         generalize aftm m S1 3 = SF at *
         clear HJ
         have HBE : Hid (Below w.heap.size w wr) := HBW2.out.1.trans (HJ2.out.2.mono (by rw [HBg.out.1]; exact HBW2.out.1.size))
         obtain ⟨m0, m1⟩ := HJ2.out.1.ptr
         cases SF with
         | none =>
           have c1 : wr.cell? ⟨h, 1, none⟩ = some (.int .i64 3) := box_cell HJ2.out.1.2.2.box 1 _ rfl
           go_wp2_with fail
           go_quiet (fail)
           go_wp2_with fail
           go_ret2
           rw [HRES.out]
           exact ⟨⟨none, 0, 0⟩, 3, rfl, ⟨rfl, rfl⟩, ⟨HBE.out.os, HBE.out.tape, HBE.out.output, HBE.out.size, HBE.out.block⟩⟩
         | some z =>
           obtain ⟨tx, pl⟩ := z
           have c1 : wr.cell? ⟨h, 1, none⟩ = some (.int .i64 0) := box_cell HJ2.out.1.2.2.box 1 _ rfl
           have HB12 : Hid (12 <= tx.length /\ tx.length <= 65535) := by
             have := msg_back HM.out.2.1 HM.out.1.b HRES.out
             exact ⟨this.2.2, this.2.1⟩
           have KA := Lib.hid (all_rd B g tx.length tx pl wr HJ2.out.1.2.2.wr rfl (by have := HB12.out.2; omega))
           go_wp2_with fail
           refine KA.out.mono ?_
           rintro e w8 ⟨a8, c8, rfl, H8⟩
           go_wp2_with fail
           go_ret2
           rw [HRES.out]
           refine ⟨⟨a8, tx.length, c8⟩, 0, rfl, ⟨rfl, BRd.of H8.out.1 rfl H8.out.2.1 H8.out.2.2.1 (fun e => ?_)⟩, HBE.out.trans (H8.out.2.2.2.mono HBE.out.size)⟩
           have h12 := HB12.out.1
           simp only at e
           rw [e] at h12
           simp at h12
end Go.Proofs.YtkjnbgekaifdfaaGreat
namespace Go.Proofs.YtkjnbgekaifdfaaGreat
open Go.ChangeShapes Go.WideShapes Go.ChangeAt Go.RowKit Go.Maps
theorem head_no (H : Hd) (x : MA) (hH : ¬ hdOk H) (W : World) :
   Calls Tryz.prog 41 #[.agg #[.int .u16 H.id, .bool H.rs, .int .i64 H.op, .bool H.aa, .bool H.tc, .bool H.rd, .bool H.ra, .bool H.ad, .bool H.cd, .int .i64 H.rc, .slice x.q.a x.q.n x.q.c, .slice x.l1.a x.l1.n x.l1.c, .slice x.l2.a x.l2.n x.l2.c, .slice x.l3.a x.l3.n x.l3.c], .agg #[.int .i64 0, .int .i64 0, .int .i64 0, .int .i64 0]] W fun e w' => e = .returned (.tuple #[.slice none 0 0, .int .i64 2]) /\ Hid (Below W.heap.size W w') :=
 bytes10_arg H.id H.rs H.op H.aa H.tc H.rd H.ra H.ad H.cd H.rc x.q.a x.l1.a x.l2.a x.l3.a x.q.n x.l1.n x.l2.n x.l3.n x.q.c x.l1.c x.l2.c x.l3.c 0 0 0 0 W hH
theorem head_chk (H : Hd) (x : MA) (hi : H.id < 65536) (W : World) :
   Calls Tryz.prog 41 #[.agg #[.int .u16 H.id, .bool H.rs, .int .i64 H.op, .bool H.aa, .bool H.tc, .bool H.rd, .bool H.ra, .bool H.ad, .bool H.cd, .int .i64 H.rc, .slice x.q.a x.q.n x.q.c, .slice x.l1.a x.l1.n x.l1.c, .slice x.l2.a x.l2.n x.l2.c, .slice x.l3.a x.l3.n x.l3.c], .agg #[.int .i64 0, .int .i64 0, .int .i64 0, .int .i64 0]] W fun e w' => ∃ s : Sl, e = .returned (.tuple #[.slice s.a s.n s.c, .int .i64 (if hdOk H then 0 else 2)]) /\ Hid (Below W.heap.size W w') := by
 by_cases h : hdOk H
 · refine (head_ok H x 0 0 0 0 h hi (by omega) (by omega) (by omega) (by omega) W).mono ?_
   rintro e w' ⟨g', rfl, H1⟩
   rw [if_pos h]
   exact ⟨⟨_, 12, 12⟩, rfl, H1.out.2⟩
 · refine (head_no H x h W).mono ?_
   rintro e w' ⟨rfl, H1⟩
   rw [if_neg h]
   exact ⟨⟨none, 0, 0⟩, rfl, H1⟩
set_option maxHeartbeats 1000000 in
theorem checkrec_any (x : RA) (r : Rec) (w : World) (h : RRd w x r) (hn : x.o.n <= 1000000) (hB : Bd r.d) :
   Calls Tryz.prog 44 #[.agg #[.slice x.o.a x.o.n x.o.c, .int .u16 r.t, .int .u16 r.cl, .int .u32 r.tt, .slice x.d.p1.a x.d.p1.n x.d.p1.c, .slice x.d.p2.a x.d.p2.n x.d.p2.c, .slice x.d.p3.a x.d.p3.n x.d.p3.c, .slice x.d.p4.a x.d.p4.n x.d.p4.c]] w fun e w' => e = .returned (.int .i64 (recE r)) /\ Hid (Below w.heap.size w w') := by
 have hb0 : Below w.heap.size w (w.alloc (.cells #[.slice x.o.a x.o.n x.o.c, .int .u16 r.t, .int .u16 r.cl, .int .u32 r.tt, .slice x.d.p1.a x.d.p1.n x.d.p1.c, .slice x.d.p2.a x.d.p2.n x.d.p2.c, .slice x.d.p3.a x.d.p3.n x.d.p3.c, .slice x.d.p4.a x.d.p4.n x.d.p4.c] 62)) := newq_below _ _
 have hbx : (w.alloc (.cells #[.slice x.o.a x.o.n x.o.c, .int .u16 r.t, .int .u16 r.cl, .int .u32 r.tt, .slice x.d.p1.a x.d.p1.n x.d.p1.c, .slice x.d.p2.a x.d.p2.n x.d.p2.c, .slice x.d.p3.a x.d.p3.n x.d.p3.c, .slice x.d.p4.a x.d.p4.n x.d.p4.c] 62)).heap[w.heap.size]? = some (.cells #[.slice x.o.a x.o.n x.o.c, .int .u16 r.t, .int .u16 r.cl, .int .u32 r.tt, .slice x.d.p1.a x.d.p1.n x.d.p1.c, .slice x.d.p2.a x.d.p2.n x.d.p2.c, .slice x.d.p3.a x.d.p3.n x.d.p3.c, .slice x.d.p4.a x.d.p4.n x.d.p4.c] 62) := heap_alloc_new _ _
 have hA := (h.1.below hb0).arg
 have KC := Lib.hid (pcheckA_wide x.o.a x.o.n x.o.c r.ow _ hA.rd hA.len (fun ho => by have := labs_nsz ho; have := hA.len; omega) hA.n63 hA.z63)
 have KD := Lib.hid (check_any r.t x.d r.d _ (h.2.below hb0) hB)
 have HB0 := Lib.hid hb0
 obtain ⟨q, hq⟩ : ∃ q, nck r.ow = q := ⟨_, rfl⟩
 obtain ⟨cf, hcf⟩ : ∃ cf, checkF r.t r.d = cf := ⟨_, rfl⟩
 have HE : Hid (recE r = if q = 0 then cf else q) := (show _ = _ by unfold recE; rw [hq, hcf])
 rw [hq] at KC
 rw [hcf] at KD
 clear h hA hb0 hq hcf hB
 go_enter Tryz.func44, Tryz.ntmps44
 go_wp2_with fail
 generalize w.alloc (.cells #[.slice x.o.a x.o.n x.o.c, .int .u16 r.t, .int .u16 r.cl, .int .u32 r.tt, .slice x.d.p1.a x.d.p1.n x.d.p1.c, .slice x.d.p2.a x.d.p2.n x.d.p2.c, .slice x.d.p3.a x.d.p3.n x.d.p3.c, .slice x.d.p4.a x.d.p4.n x.d.p4.c] 62) = w0 at *
 obtain ⟨b, hbb⟩ : ∃ b, b = w.heap.size := ⟨_, rfl⟩
 rw [<- hbb] at hbx ⊢
 have HBB : Hid (b = w.heap.size) := hbb
 clear hbb
 have k0 := box_cell hbx 0 _ rfl
 have k1 := box_cell hbx 1 _ rfl
 have k4 := box_cell hbx 4 _ rfl
 have k5 := box_cell hbx 5 _ rfl
 have k6 := box_cell hbx 6 _ rfl
 have k7 := box_cell hbx 7 _ rfl
 have hl := box_lt hbx
 clear hbx
 by_cases h0 : q = 0
 · rw [if_pos h0] at HE
   subst h0
   go_wp2_with fail
   refine KC.out.mono ?_
   rintro e w1 ⟨rfl, hw1⟩
   subst w1
   go_wp2_with fail
   refine KD.out.mono ?_
   rintro e w2 ⟨rfl, H2⟩
   go_wp2
   go_ret
   have e : b = w.heap.size := HBB.out
   exact ⟨by rw [HE.out]; rfl, HB0.out.trans (H2.out.mono HB0.out.size)⟩
 · rw [if_neg h0] at HE
   have h0' : (q != 0) = true := bne_iff_ne.2 h0
   go_wp2_with fail
   refine KC.out.mono ?_
   rintro e w1 ⟨rfl, hw1⟩
   subst w1
   go_wp2
   go_ret
   exact ⟨by rw [HE.out]; rfl, HB0.out⟩
structure Fin (m : Mg) : Prop where
 d : BdM m
 q : ∀ q ∈ m.qs, q.nm.length <= 1000000
 o : ∀ k, ∀ r ∈ nthL m k, r.ow.length <= 1000000
 t : tot m <= 1000000
 n : m.qs.length <= 1000000
theorem qnsE_at : ∀ (l : List Qn) (k : Nat) (h : k < l.length), (∀ i (hi : i < l.length), i < k -> nck l[i].nm = 0) -> nck l[k].nm ≠ 0 -> qnsE l = nck l[k].nm
 | q :: l, 0, h, _, hk => by simp only [List.getElem_cons_zero] at hk ⊢; unfold qnsE; rw [if_neg hk]
 | q :: l, k + 1, h, hl, hk => by
   have h0 := hl 0 (by simp) (by omega)
   simp only [List.getElem_cons_zero] at h0
   simp only [List.getElem_cons_succ] at hk ⊢
   unfold qnsE
   rw [if_pos h0]
   refine qnsE_at l k (by simpa using h) (fun i hi hlt => ?_) hk
   have := hl (i + 1) (by simpa using hi) (by omega)
   simpa using this
theorem recsE_at : ∀ (l : List Rec) (k : Nat) (h : k < l.length), (∀ i (hi : i < l.length), i < k -> recE l[i] = 0) -> recE l[k] ≠ 0 -> recsE l = recE l[k]
 | q :: l, 0, h, _, hk => by simp only [List.getElem_cons_zero] at hk ⊢; unfold recsE; rw [if_neg hk]
 | q :: l, k + 1, h, hl, hk => by
   have h0 := hl 0 (by simp) (by omega)
   simp only [List.getElem_cons_zero] at h0
   simp only [List.getElem_cons_succ] at hk ⊢
   unfold recsE
   rw [if_pos h0]
   refine recsE_at l k (by simpa using h) (fun i hi hlt => ?_) hk
   have := hl (i + 1) (by simpa using hi) (by omega)
   simpa using this
theorem recsE_none : ∀ (l : List Rec), (∀ i (hi : i < l.length), recE l[i] = 0) -> recsE l = 0
 | [], _ => rfl
 | q :: l, hl => by
   have h0 := hl 0 (by simp)
   simp only [List.getElem_cons_zero] at h0
   unfold recsE
   rw [if_pos h0]
   refine recsE_none l (fun i hi => ?_)
   have := hl (i + 1) (by simpa using hi)
   simpa using this
theorem qnsE_none : ∀ (l : List Qn), (∀ i (hi : i < l.length), nck l[i].nm = 0) -> qnsE l = 0
 | [], _ => rfl
 | q :: l, hl => by
   have h0 := hl 0 (by simp)
   simp only [List.getElem_cons_zero] at h0
   unfold qnsE
   rw [if_pos h0]
   refine qnsE_none l (fun i hi => ?_)
   have := hl (i + 1) (by simpa using hi)
   simpa using this
theorem all_at (m : Mg) (j : Nat) (hj : j < 3) (hl : ∀ i, i < j -> recsE (nthL m i) = 0) (hk : recsE (nthL m j) ≠ 0) : recsE (m.l1 ++ (m.l2 ++ m.l3)) = recsE (nthL m j) := by
 have : j = 0 ∨ j = 1 ∨ j = 2 := by omega
 rcases this with rfl | rfl | rfl
 · have e : nthL m 0 = m.l1 := rfl
   rw [e] at hk ⊢
   rw [recsE_app, if_neg hk]
 · have e0 : recsE m.l1 = 0 := hl 0 (by omega)
   have e : nthL m 1 = m.l2 := rfl
   rw [e] at hk ⊢
   rw [recsE_app, if_pos e0, recsE_app, if_neg hk]
 · have e0 : recsE m.l1 = 0 := hl 0 (by omega)
   have e1 : recsE m.l2 = 0 := hl 1 (by omega)
   have e : nthL m 2 = m.l3 := rfl
   rw [e] at hk ⊢
   rw [recsE_app, if_pos e0, recsE_app, if_pos e1]
theorem all_none (m : Mg) (hl : ∀ i, i < 3 -> recsE (nthL m i) = 0) : recsE (m.l1 ++ (m.l2 ++ m.l3)) = 0 := by
 have e0 : recsE m.l1 = 0 := hl 0 (by omega)
 have e1 : recsE m.l2 = 0 := hl 1 (by omega)
 have e2 : recsE m.l3 = 0 := hl 2 (by omega)
 rw [recsE_app, if_pos e0, recsE_app, if_pos e1, e2]
set_option maxHeartbeats 4000000 in
theorem check_msg (H : Hd) (x : MA) (m : Mg) (w : World) (hm : MRd w H x m) (hF : Fin m) :
   Calls Tryz.prog 18 #[.agg #[.int .u16 H.id, .bool H.rs, .int .i64 H.op, .bool H.aa, .bool H.tc, .bool H.rd, .bool H.ra, .bool H.ad, .bool H.cd, .int .i64 H.rc, .slice x.q.a x.q.n x.q.c, .slice x.l1.a x.l1.n x.l1.c, .slice x.l2.a x.l2.n x.l2.c, .slice x.l3.a x.l3.n x.l3.c]] w fun e w' => e = .returned (.int .i64 (chkM m)) /\ Hid (Below w.heap.size w w') := by
 have hid : H.id < 65536 := by rw [<- hm.h]; exact hm.b.1
 have hb0 : Below w.heap.size w (w.alloc (.cells #[.int .u16 H.id, .bool H.rs, .int .i64 H.op, .bool H.aa, .bool H.tc, .bool H.rd, .bool H.ra, .bool H.ad, .bool H.cd, .int .i64 H.rc, .slice x.q.a x.q.n x.q.c, .slice x.l1.a x.l1.n x.l1.c, .slice x.l2.a x.l2.n x.l2.c, .slice x.l3.a x.l3.n x.l3.c] 26)) := newq_below _ _
 have HBX : Hid ((w.alloc (.cells #[.int .u16 H.id, .bool H.rs, .int .i64 H.op, .bool H.aa, .bool H.tc, .bool H.rd, .bool H.ra, .bool H.ad, .bool H.cd, .int .i64 H.rc, .slice x.q.a x.q.n x.q.c, .slice x.l1.a x.l1.n x.l1.c, .slice x.l2.a x.l2.n x.l2.c, .slice x.l3.a x.l3.n x.l3.c] 26)).heap[w.heap.size]? = some (.cells #[.int .u16 H.id, .bool H.rs, .int .i64 H.op, .bool H.aa, .bool H.tc, .bool H.rd, .bool H.ra, .bool H.ad, .bool H.cd, .int .i64 H.rc, .slice x.q.a x.q.n x.q.c, .slice x.l1.a x.l1.n x.l1.c, .slice x.l2.a x.l2.n x.l2.c, .slice x.l3.a x.l3.n x.l3.c] 26)) := mbox_new H x w
 have HBel : Hid (Below w.heap.size w (w.alloc (.cells #[.int .u16 H.id, .bool H.rs, .int .i64 H.op, .bool H.aa, .bool H.tc, .bool H.rd, .bool H.ra, .bool H.ad, .bool H.cd, .int .i64 H.rc, .slice x.q.a x.q.n x.q.c, .slice x.l1.a x.l1.n x.l1.c, .slice x.l2.a x.l2.n x.l2.c, .slice x.l3.a x.l3.n x.l3.c] 26))) := hb0
 have HM : Hid (MRd w H x m /\ Fin m) := ⟨hm, hF⟩
 have hq := hm.q.len
 have e1 := hm.l1.len
 have e2 := hm.l2.len
 have e3 := hm.l3.len
 have HTOT : Hid (tot m = x.l1.n + x.l2.n + x.l3.n /\ m.qs.length = x.q.n /\ m.h = H) := ⟨by unfold tot; omega, hq, hm.h⟩
 have hT : x.l1.n + x.l2.n + x.l3.n <= 1000000 := by have := hF.t; have := HTOT.out.1; omega
 have hqn : x.q.n <= 1000000 := by have := hF.n; omega
 have hln : ∀ k, (nth3 x k).n <= 1000000 := by
   intro k
   unfold nth3
   split
   · omega
   · split <;> omega
 have KT := fun W => Lib.hid (total_any H x W (by omega))
 have KH := fun W => Lib.hid (head_chk H x hid W)
 have KSec : Hid (∀ W, Calls Tryz.prog 43 #[.pointer (some ⟨w.heap.size, 0, none⟩)] W fun e w' => e = .returned (.agg #[.pointer (some ⟨w.heap.size, 11, none⟩), .pointer (some ⟨w.heap.size, 12, none⟩), .pointer (some ⟨w.heap.size, 13, none⟩)]) /\ Hid (Below W.heap.size W w')) := fun W => sections_any w.heap.size W
 clear hm hF hq e1 e2 e3 hid hb0
 go_enter Tryz.func18, Tryz.ntmps18
 go_wp2_with fail
 generalize w.alloc (.cells #[.int .u16 H.id, .bool H.rs, .int .i64 H.op, .bool H.aa, .bool H.tc, .bool H.rd, .bool H.ra, .bool H.ad, .bool H.cd, .int .i64 H.rc, .slice x.q.a x.q.n x.q.c, .slice x.l1.a x.l1.n x.l1.c, .slice x.l2.a x.l2.n x.l2.c, .slice x.l3.a x.l3.n x.l3.c] 26) = Z at *
 obtain ⟨b, hbb⟩ : ∃ b, b = w.heap.size := ⟨_, rfl⟩
 rw [<- hbb] at HBX KSec ⊢
 have HBB : Hid (b = w.heap.size) := hbb
 clear hbb
 refine (KH Z).out.mono ?_
 rintro e w1 ⟨sh, rfl, H1⟩
 have HB1 : Hid (Below w.heap.size w w1 /\ w1.heap[b]? = some (.cells #[.int .u16 H.id, .bool H.rs, .int .i64 H.op, .bool H.aa, .bool H.tc, .bool H.rd, .bool H.ra, .bool H.ad, .bool H.cd, .int .i64 H.rc, .slice x.q.a x.q.n x.q.c, .slice x.l1.a x.l1.n x.l1.c, .slice x.l2.a x.l2.n x.l2.c, .slice x.l3.a x.l3.n x.l3.c] 26)) := ⟨HBel.out.trans (H1.out.mono HBel.out.size), (H1.out.block b (box_lt HBX.out)).trans HBX.out⟩
 clear KH H1
 by_cases hH : hdOk H
 case neg =>
   have HC : Hid (chkM m = 2) := (show _ = _ by unfold chkM; rw [HTOT.out.2.2, if_neg hH])
   rw [if_neg hH]
   go_wp2
   go_ret
   exact ⟨by rw [HC.out]; rfl, HB1.out.1⟩
 rw [if_pos hH]
 have HHO : Hid (hdOk H) := hH
 clear hH
 have c10 := box_cell HB1.out.2 10 _ rfl
 have hl1 := box_lt HB1.out.2
 by_cases hq16 : 16 < x.q.n
 · have hq' : (16 : Int) < (x.q.n : Int) := by omega
   have HC : Hid (chkM m = 3) := (show _ = _ by unfold chkM; rw [HTOT.out.2.2, if_pos HHO.out, if_pos (by have := HTOT.out.2.1; omega)])
   go_wp2
   go_ret
   exact ⟨by rw [HC.out]; rfl, HB1.out.1⟩
 have hq' : (x.q.n : Int) <= 16 := by omega
 obtain ⟨z0, z1, z2, z3, z4, z5, z6, z7, z8, z9, z10, z11, z12, z13⟩ := mbox_cells HB1.out.2
 go_wp2_with fail
 refine (KT w1).out.mono ?_
 rintro e w2 ⟨rfl, H2⟩
 have HB2 : Hid (Below w.heap.size w w2 /\ w2.heap[b]? = some (.cells #[.int .u16 H.id, .bool H.rs, .int .i64 H.op, .bool H.aa, .bool H.tc, .bool H.rd, .bool H.ra, .bool H.ad, .bool H.cd, .int .i64 H.rc, .slice x.q.a x.q.n x.q.c, .slice x.l1.a x.l1.n x.l1.c, .slice x.l2.a x.l2.n x.l2.c, .slice x.l3.a x.l3.n x.l3.c] 26)) := ⟨HB1.out.1.trans (H2.out.mono HB1.out.1.size), (H2.out.block b hl1).trans HB1.out.2⟩
 clear KT H2 z0 z1 z2 z3 z4 z5 z6 z7 z8 z9 z10 z11 z12 z13 c10
 have c10 := box_cell HB2.out.2 10 _ rfl
 have hl2 := box_lt HB2.out.2
 by_cases ht512 : 512 < x.l1.n + x.l2.n + x.l3.n
 · have ht' : (512 : Int) < ((x.l1.n + x.l2.n + x.l3.n : Nat) : Int) := by omega
   have HC : Hid (chkM m = 3) := (show _ = _ by unfold chkM; rw [HTOT.out.2.2, if_pos HHO.out, if_pos (by have := HTOT.out.1; omega)])
   generalize x.l1.n + x.l2.n + x.l3.n = TT at *
   go_wp2
   go_ret
   exact ⟨by rw [HC.out]; rfl, HB2.out.1⟩
 have ht' : ((x.l1.n + x.l2.n + x.l3.n : Nat) : Int) <= 512 := by omega
 have HC : Hid (chkM m = if qnsE m.qs = 0 then recsE (m.l1 ++ (m.l2 ++ m.l3)) else qnsE m.qs) := (show _ = _ by unfold chkM; rw [HTOT.out.2.2, if_pos HHO.out, if_neg (by have := HTOT.out.1; have := HTOT.out.2.1; omega)])
 generalize x.l1.n + x.l2.n + x.l3.n = TT at *
 go_wp2_with fail
 go_loopw [34] (fun z wr => ∃ k : Nat, k <= x.q.n /\ z = .int .i64 k /\ Hid ((∀ i (hi : i < m.qs.length), i < k -> nck m.qs[i].nm = 0) /\ Below w2.heap.size w2 wr)) (fun z _ => x.q.n - (intOf z).toNat)
 case atStart => exact ⟨0, Nat.zero_le _, rfl, fun i _ h => absurd h (by omega), Below.refl _ _⟩
 case round =>
   obtain ⟨k, hk, rfl, HK⟩ := hrel
   have HMw : Hid (MRd wr H x m) := HM.out.1.below (HB2.out.1.trans (HK.out.2.mono HB2.out.1.size))
   by_cases hlt : k < x.q.n
   · have hlt' : (k : Int) < (x.q.n : Int) := by omega
     have hks : k < m.qs.length := by rw [HTOT.out.2.1]; exact hlt
     obtain ⟨qb, qo, hqa, hqb, y, y0, y1, y2, hy⟩ := (HMw.out.q).at k hks
     have KC : Hid (∀ W, Below wr.heap.size wr W -> Calls Tryz.prog 42 #[.slice y.s.a y.s.n y.s.c] W fun e w' => e = .returned (.int .i64 (nck m.qs[k].nm)) /\ w' = W) := by
       intro W hW
       have hA := (hy.rd.below hW).arg
       have := HM.out.2.q _ (List.getElem_mem hks)
       exact pcheckA_wide y.s.a y.s.n y.s.c m.qs[k].nm W hA.rd hA.len (fun ho => by have := labs_nsz ho; omega) hA.n63 hA.z63
     have HN : Hid (nck m.qs[k].nm = 0 -> ∀ i (hi : i < m.qs.length), i < k + 1 -> nck m.qs[i].nm = 0) := by
       intro h0 i hi hik
       by_cases e : i = k
       · subst e; exact h0
       · exact HK.out.1 i hi (by omega)
     have HEr : Hid (nck m.qs[k].nm ≠ 0 -> chkM m = nck m.qs[k].nm) := by
       intro h0
       have e := qnsE_at m.qs k hks HK.out.1 h0
       rw [HC.out, if_neg (by rw [e]; exact h0), e]
     generalize x.q.a = qa at *
     subst hqa
     clear hy
     generalize nck m.qs[k].nm = q at *
     have hba : Below wr.heap.size wr (wr.alloc (.cells #[.slice y.s.a y.s.n y.s.c, .int .u16 (y.ty : Int), .int .u16 (y.cl : Int)] 55)) := newq_below _ _
     have KC2 := Lib.hid (KC.out _ hba)
     have HKB : Hid (Below w2.heap.size w2 (wr.alloc (.cells #[.slice y.s.a y.s.n y.s.c, .int .u16 (y.ty : Int), .int .u16 (y.cl : Int)] 55))) := HK.out.2.trans (hba.mono HK.out.2.size)
     clear hba KC
     by_cases h0 : q = 0
     · subst h0
       go_wp2_with fail
       refine KC2.out.mono ?_
       rintro e w3 ⟨rfl, hw3⟩
       subst w3
       go_wp2
       exact ⟨⟨k + 1, by omega, by go_num, HN.out trivial, HKB.out⟩, by simp [intOf]; omega⟩
     · have h0' : (q != 0) = true := bne_iff_ne.2 h0
       go_wp2_with fail
       refine KC2.out.mono ?_
       rintro e w3 ⟨rfl, hw3⟩
       subst w3
       go_wp2
       go_ret
       exact ⟨by rw [HEr.out h0]; rfl, HB2.out.1.trans (HKB.out.mono HB2.out.1.size)⟩
   · have hkk : k = x.q.n := by omega
     subst k
     have HC2 : Hid (chkM m = recsE (m.l1 ++ (m.l2 ++ m.l3))) := by
       show _ = _
       rw [HC.out, if_pos (qnsE_none m.qs (fun i hi => HK.out.1 i hi (by have := HTOT.out.2.1; omega)))]
     have HBr : Hid (Below w.heap.size w wr /\ wr.heap[b]? = some (.cells #[.int .u16 H.id, .bool H.rs, .int .i64 H.op, .bool H.aa, .bool H.tc, .bool H.rd, .bool H.ra, .bool H.ad, .bool H.cd, .int .i64 H.rc, .slice x.q.a x.q.n x.q.c, .slice x.l1.a x.l1.n x.l1.c, .slice x.l2.a x.l2.n x.l2.c, .slice x.l3.a x.l3.n x.l3.c] 26)) := ⟨HB2.out.1.trans (HK.out.2.mono HB2.out.1.size), (HK.out.2.block b hl2).trans HB2.out.2⟩
     clear HK HMw
     go_wp2_with fail
     refine (KSec.out _).mono ?_
     rintro e w4 ⟨rfl, H4⟩
     have HB4 : Hid (Below w.heap.size w w4 /\ w4.heap[b]? = some (.cells #[.int .u16 H.id, .bool H.rs, .int .i64 H.op, .bool H.aa, .bool H.tc, .bool H.rd, .bool H.ra, .bool H.ad, .bool H.cd, .int .i64 H.rc, .slice x.q.a x.q.n x.q.c, .slice x.l1.a x.l1.n x.l1.c, .slice x.l2.a x.l2.n x.l2.c, .slice x.l3.a x.l3.n x.l3.c] 26)) := ⟨HBr.out.1.trans (H4.out.mono HBr.out.1.size), (H4.out.block b (box_lt HBr.out.2)).trans HBr.out.2⟩
     clear H4 KSec
     obtain ⟨wz, hwz⟩ : ∃ z, z = wr := ⟨_, rfl⟩
     subst hwz
     go_wp2_with fail
     go_loopw [46] (fun z wr => ∃ j : Nat, j <= 3 /\ z = .int .i64 j /\ Hid ((∀ i, i < j -> recsE (nthL m i) = 0) /\ Below w4.heap.size w4 wr)) (fun z _ => 3 - (intOf z).toNat)
     case atStart => exact ⟨0, by omega, rfl, fun i h => absurd h (by omega), Below.refl _ _⟩
     case round =>
       obtain ⟨j, hj, rfl, HJ⟩ := hrel
       by_cases hlt3 : j < 3
       · have h3 : (j : Int) < 3 := by omega
         have hix := ixS b j hlt3
         have hl4 := box_lt HB4.out.2
         have HXw : Hid (wr.heap[b]? = some (.cells #[.int .u16 H.id, .bool H.rs, .int .i64 H.op, .bool H.aa, .bool H.tc, .bool H.rd, .bool H.ra, .bool H.ad, .bool H.cd, .int .i64 H.rc, .slice x.q.a x.q.n x.q.c, .slice x.l1.a x.l1.n x.l1.c, .slice x.l2.a x.l2.n x.l2.c, .slice x.l3.a x.l3.n x.l3.c] 26)) := (HJ.out.2.block b hl4).trans HB4.out.2
         have hc := mbox_list HXw.out j hlt3
         have hlw := box_lt HXw.out
         have hsn := hln j
         have HLL : Hid (∀ W, Below w4.heap.size w4 W -> LRd W (nth3 x j) (nthL m j)) := fun W hW => ((HM.out.1.below (HB4.out.1.trans (hW.mono HB4.out.1.size))).nth j).1
         have HCR : Hid (∀ r ∈ nthL m j, r.ow.length <= 1000000 /\ Bd r.d) := fun r hr => ⟨HM.out.2.o j r hr, HM.out.2.d j r hr⟩
         have HAT : Hid (recsE (nthL m j) ≠ 0 -> chkM m = recsE (nthL m j)) := fun h => by rw [HC2.out]; exact all_at m j hlt3 HJ.out.1 h
         have HNX : Hid (recsE (nthL m j) = 0 -> ∀ i, i < j + 1 -> recsE (nthL m i) = 0) := by
           intro h0 i hi
           by_cases e : i = j
           · subst e; exact h0
           · exact HJ.out.1 i (by omega)
         have HMJ := Lib.hid HJ.out.2
         have HRLn : Hid ((nthL m j).length = (nth3 x j).n) := (HLL.out wr HMJ.out).len
         generalize nth3 x j = sl at *
         generalize nthL m j = rl at *
         obtain ⟨sa, sn, sc⟩ := sl
         simp only at hc hsn HRLn
         clear HJ HXw
         obtain ⟨wo, hwo⟩ : ∃ z, z = wr := ⟨_, rfl⟩
         subst hwo
         go_wp2_with fail
         go_loopw [53] (fun z wr => ∃ k : Nat, k <= sn /\ z = .int .i64 k /\ Hid ((∀ i (hi : i < rl.length), i < k -> recE rl[i] = 0) /\ Below w4.heap.size w4 wr)) (fun z _ => sn - (intOf z).toNat)
         case atStart => exact ⟨0, Nat.zero_le _, rfl, fun i _ h => absurd h (by omega), HMJ.out⟩
         case round =>
           obtain ⟨k, hk, rfl, HK⟩ := hrel
           by_cases hlt : k < sn
           · have hlt' : (k : Int) < (sn : Int) := by omega
             have hks : k < rl.length := by rw [HRLn.out]; exact hlt
             obtain ⟨rb, ro, hra, hrb, y, hcells, hy⟩ := ((HLL.out wr HK.out.2).rd).at k hks
             simp only at hra
             have y0 : wr.cell? ⟨rb, ro + k * 8, none⟩ = some (.slice y.o.a y.o.n y.o.c) := hcells 0 (by omega)
             have y1 : wr.cell? ⟨rb, ro + k * 8 + 1, none⟩ = some (.int .u16 (rl[k].t : Int)) := hcells 1 (by omega)
             have y2 : wr.cell? ⟨rb, ro + k * 8 + 2, none⟩ = some (.int .u16 (rl[k].cl : Int)) := hcells 2 (by omega)
             have y3 : wr.cell? ⟨rb, ro + k * 8 + 3, none⟩ = some (.int .u32 (rl[k].tt : Int)) := hcells 3 (by omega)
             have y4 : wr.cell? ⟨rb, ro + k * 8 + 4, none⟩ = some (.slice y.d.p1.a y.d.p1.n y.d.p1.c) := hcells 4 (by omega)
             have y5 : wr.cell? ⟨rb, ro + k * 8 + 5, none⟩ = some (.slice y.d.p2.a y.d.p2.n y.d.p2.c) := hcells 5 (by omega)
             have y6 : wr.cell? ⟨rb, ro + k * 8 + 6, none⟩ = some (.slice y.d.p3.a y.d.p3.n y.d.p3.c) := hcells 6 (by omega)
             have y7 : wr.cell? ⟨rb, ro + k * 8 + 7, none⟩ = some (.slice y.d.p4.a y.d.p4.n y.d.p4.c) := hcells 7 (by omega)
             have hba : Below wr.heap.size wr (wr.alloc (.cells #[.slice y.o.a y.o.n y.o.c, .int .u16 rl[k].t, .int .u16 rl[k].cl, .int .u32 rl[k].tt, .slice y.d.p1.a y.d.p1.n y.d.p1.c, .slice y.d.p2.a y.d.p2.n y.d.p2.c, .slice y.d.p3.a y.d.p3.n y.d.p3.c, .slice y.d.p4.a y.d.p4.n y.d.p4.c] 62)) := newq_below _ _
             have HKB : Hid (Below w4.heap.size w4 (wr.alloc (.cells #[.slice y.o.a y.o.n y.o.c, .int .u16 rl[k].t, .int .u16 rl[k].cl, .int .u32 rl[k].tt, .slice y.d.p1.a y.d.p1.n y.d.p1.c, .slice y.d.p2.a y.d.p2.n y.d.p2.c, .slice y.d.p3.a y.d.p3.n y.d.p3.c, .slice y.d.p4.a y.d.p4.n y.d.p4.c] 62))) := HK.out.2.trans (hba.mono HK.out.2.size)
             have KR := Lib.hid (checkrec_any y rl[k] _ (hy.below hba) (by have := hy.1.len; have := (HCR.out _ (List.getElem_mem hks)).1; omega) (HCR.out _ (List.getElem_mem hks)).2)
             have HN : Hid (recE rl[k] = 0 -> ∀ i (hi : i < rl.length), i < k + 1 -> recE rl[i] = 0) := by
               intro h0 i hi hik
               by_cases e : i = k
               · subst e; exact h0
               · exact HK.out.1 i hi (by omega)
             have HEr : Hid (recE rl[k] ≠ 0 -> chkM m = recE rl[k]) := by
               intro h0
               have e := recsE_at rl k hks HK.out.1 h0
               rw [HAT.out (by rw [e]; exact h0), e]
             clear hy hcells hba
             generalize recE rl[k] = q at *
             generalize rl[k] = r at *
             subst hra
             by_cases h0 : q = 0
             · subst h0
               go_wp2_with fail
               refine KR.out.mono ?_
               rintro e w6 ⟨rfl, H6⟩
               go_wp2
               exact ⟨⟨k + 1, by omega, by go_num, HN.out trivial, HKB.out.trans (H6.out.mono HKB.out.size)⟩, by simp [intOf]; omega⟩
             · have h0' : (q != 0) = true := bne_iff_ne.2 h0
               go_wp2_with fail
               refine KR.out.mono ?_
               rintro e w6 ⟨rfl, H6⟩
               go_wp2
               go_ret
               have hb6 := HKB.out.trans (H6.out.mono HKB.out.size)
               exact ⟨by rw [HEr.out h0]; rfl, HB4.out.1.trans (hb6.mono HB4.out.1.size)⟩
           · have hkk : k = sn := by omega
             subst k
             have HAll : Hid (recsE rl = 0) := recsE_none rl (fun i hi => HK.out.1 i hi (by have := HRLn.out; omega))
             go_wp2
             exact ⟨⟨j + 1, by omega, by go_num, HNX.out HAll.out, HK.out.2⟩, by simp [intOf]; omega⟩
       · have hjj : j = 3 := by omega
         subst j
         have HC3 : Hid (chkM m = 0) := by show _ = _; rw [HC2.out]; exact all_none m HJ.out.1
         go_wp2
         go_ret
         exact ⟨by rw [HC3.out]; rfl, HB4.out.1.trans (HJ.out.2.mono HB4.out.1.size)⟩
end Go.Proofs.YtkjnbgekaifdfaaGreat
namespace Go.Proofs.YtkjnbgekaifdfaaGreat
open Go.ChangeShapes Go.WideShapes Go.ChangeAt Go.RowKit Go.Maps
def remN (x : MA) (k : Nat) : Nat -> Nat
 | 0 => k
 | j + 1 => remN x k j - min (remN x k j) (nth3 x j).n
def cutJ (x : MA) (k j : Nat) : MA := ⟨x.q, if 0 < j then ⟨x.l1.a, min k x.l1.n, x.l1.c⟩ else x.l1, if 1 < j then ⟨x.l2.a, min (remN x k 1) x.l2.n, x.l2.c⟩ else x.l2, if 2 < j then ⟨x.l3.a, min (remN x k 2) x.l3.n, x.l3.c⟩ else x.l3⟩
theorem remN_le (x : MA) (k : Nat) : ∀ j, remN x k j <= k
 | 0 => Nat.le_refl _
 | j + 1 => by have := remN_le x k j; simp only [remN]; omega
theorem cutJ_nth (x : MA) (k j : Nat) (hj : j < 3) : nth3 (cutJ x k j) j = nth3 x j := by
 have : j = 0 ∨ j = 1 ∨ j = 2 := by omega
 rcases this with rfl | rfl | rfl <;> rfl
theorem cutJ_step (H : Hd) (x : MA) (k j : Nat) (hj : j < 3) : (#[.int .u16 H.id, .bool H.rs, .int .i64 H.op, .bool H.aa, .bool H.tc, .bool H.rd, .bool H.ra, .bool H.ad, .bool H.cd, .int .i64 H.rc, .slice (cutJ x k j).q.a (cutJ x k j).q.n (cutJ x k j).q.c, .slice (cutJ x k j).l1.a (cutJ x k j).l1.n (cutJ x k j).l1.c, .slice (cutJ x k j).l2.a (cutJ x k j).l2.n (cutJ x k j).l2.c, .slice (cutJ x k j).l3.a (cutJ x k j).l3.n (cutJ x k j).l3.c] : Array Value).setIfInBounds (11 + j) (.slice (nth3 x j).a (min (remN x k j) (nth3 x j).n) (nth3 x j).c) = #[.int .u16 H.id, .bool H.rs, .int .i64 H.op, .bool H.aa, .bool H.tc, .bool H.rd, .bool H.ra, .bool H.ad, .bool H.cd, .int .i64 H.rc, .slice (cutJ x k (j + 1)).q.a (cutJ x k (j + 1)).q.n (cutJ x k (j + 1)).q.c, .slice (cutJ x k (j + 1)).l1.a (cutJ x k (j + 1)).l1.n (cutJ x k (j + 1)).l1.c, .slice (cutJ x k (j + 1)).l2.a (cutJ x k (j + 1)).l2.n (cutJ x k (j + 1)).l2.c, .slice (cutJ x k (j + 1)).l3.a (cutJ x k (j + 1)).l3.n (cutJ x k (j + 1)).l3.c] := by
 have : j = 0 ∨ j = 1 ∨ j = 2 := by omega
 rcases this with rfl | rfl | rfl <;> rfl
set_option maxHeartbeats 2000000 in
theorem first_any (H : Hd) (x : MA) (k : Nat) (w : World) (hk : k <= 1000000) (hc : ∀ j, (nth3 x j).n <= (nth3 x j).c /\ (nth3 x j).n <= 1000000 /\ (nth3 x j).c <= 9223372036854775807) :
   Calls Tryz.prog 32 #[.agg #[.int .u16 H.id, .bool H.rs, .int .i64 H.op, .bool H.aa, .bool H.tc, .bool H.rd, .bool H.ra, .bool H.ad, .bool H.cd, .int .i64 H.rc, .slice x.q.a x.q.n x.q.c, .slice x.l1.a x.l1.n x.l1.c, .slice x.l2.a x.l2.n x.l2.c, .slice x.l3.a x.l3.n x.l3.c], .int .i64 k] w fun e w' => e = .returned (.agg #[.int .u16 H.id, .bool H.rs, .int .i64 H.op, .bool H.aa, .bool H.tc, .bool H.rd, .bool H.ra, .bool H.ad, .bool H.cd, .int .i64 H.rc, .slice (cutJ x k 3).q.a (cutJ x k 3).q.n (cutJ x k 3).q.c, .slice (cutJ x k 3).l1.a (cutJ x k 3).l1.n (cutJ x k 3).l1.c, .slice (cutJ x k 3).l2.a (cutJ x k 3).l2.n (cutJ x k 3).l2.c, .slice (cutJ x k 3).l3.a (cutJ x k 3).l3.n (cutJ x k 3).l3.c]) /\ Hid (Below w.heap.size w w') := by
 obtain ⟨f1, f2⟩ : Below w.heap.size w ((w.alloc (.cells #[.int .u16 H.id, .bool H.rs, .int .i64 H.op, .bool H.aa, .bool H.tc, .bool H.rd, .bool H.ra, .bool H.ad, .bool H.cd, .int .i64 H.rc, .slice x.q.a x.q.n x.q.c, .slice x.l1.a x.l1.n x.l1.c, .slice x.l2.a x.l2.n x.l2.c, .slice x.l3.a x.l3.n x.l3.c] 26)).alloc (.cells zeroM 26)) /\ ((w.alloc (.cells #[.int .u16 H.id, .bool H.rs, .int .i64 H.op, .bool H.aa, .bool H.tc, .bool H.rd, .bool H.ra, .bool H.ad, .bool H.cd, .int .i64 H.rc, .slice x.q.a x.q.n x.q.c, .slice x.l1.a x.l1.n x.l1.c, .slice x.l2.a x.l2.n x.l2.c, .slice x.l3.a x.l3.n x.l3.c] 26)).alloc (.cells zeroM 26)).heap[w.heap.size]? = some (.cells #[.int .u16 H.id, .bool H.rs, .int .i64 H.op, .bool H.aa, .bool H.tc, .bool H.rd, .bool H.ra, .bool H.ad, .bool H.cd, .int .i64 H.rc, .slice x.q.a x.q.n x.q.c, .slice x.l1.a x.l1.n x.l1.c, .slice x.l2.a x.l2.n x.l2.c, .slice x.l3.a x.l3.n x.l3.c] 26) /\ ((w.alloc (.cells #[.int .u16 H.id, .bool H.rs, .int .i64 H.op, .bool H.aa, .bool H.tc, .bool H.rd, .bool H.ra, .bool H.ad, .bool H.cd, .int .i64 H.rc, .slice x.q.a x.q.n x.q.c, .slice x.l1.a x.l1.n x.l1.c, .slice x.l2.a x.l2.n x.l2.c, .slice x.l3.a x.l3.n x.l3.c] 26)).alloc (.cells zeroM 26)).heap[w.heap.size + 1]? = some (.cells zeroM 26) := by
   have n1 := heap_alloc_new w (.cells #[.int .u16 H.id, .bool H.rs, .int .i64 H.op, .bool H.aa, .bool H.tc, .bool H.rd, .bool H.ra, .bool H.ad, .bool H.cd, .int .i64 H.rc, .slice x.q.a x.q.n x.q.c, .slice x.l1.a x.l1.n x.l1.c, .slice x.l2.a x.l2.n x.l2.c, .slice x.l3.a x.l3.n x.l3.c] 26)
   have n2 := heap_alloc_new (w.alloc (.cells #[.int .u16 H.id, .bool H.rs, .int .i64 H.op, .bool H.aa, .bool H.tc, .bool H.rd, .bool H.ra, .bool H.ad, .bool H.cd, .int .i64 H.rc, .slice x.q.a x.q.n x.q.c, .slice x.l1.a x.l1.n x.l1.c, .slice x.l2.a x.l2.n x.l2.c, .slice x.l3.a x.l3.n x.l3.c] 26)) (.cells zeroM 26)
   have s1 : (w.alloc (.cells #[.int .u16 H.id, .bool H.rs, .int .i64 H.op, .bool H.aa, .bool H.tc, .bool H.rd, .bool H.ra, .bool H.ad, .bool H.cd, .int .i64 H.rc, .slice x.q.a x.q.n x.q.c, .slice x.l1.a x.l1.n x.l1.c, .slice x.l2.a x.l2.n x.l2.c, .slice x.l3.a x.l3.n x.l3.c] 26)).heap.size = w.heap.size + 1 := by simp
   rw [s1] at n2
   exact ⟨((Below.refl _ w).alloc (Nat.le_refl _) _).alloc (by omega) _, (Below.heap_alloc _ _ _ (by omega)).trans n1, n2⟩
 have HF : Hid (Below w.heap.size w ((w.alloc (.cells #[.int .u16 H.id, .bool H.rs, .int .i64 H.op, .bool H.aa, .bool H.tc, .bool H.rd, .bool H.ra, .bool H.ad, .bool H.cd, .int .i64 H.rc, .slice x.q.a x.q.n x.q.c, .slice x.l1.a x.l1.n x.l1.c, .slice x.l2.a x.l2.n x.l2.c, .slice x.l3.a x.l3.n x.l3.c] 26)).alloc (.cells zeroM 26)) /\ ((w.alloc (.cells #[.int .u16 H.id, .bool H.rs, .int .i64 H.op, .bool H.aa, .bool H.tc, .bool H.rd, .bool H.ra, .bool H.ad, .bool H.cd, .int .i64 H.rc, .slice x.q.a x.q.n x.q.c, .slice x.l1.a x.l1.n x.l1.c, .slice x.l2.a x.l2.n x.l2.c, .slice x.l3.a x.l3.n x.l3.c] 26)).alloc (.cells zeroM 26)).heap[w.heap.size]? = some (.cells #[.int .u16 H.id, .bool H.rs, .int .i64 H.op, .bool H.aa, .bool H.tc, .bool H.rd, .bool H.ra, .bool H.ad, .bool H.cd, .int .i64 H.rc, .slice x.q.a x.q.n x.q.c, .slice x.l1.a x.l1.n x.l1.c, .slice x.l2.a x.l2.n x.l2.c, .slice x.l3.a x.l3.n x.l3.c] 26) /\ ((w.alloc (.cells #[.int .u16 H.id, .bool H.rs, .int .i64 H.op, .bool H.aa, .bool H.tc, .bool H.rd, .bool H.ra, .bool H.ad, .bool H.cd, .int .i64 H.rc, .slice x.q.a x.q.n x.q.c, .slice x.l1.a x.l1.n x.l1.c, .slice x.l2.a x.l2.n x.l2.c, .slice x.l3.a x.l3.n x.l3.c] 26)).alloc (.cells zeroM 26)).heap[w.heap.size + 1]? = some (.cells zeroM 26)) := ⟨f1, f2⟩
 clear f1 f2
 unfold zeroM at HF
 have KSec : Hid (∀ W, Calls Tryz.prog 43 #[.pointer (some ⟨w.heap.size, 0, none⟩)] W fun e w' => e = .returned (.agg #[.pointer (some ⟨w.heap.size, 11, none⟩), .pointer (some ⟨w.heap.size, 12, none⟩), .pointer (some ⟨w.heap.size, 13, none⟩)]) /\ Hid (Below W.heap.size W w')) := fun W => sections_any w.heap.size W
 go_enter Tryz.func32, Tryz.ntmps32
 go_wp2_with fail
 refine (KSec.out _).mono ?_
 rintro e w1 ⟨rfl, H1⟩
 generalize (w.alloc (.cells #[.int .u16 H.id, .bool H.rs, .int .i64 H.op, .bool H.aa, .bool H.tc, .bool H.rd, .bool H.ra, .bool H.ad, .bool H.cd, .int .i64 H.rc, .slice x.q.a x.q.n x.q.c, .slice x.l1.a x.l1.n x.l1.c, .slice x.l2.a x.l2.n x.l2.c, .slice x.l3.a x.l3.n x.l3.c] 26)).alloc (.cells #[.int .u16 0, .bool false, .int .i64 0, .bool false, .bool false, .bool false, .bool false, .bool false, .bool false, .int .i64 0, .slice none 0 0, .slice none 0 0, .slice none 0 0, .slice none 0 0] 26) = Z at *
 obtain ⟨b, hbb⟩ : ∃ b, b = w.heap.size := ⟨_, rfl⟩
 have HB : Hid (w1.heap[b]? = some (.cells #[.int .u16 H.id, .bool H.rs, .int .i64 H.op, .bool H.aa, .bool H.tc, .bool H.rd, .bool H.ra, .bool H.ad, .bool H.cd, .int .i64 H.rc, .slice (cutJ x k 0).q.a (cutJ x k 0).q.n (cutJ x k 0).q.c, .slice (cutJ x k 0).l1.a (cutJ x k 0).l1.n (cutJ x k 0).l1.c, .slice (cutJ x k 0).l2.a (cutJ x k 0).l2.n (cutJ x k 0).l2.c, .slice (cutJ x k 0).l3.a (cutJ x k 0).l3.n (cutJ x k 0).l3.c] 26) /\ w1.heap[b + 1]? = some (.cells zeroM 26) /\ Below w.heap.size w w1) := by
   rw [hbb]
   exact ⟨(H1.out.block _ (box_lt HF.out.2.1)).trans HF.out.2.1, (H1.out.block _ (box_lt HF.out.2.2)).trans HF.out.2.2, HF.out.1.trans (H1.out.mono HF.out.1.size)⟩
 have HBW : Hid (b = w.heap.size) := hbb
 rw [<- hbb]
 clear HF H1 KSec hbb
 go_wp2_with fail
 go_loopw [1, 9] (fun y z wr => ∃ j : Nat, j <= 3 /\ y = .int .i64 (remN x k j : Nat) /\ z = .int .i64 j /\ Hid (wr.heap[b]? = some (.cells #[.int .u16 H.id, .bool H.rs, .int .i64 H.op, .bool H.aa, .bool H.tc, .bool H.rd, .bool H.ra, .bool H.ad, .bool H.cd, .int .i64 H.rc, .slice (cutJ x k j).q.a (cutJ x k j).q.n (cutJ x k j).q.c, .slice (cutJ x k j).l1.a (cutJ x k j).l1.n (cutJ x k j).l1.c, .slice (cutJ x k j).l2.a (cutJ x k j).l2.n (cutJ x k j).l2.c, .slice (cutJ x k j).l3.a (cutJ x k j).l3.n (cutJ x k j).l3.c] 26) /\ wr.heap[b + 1]? = some (.cells zeroM 26) /\ Below w.heap.size w wr)) (fun _ z _ => 3 - (intOf z).toNat)
 case atStart => exact ⟨0, by omega, rfl, rfl, HB.out⟩
 case round =>
   obtain ⟨j, hj, rfl, rfl, HK⟩ := hrel
   by_cases hlt3 : j < 3
   · have h3 : (j : Int) < 3 := by omega
     have hix := ixS b j hlt3
     have hcl := mbox_list (x := cutJ x k j) HK.out.1 j hlt3
     rw [cutJ_nth x k j hlt3] at hcl
     have hlb := box_lt HK.out.1
     have hfz : wr.frozen? ⟨b, 11 + j, none⟩ = false := box_frozen HK.out.1 _
     have HST := Lib.hid (cutJ_step H x k j hlt3)
     have HRM : Hid (remN x k (j + 1) = remN x k j - min (remN x k j) (nth3 x j).n) := rfl
     have hrm := remN_le x k j
     obtain ⟨hc1, hc2, hc3⟩ := hc j
     generalize nth3 x j = s at *
     generalize hR : remN x k j = R at *
     have HEND : Hid (∀ M : Nat, M = min R s.n -> (wr.setCell ⟨b, 11 + j, none⟩ (.slice s.a M s.c)).heap[b]? = some (.cells #[.int .u16 H.id, .bool H.rs, .int .i64 H.op, .bool H.aa, .bool H.tc, .bool H.rd, .bool H.ra, .bool H.ad, .bool H.cd, .int .i64 H.rc, .slice (cutJ x k (j + 1)).q.a (cutJ x k (j + 1)).q.n (cutJ x k (j + 1)).q.c, .slice (cutJ x k (j + 1)).l1.a (cutJ x k (j + 1)).l1.n (cutJ x k (j + 1)).l1.c, .slice (cutJ x k (j + 1)).l2.a (cutJ x k (j + 1)).l2.n (cutJ x k (j + 1)).l2.c, .slice (cutJ x k (j + 1)).l3.a (cutJ x k (j + 1)).l3.n (cutJ x k (j + 1)).l3.c] 26) /\ (wr.setCell ⟨b, 11 + j, none⟩ (.slice s.a M s.c)).heap[b + 1]? = some (.cells zeroM 26) /\ Below w.heap.size w (wr.setCell ⟨b, 11 + j, none⟩ (.slice s.a M s.c))) := by
       intro M hM
       have hgr := grown_set wr b (11 + j) (.slice s.a M s.c)
       refine ⟨?_, (hgr.block (b + 1) (box_lt HK.out.2.1) (by simp)).trans HK.out.2.1, HK.out.2.2.setCell (by have := HBW.out; simp only; omega) _⟩
       rw [<- HST.out, hM]
       exact box_set HK.out.1 _ _
     clear HST
     have hmx : (min R s.n : Nat) <= s.n := by omega
     go_wp2
     refine ⟨⟨j + 1, by omega, ?_, by go_num, HEND.out _ ?_⟩, by simp [intOf]; omega⟩
     · rw [HRM.out]
       congr 1
       split <;> omega
     · split <;> omega
   · have hjj : j = 3 := by omega
     subst j
     obtain ⟨z0, z1, z2, z3, z4, z5, z6, z7, z8, z9, z10, z11, z12, z13⟩ := mbox_cells HK.out.1
     have hl0 := box_lt HK.out.1
     have hl1 := box_lt HK.out.2.1
     have HK2 := Lib.hid HK.out.2.1
     unfold zeroM at HK2
     have HBE := Lib.hid HK.out.2.2
     generalize hX : cutJ x k 3 = X at *
     have HXX := Lib.hid hX
     clear HK hX
     have f0 : wr.frozen? ⟨b + 1, 0, none⟩ = false := box_frozen HK2.out _
     have e0 := box_cell HK2.out 0 _ rfl
     have f1 : wr.frozen? ⟨b + 1, 1, none⟩ = false := box_frozen HK2.out _
     have e1 := box_cell HK2.out 1 _ rfl
     have f2 : wr.frozen? ⟨b + 1, 2, none⟩ = false := box_frozen HK2.out _
     have e2 := box_cell HK2.out 2 _ rfl
     have f3 : wr.frozen? ⟨b + 1, 3, none⟩ = false := box_frozen HK2.out _
     have e3 := box_cell HK2.out 3 _ rfl
     have f4 : wr.frozen? ⟨b + 1, 4, none⟩ = false := box_frozen HK2.out _
     have e4 := box_cell HK2.out 4 _ rfl
     have f5 : wr.frozen? ⟨b + 1, 5, none⟩ = false := box_frozen HK2.out _
     have e5 := box_cell HK2.out 5 _ rfl
     have f6 : wr.frozen? ⟨b + 1, 6, none⟩ = false := box_frozen HK2.out _
     have e6 := box_cell HK2.out 6 _ rfl
     have f7 : wr.frozen? ⟨b + 1, 7, none⟩ = false := box_frozen HK2.out _
     have e7 := box_cell HK2.out 7 _ rfl
     have f8 : wr.frozen? ⟨b + 1, 8, none⟩ = false := box_frozen HK2.out _
     have e8 := box_cell HK2.out 8 _ rfl
     have f9 : wr.frozen? ⟨b + 1, 9, none⟩ = false := box_frozen HK2.out _
     have e9 := box_cell HK2.out 9 _ rfl
     have f10 : wr.frozen? ⟨b + 1, 10, none⟩ = false := box_frozen HK2.out _
     have e10 := box_cell HK2.out 10 _ rfl
     have f11 : wr.frozen? ⟨b + 1, 11, none⟩ = false := box_frozen HK2.out _
     have e11 := box_cell HK2.out 11 _ rfl
     have f12 : wr.frozen? ⟨b + 1, 12, none⟩ = false := box_frozen HK2.out _
     have e12 := box_cell HK2.out 12 _ rfl
     have f13 : wr.frozen? ⟨b + 1, 13, none⟩ = false := box_frozen HK2.out _
     have e13 := box_cell HK2.out 13 _ rfl
     go_wp2_with fail
     have HG9 := Lib.hid (put14 HK2.out (.int .u16 H.id) (.bool H.rs) (.int .i64 H.op) (.bool H.aa) (.bool H.tc) (.bool H.rd) (.bool H.ra) (.bool H.ad) (.bool H.cd) (.int .i64 H.rc) (.slice X.q.a X.q.n X.q.c) (.slice X.l1.a X.l1.n X.l1.c) (.slice X.l2.a X.l2.n X.l2.c) (.slice X.l3.a X.l3.n X.l3.c))
     have HB9 := Lib.hid (put14_below wr (b + 1) (.int .u16 H.id) (.bool H.rs) (.int .i64 H.op) (.bool H.aa) (.bool H.tc) (.bool H.rd) (.bool H.ra) (.bool H.ad) (.bool H.cd) (.int .i64 H.rc) (.slice X.q.a X.q.n X.q.c) (.slice X.l1.a X.l1.n X.l1.c) (.slice X.l2.a X.l2.n X.l2.c) (.slice X.l3.a X.l3.n X.l3.c))
     generalize ((((((((((((((wr.setCell ⟨b + 1, 0, none⟩ (.int .u16 H.id)).setCell ⟨b + 1, 1, none⟩ (.bool H.rs)).setCell ⟨b + 1, 2, none⟩ (.int .i64 H.op)).setCell ⟨b + 1, 3, none⟩ (.bool H.aa)).setCell ⟨b + 1, 4, none⟩ (.bool H.tc)).setCell ⟨b + 1, 5, none⟩ (.bool H.rd)).setCell ⟨b + 1, 6, none⟩ (.bool H.ra)).setCell ⟨b + 1, 7, none⟩ (.bool H.ad)).setCell ⟨b + 1, 8, none⟩ (.bool H.cd)).setCell ⟨b + 1, 9, none⟩ (.int .i64 H.rc)).setCell ⟨b + 1, 10, none⟩ (.slice X.q.a X.q.n X.q.c)).setCell ⟨b + 1, 11, none⟩ (.slice X.l1.a X.l1.n X.l1.c)).setCell ⟨b + 1, 12, none⟩ (.slice X.l2.a X.l2.n X.l2.c)).setCell ⟨b + 1, 13, none⟩ (.slice X.l3.a X.l3.n X.l3.c)) = w9 at *
     have y0 : w9.cell? ⟨b + 1, 0, none⟩ = some (.int .u16 H.id) := box_cell HG9.out 0 _ rfl
     have y1 : w9.cell? ⟨b + 1, 1, none⟩ = some (.bool H.rs) := box_cell HG9.out 1 _ rfl
     have y2 : w9.cell? ⟨b + 1, 2, none⟩ = some (.int .i64 H.op) := box_cell HG9.out 2 _ rfl
     have y3 : w9.cell? ⟨b + 1, 3, none⟩ = some (.bool H.aa) := box_cell HG9.out 3 _ rfl
     have y4 : w9.cell? ⟨b + 1, 4, none⟩ = some (.bool H.tc) := box_cell HG9.out 4 _ rfl
     have y5 : w9.cell? ⟨b + 1, 5, none⟩ = some (.bool H.rd) := box_cell HG9.out 5 _ rfl
     have y6 : w9.cell? ⟨b + 1, 6, none⟩ = some (.bool H.ra) := box_cell HG9.out 6 _ rfl
     have y7 : w9.cell? ⟨b + 1, 7, none⟩ = some (.bool H.ad) := box_cell HG9.out 7 _ rfl
     have y8 : w9.cell? ⟨b + 1, 8, none⟩ = some (.bool H.cd) := box_cell HG9.out 8 _ rfl
     have y9 : w9.cell? ⟨b + 1, 9, none⟩ = some (.int .i64 H.rc) := box_cell HG9.out 9 _ rfl
     have y10 : w9.cell? ⟨b + 1, 10, none⟩ = some (.slice X.q.a X.q.n X.q.c) := box_cell HG9.out 10 _ rfl
     have y11 : w9.cell? ⟨b + 1, 11, none⟩ = some (.slice X.l1.a X.l1.n X.l1.c) := box_cell HG9.out 11 _ rfl
     have y12 : w9.cell? ⟨b + 1, 12, none⟩ = some (.slice X.l2.a X.l2.n X.l2.c) := box_cell HG9.out 12 _ rfl
     have y13 : w9.cell? ⟨b + 1, 13, none⟩ = some (.slice X.l3.a X.l3.n X.l3.c) := box_cell HG9.out 13 _ rfl
     have lt9 := box_lt HG9.out
     refine bodyPost_ret (v := .agg #[.int .u16 H.id, .bool H.rs, .int .i64 H.op, .bool H.aa, .bool H.tc, .bool H.rd, .bool H.ra, .bool H.ad, .bool H.cd, .int .i64 H.rc, .slice X.q.a X.q.n X.q.c, .slice X.l1.a X.l1.n X.l1.c, .slice X.l2.a X.l2.n X.l2.c, .slice X.l3.a X.l3.n X.l3.c]) ?_ rfl ⟨by rw [HXX.out], HBE.out.trans (HB9.out.mono (by have := HBW.out; omega))⟩
     simp [results, Tryz.results32, go_sem, y0, y1, y2, y3, y4, y5, y6, y7, y8, y9, y10, y11, y12, y13, lt9]
end Go.Proofs.YtkjnbgekaifdfaaGreat
namespace Go.Proofs.YtkjnbgekaifdfaaGreat
open Go.ChangeShapes Go.WideShapes Go.ChangeAt Go.RowKit Go.Maps
def cutM (m : Mg) (k : Nat) : Mg := ⟨m.h, m.qs, m.l1.take k, m.l2.take (k - m.l1.length), m.l3.take (k - m.l1.length - m.l2.length)⟩
theorem LRd.take {w : World} {s : Sl} {rs : List Rec} (h : LRd w s rs) (k n : Nat) (hn : n = min k s.n) : LRd w ⟨s.a, n, s.c⟩ (rs.take k) := by
 refine ⟨?_, by rw [List.length_take, h.len, hn], ⟨by have := h.cap; simp only; omega, h.cap.2⟩, h.nil⟩
 rcases h.rd with h0 | ⟨b, o, e, hb, hc⟩
 · subst h0; exact .inl (by simp)
 · refine .inr ⟨b, o, e, hb, fun i hi => ?_⟩
   have hi' : i < rs.length := by rw [List.length_take] at hi; omega
   obtain ⟨x, h1, h2⟩ := hc i hi'
   rw [List.getElem_take]
   exact ⟨x, h1, h2⟩
theorem MRd.cut {w : World} {H : Hd} {x : MA} {m : Mg} (h : MRd w H x m) (k : Nat) : MRd w H (cutJ x k 3) (cutM m k) := by
 have e1 := h.l1.len
 have e2 := h.l2.len
 have r1 : remN x k 1 = k - m.l1.length := by
   show k - min k (nth3 x 0).n = _
   have : (nth3 x 0).n = x.l1.n := rfl
   omega
 have r2 : remN x k 2 = k - m.l1.length - m.l2.length := by
   show remN x k 1 - min (remN x k 1) (nth3 x 1).n = _
   have : (nth3 x 1).n = x.l2.n := rfl
   omega
 refine ⟨h.h, h.q, h.l1.take k _ rfl, h.l2.take _ _ (by rw [r1]), h.l3.take _ _ (by rw [r2]), h.b.1, h.b.2.1, fun r hr => h.b.2.2.1 r (List.mem_of_mem_take hr), fun r hr => h.b.2.2.2.1 r (List.mem_of_mem_take hr), fun r hr => h.b.2.2.2.2 r (List.mem_of_mem_take hr)⟩
theorem cutM_sub (m : Mg) (k j : Nat) : ∀ r ∈ nthL (cutM m k) j, r ∈ nthL m j := by
 intro r hr
 unfold nthL at hr ⊢
 split at hr
 · next h => rw [if_pos h]; exact List.mem_of_mem_take hr
 · next h =>
   rw [if_neg h]
   split at hr
   · next h2 => rw [if_pos h2]; exact List.mem_of_mem_take hr
   · next h2 => rw [if_neg h2]; exact List.mem_of_mem_take hr
theorem ChkOk.cut {m : Mg} (h : ChkOk m) (k : Nat) : ChkOk (cutM m k) :=
 ⟨h.hd, h.nq, by have := h.nr; unfold tot at *; simp only [cutM, List.length_take]; omega, h.qs, fun r hr => h.l1 r (List.mem_of_mem_take hr), fun r hr => h.l2 r (List.mem_of_mem_take hr), fun r hr => h.l3 r (List.mem_of_mem_take hr)⟩
theorem cutM_all (m : Mg) (k : Nat) (h : tot m <= k) : cutM m k = m := by
 unfold tot at h
 unfold cutM
 rw [List.take_of_length_le (by omega), List.take_of_length_le (by omega), List.take_of_length_le (by omega)]
def PtR (m : Mg) (z : Int) (w' : World) (s : Sl) (er : Int) : Prop :=
 if chkM m = 0 then (if 0 <= z /\ z <= (tot m : Int) then WrR (prun (pmsg (cutM m z.toNat)) (some ([], []))) w' s er else er = 2 /\ s = ⟨none, 0, 0⟩) else er = chkM m /\ s = ⟨none, 0, 0⟩
def PtP (m : Mg) (z : Int) (w : World) (e : Ending) (w' : World) : Prop := ∃ (s : Sl) (er : Int), e = .returned (.tuple #[.slice s.a s.n s.c, .int .i64 er]) /\ Hid (PtR m z w' s er /\ Below w.heap.size w w')
set_option maxHeartbeats 2000000 in
theorem part_any (H : Hd) (x : MA) (m : Mg) (z : Int) (w : World) (hm : MRd w H x m) (hF : Fin m) :
   Calls Tryz.prog 11 #[.agg #[.int .u16 H.id, .bool H.rs, .int .i64 H.op, .bool H.aa, .bool H.tc, .bool H.rd, .bool H.ra, .bool H.ad, .bool H.cd, .int .i64 H.rc, .slice x.q.a x.q.n x.q.c, .slice x.l1.a x.l1.n x.l1.c, .slice x.l2.a x.l2.n x.l2.c, .slice x.l3.a x.l3.n x.l3.c], .int .i64 z] w (PtP m z w) := by
 have hb0 : Below w.heap.size w (w.alloc (.cells #[.int .u16 H.id, .bool H.rs, .int .i64 H.op, .bool H.aa, .bool H.tc, .bool H.rd, .bool H.ra, .bool H.ad, .bool H.cd, .int .i64 H.rc, .slice x.q.a x.q.n x.q.c, .slice x.l1.a x.l1.n x.l1.c, .slice x.l2.a x.l2.n x.l2.c, .slice x.l3.a x.l3.n x.l3.c] 26)) := newq_below _ _
 have HBX : Hid ((w.alloc (.cells #[.int .u16 H.id, .bool H.rs, .int .i64 H.op, .bool H.aa, .bool H.tc, .bool H.rd, .bool H.ra, .bool H.ad, .bool H.cd, .int .i64 H.rc, .slice x.q.a x.q.n x.q.c, .slice x.l1.a x.l1.n x.l1.c, .slice x.l2.a x.l2.n x.l2.c, .slice x.l3.a x.l3.n x.l3.c] 26)).heap[w.heap.size]? = some (.cells #[.int .u16 H.id, .bool H.rs, .int .i64 H.op, .bool H.aa, .bool H.tc, .bool H.rd, .bool H.ra, .bool H.ad, .bool H.cd, .int .i64 H.rc, .slice x.q.a x.q.n x.q.c, .slice x.l1.a x.l1.n x.l1.c, .slice x.l2.a x.l2.n x.l2.c, .slice x.l3.a x.l3.n x.l3.c] 26)) := mbox_new H x w
 have HBel : Hid (Below w.heap.size w (w.alloc (.cells #[.int .u16 H.id, .bool H.rs, .int .i64 H.op, .bool H.aa, .bool H.tc, .bool H.rd, .bool H.ra, .bool H.ad, .bool H.cd, .int .i64 H.rc, .slice x.q.a x.q.n x.q.c, .slice x.l1.a x.l1.n x.l1.c, .slice x.l2.a x.l2.n x.l2.c, .slice x.l3.a x.l3.n x.l3.c] 26))) := hb0
 have e1 := hm.l1.len
 have e2 := hm.l2.len
 have e3 := hm.l3.len
 have HTOT : Hid (tot m = x.l1.n + x.l2.n + x.l3.n) := (by unfold tot; omega : tot m = x.l1.n + x.l2.n + x.l3.n)
 have hT : x.l1.n + x.l2.n + x.l3.n <= 1000000 := by have := hF.t; have := HTOT.out; omega
 have KC := Lib.hid (check_msg H x m _ (hm.below hb0) hF)
 have KT := fun W => Lib.hid (total_any H x W (by omega))
 have HM : Hid (MRd w H x m /\ Fin m) := ⟨hm, hF⟩
 have hcap : ∀ j, (nth3 x j).n <= (nth3 x j).c /\ (nth3 x j).n <= 1000000 /\ (nth3 x j).c <= 9223372036854775807 := by
   intro j
   have h1 := (hm.nth j).1.cap
   refine ⟨h1.1, ?_, h1.2⟩
   unfold nth3
   split
   · omega
   · split <;> omega
 have HCAP := Lib.hid hcap
 obtain ⟨C, hC⟩ : ∃ C, chkM m = C := ⟨_, rfl⟩
 have HCM : Hid (chkM m = C) := hC
 rw [hC] at KC
 clear hm hF e1 e2 e3 hb0 hC hcap
 go_enter Tryz.func11, Tryz.ntmps11
 go_wp2_with fail
 generalize w.alloc (.cells #[.int .u16 H.id, .bool H.rs, .int .i64 H.op, .bool H.aa, .bool H.tc, .bool H.rd, .bool H.ra, .bool H.ad, .bool H.cd, .int .i64 H.rc, .slice x.q.a x.q.n x.q.c, .slice x.l1.a x.l1.n x.l1.c, .slice x.l2.a x.l2.n x.l2.c, .slice x.l3.a x.l3.n x.l3.c] 26) = Z at *
 obtain ⟨b, hbb⟩ : ∃ b, b = w.heap.size := ⟨_, rfl⟩
 rw [<- hbb] at HBX ⊢
 clear hbb
 refine KC.out.mono ?_
 rintro e w1 ⟨rfl, H1⟩
 have HB1 : Hid (Below w.heap.size w w1 /\ w1.heap[b]? = some (.cells #[.int .u16 H.id, .bool H.rs, .int .i64 H.op, .bool H.aa, .bool H.tc, .bool H.rd, .bool H.ra, .bool H.ad, .bool H.cd, .int .i64 H.rc, .slice x.q.a x.q.n x.q.c, .slice x.l1.a x.l1.n x.l1.c, .slice x.l2.a x.l2.n x.l2.c, .slice x.l3.a x.l3.n x.l3.c] 26)) := ⟨HBel.out.trans (H1.out.mono HBel.out.size), (H1.out.block b (box_lt HBX.out)).trans HBX.out⟩
 clear KC H1
 by_cases hC0 : C = 0
 case neg =>
   have h0' : (C != 0) = true := bne_iff_ne.2 hC0
   go_wp2
   go_ret2
   refine ⟨⟨none, 0, 0⟩, C, rfl, ?_, HB1.out.1⟩
   unfold PtR
   rw [HCM.out, if_neg hC0]
   exact ⟨rfl, rfl⟩
 subst hC0
 by_cases hz : z < 0
 · go_wp2
   go_ret2
   refine ⟨⟨none, 0, 0⟩, 2, rfl, ?_, HB1.out.1⟩
   unfold PtR
   rw [HCM.out, if_pos rfl, if_neg (by omega)]
   exact ⟨rfl, rfl⟩
 obtain ⟨k, rfl⟩ : ∃ k : Nat, z = k := ⟨z.toNat, by omega⟩
 clear hz
 have hz : ¬ (k : Int) < 0 := by omega
 obtain ⟨z0, z1, z2, z3, z4, z5, z6, z7, z8, z9, z10, z11, z12, z13⟩ := mbox_cells HB1.out.2
 have hl1 := box_lt HB1.out.2
 go_wp2_with fail
 refine (KT w1).out.mono ?_
 rintro e w2 ⟨rfl, H2⟩
 have HB2 : Hid (Below w.heap.size w w2 /\ w2.heap[b]? = some (.cells #[.int .u16 H.id, .bool H.rs, .int .i64 H.op, .bool H.aa, .bool H.tc, .bool H.rd, .bool H.ra, .bool H.ad, .bool H.cd, .int .i64 H.rc, .slice x.q.a x.q.n x.q.c, .slice x.l1.a x.l1.n x.l1.c, .slice x.l2.a x.l2.n x.l2.c, .slice x.l3.a x.l3.n x.l3.c] 26)) := ⟨HB1.out.1.trans (H2.out.mono HB1.out.1.size), (H2.out.block b hl1).trans HB1.out.2⟩
 clear KT H2 z0 z1 z2 z3 z4 z5 z6 z7 z8 z9 z10 z11 z12 z13 hl1
 obtain ⟨TT, hTT⟩ : ∃ TT, x.l1.n + x.l2.n + x.l3.n = TT := ⟨_, rfl⟩
 rw [hTT] at HTOT hT ⊢
 clear hTT
 by_cases hk : TT < k
 · have hk' : (TT : Int) < (k : Int) := by omega
   go_wp2
   go_ret2
   refine ⟨⟨none, 0, 0⟩, 2, rfl, ?_, HB2.out.1⟩
   unfold PtR
   rw [HCM.out, if_pos rfl, if_neg (by rw [HTOT.out]; omega)]
   exact ⟨rfl, rfl⟩
 have hk' : (k : Int) <= (TT : Int) := by omega
 obtain ⟨z0, z1, z2, z3, z4, z5, z6, z7, z8, z9, z10, z11, z12, z13⟩ := mbox_cells HB2.out.2
 have hl2 := box_lt HB2.out.2
 have KF := Lib.hid (first_any H x k w2 (by omega) HCAP.out)
 go_wp2_with fail
 refine KF.out.mono ?_
 rintro e w3 ⟨rfl, H3⟩
 have HB3 : Hid (Below w.heap.size w w3) := HB2.out.1.trans (H3.out.mono HB2.out.1.size)
 have hok : ChkOk m := chkM_zero.1 HCM.out
 have KW := Lib.hid (mwrite_any H (cutJ x k 3) (cutM m k) w3 ((HM.out.1.below HB3.out).cut k) (hok.cut k) (fun j r hr => HM.out.2.d j r (cutM_sub m k j r hr)))
 clear hok KF z0 z1 z2 z3 z4 z5 z6 z7 z8 z9 z10 z11 z12 z13
 generalize cutJ x k 3 = X at *
 go_wp2_with fail
 refine KW.out.mono ?_
 rintro e w4 ⟨s4, er, rfl, H4⟩
 go_wp2_with fail
 go_ret2
 refine ⟨s4, er, rfl, ?_, HB3.out.trans (H4.out.2.mono HB3.out.size)⟩
 unfold PtR
 rw [HCM.out, if_pos rfl, if_pos (by rw [HTOT.out]; omega), Int.toNat_natCast]
 exact H4.out.1
def ByR (m : Mg) (w' : World) (s : Sl) (er : Int) : Prop := if chkM m = 0 then WrR (prun (pmsg m) (some ([], []))) w' s er else er = chkM m /\ s = ⟨none, 0, 0⟩
def ByP (m : Mg) (w : World) (e : Ending) (w' : World) : Prop := ∃ (s : Sl) (er : Int), e = .returned (.tuple #[.slice s.a s.n s.c, .int .i64 er]) /\ Hid (ByR m w' s er /\ Below w.heap.size w w')
set_option maxHeartbeats 2000000 in
theorem bytes_msg (H : Hd) (x : MA) (m : Mg) (w : World) (hm : MRd w H x m) (hF : Fin m) :
   Calls Tryz.prog 9 #[.agg #[.int .u16 H.id, .bool H.rs, .int .i64 H.op, .bool H.aa, .bool H.tc, .bool H.rd, .bool H.ra, .bool H.ad, .bool H.cd, .int .i64 H.rc, .slice x.q.a x.q.n x.q.c, .slice x.l1.a x.l1.n x.l1.c, .slice x.l2.a x.l2.n x.l2.c, .slice x.l3.a x.l3.n x.l3.c]] w (ByP m w) := by
 have hb0 : Below w.heap.size w (w.alloc (.cells #[.int .u16 H.id, .bool H.rs, .int .i64 H.op, .bool H.aa, .bool H.tc, .bool H.rd, .bool H.ra, .bool H.ad, .bool H.cd, .int .i64 H.rc, .slice x.q.a x.q.n x.q.c, .slice x.l1.a x.l1.n x.l1.c, .slice x.l2.a x.l2.n x.l2.c, .slice x.l3.a x.l3.n x.l3.c] 26)) := newq_below _ _
 have HBX : Hid ((w.alloc (.cells #[.int .u16 H.id, .bool H.rs, .int .i64 H.op, .bool H.aa, .bool H.tc, .bool H.rd, .bool H.ra, .bool H.ad, .bool H.cd, .int .i64 H.rc, .slice x.q.a x.q.n x.q.c, .slice x.l1.a x.l1.n x.l1.c, .slice x.l2.a x.l2.n x.l2.c, .slice x.l3.a x.l3.n x.l3.c] 26)).heap[w.heap.size]? = some (.cells #[.int .u16 H.id, .bool H.rs, .int .i64 H.op, .bool H.aa, .bool H.tc, .bool H.rd, .bool H.ra, .bool H.ad, .bool H.cd, .int .i64 H.rc, .slice x.q.a x.q.n x.q.c, .slice x.l1.a x.l1.n x.l1.c, .slice x.l2.a x.l2.n x.l2.c, .slice x.l3.a x.l3.n x.l3.c] 26)) := mbox_new H x w
 have HBel : Hid (Below w.heap.size w (w.alloc (.cells #[.int .u16 H.id, .bool H.rs, .int .i64 H.op, .bool H.aa, .bool H.tc, .bool H.rd, .bool H.ra, .bool H.ad, .bool H.cd, .int .i64 H.rc, .slice x.q.a x.q.n x.q.c, .slice x.l1.a x.l1.n x.l1.c, .slice x.l2.a x.l2.n x.l2.c, .slice x.l3.a x.l3.n x.l3.c] 26))) := hb0
 have e1 := hm.l1.len
 have e2 := hm.l2.len
 have e3 := hm.l3.len
 have HTOT : Hid (tot m = x.l1.n + x.l2.n + x.l3.n) := (by unfold tot; omega : tot m = x.l1.n + x.l2.n + x.l3.n)
 have hT : x.l1.n + x.l2.n + x.l3.n <= 1000000 := by have := hF.t; have := HTOT.out; omega
 have KT := fun W => Lib.hid (total_any H x W (by omega))
 have KP : Hid (∀ W, Below w.heap.size w W -> Calls Tryz.prog 11 #[.agg #[.int .u16 H.id, .bool H.rs, .int .i64 H.op, .bool H.aa, .bool H.tc, .bool H.rd, .bool H.ra, .bool H.ad, .bool H.cd, .int .i64 H.rc, .slice x.q.a x.q.n x.q.c, .slice x.l1.a x.l1.n x.l1.c, .slice x.l2.a x.l2.n x.l2.c, .slice x.l3.a x.l3.n x.l3.c], .int .i64 ((x.l1.n + x.l2.n + x.l3.n : Nat) : Int)] W (PtP m ((x.l1.n + x.l2.n + x.l3.n : Nat) : Int) W)) := fun W hW => part_any H x m _ W (hm.below hW) hF
 have HRES : Hid (∀ w' s er, PtR m ((x.l1.n + x.l2.n + x.l3.n : Nat) : Int) w' s er -> ByR m w' s er) := by
   intro w' s er h
   unfold PtR at h
   unfold ByR
   split at h
   · next h0 =>
     rw [if_pos h0]
     rw [if_pos ⟨by omega, by rw [HTOT.out]; exact Int.le_refl _⟩, Int.toNat_natCast, cutM_all m _ (by rw [HTOT.out]; exact Nat.le_refl _)] at h
     exact h
   · next h0 => rw [if_neg h0]; exact h
 clear hm hF e1 e2 e3 hb0
 go_enter Tryz.func9, Tryz.ntmps9
 go_wp2_with fail
 generalize w.alloc (.cells #[.int .u16 H.id, .bool H.rs, .int .i64 H.op, .bool H.aa, .bool H.tc, .bool H.rd, .bool H.ra, .bool H.ad, .bool H.cd, .int .i64 H.rc, .slice x.q.a x.q.n x.q.c, .slice x.l1.a x.l1.n x.l1.c, .slice x.l2.a x.l2.n x.l2.c, .slice x.l3.a x.l3.n x.l3.c] 26) = Z at *
 obtain ⟨b, hbb⟩ : ∃ b, b = w.heap.size := ⟨_, rfl⟩
 rw [<- hbb] at HBX ⊢
 clear hbb
 have KS : ∀ W, Below Z.heap.size Z W -> (W.cell? ⟨b, 0, none⟩ = some (.int .u16 H.id) /\ W.cell? ⟨b, 1, none⟩ = some (.bool H.rs) /\ W.cell? ⟨b, 2, none⟩ = some (.int .i64 H.op) /\ W.cell? ⟨b, 3, none⟩ = some (.bool H.aa) /\ W.cell? ⟨b, 4, none⟩ = some (.bool H.tc) /\ W.cell? ⟨b, 5, none⟩ = some (.bool H.rd) /\ W.cell? ⟨b, 6, none⟩ = some (.bool H.ra) /\ W.cell? ⟨b, 7, none⟩ = some (.bool H.ad) /\ W.cell? ⟨b, 8, none⟩ = some (.bool H.cd) /\ W.cell? ⟨b, 9, none⟩ = some (.int .i64 H.rc) /\ W.cell? ⟨b, 10, none⟩ = some (.slice x.q.a x.q.n x.q.c) /\ W.cell? ⟨b, 11, none⟩ = some (.slice x.l1.a x.l1.n x.l1.c) /\ W.cell? ⟨b, 12, none⟩ = some (.slice x.l2.a x.l2.n x.l2.c) /\ W.cell? ⟨b, 13, none⟩ = some (.slice x.l3.a x.l3.n x.l3.c)) := fun W hW => mbox_cells ((hW.block b (box_lt HBX.out)).trans HBX.out)
 obtain ⟨z0, z1, z2, z3, z4, z5, z6, z7, z8, z9, z10, z11, z12, z13⟩ := KS Z (Below.refl _ _)
 have hbZ := box_lt HBX.out
 generalize x.l1.n + x.l2.n + x.l3.n = TT at *
 go_region_held3 (fun W => (W.cell? ⟨b, 0, none⟩ = some (.int .u16 H.id) /\ W.cell? ⟨b, 1, none⟩ = some (.bool H.rs) /\ W.cell? ⟨b, 2, none⟩ = some (.int .i64 H.op) /\ W.cell? ⟨b, 3, none⟩ = some (.bool H.aa) /\ W.cell? ⟨b, 4, none⟩ = some (.bool H.tc) /\ W.cell? ⟨b, 5, none⟩ = some (.bool H.rd) /\ W.cell? ⟨b, 6, none⟩ = some (.bool H.ra) /\ W.cell? ⟨b, 7, none⟩ = some (.bool H.ad) /\ W.cell? ⟨b, 8, none⟩ = some (.bool H.cd) /\ W.cell? ⟨b, 9, none⟩ = some (.int .i64 H.rc) /\ W.cell? ⟨b, 10, none⟩ = some (.slice x.q.a x.q.n x.q.c) /\ W.cell? ⟨b, 11, none⟩ = some (.slice x.l1.a x.l1.n x.l1.c) /\ W.cell? ⟨b, 12, none⟩ = some (.slice x.l2.a x.l2.n x.l2.c) /\ W.cell? ⟨b, 13, none⟩ = some (.slice x.l3.a x.l3.n x.l3.c))) (first | exact KS _ HB2.out | exact KS _ HB1.out | exact KS _ (Below.refl Z.heap.size Z).drew | exact KS _ (Below.refl Z.heap.size Z) | exact KS _ HB2.out.drew | exact KS _ HB1.out.drew) (first
   | (go_at_call 30; refine Calls.mono (KT _).out ?_; rintro e w1 ⟨rfl, H1⟩; have HB1 : Hid (Below Z.heap.size Z w1) := (by first | exact Below.trans ((Below.refl Z.heap.size Z).drew) (Below.mono H1.out (Below.size ((Below.refl Z.heap.size Z).drew))) | exact Below.trans (Below.refl Z.heap.size Z) (Below.mono H1.out (Below.size (Below.refl Z.heap.size Z)))))
   | (go_at_call 11; refine Calls.mono (KP.out _ (by first | exact HBel.out.trans (HB1.out.mono HBel.out.size) | exact HBel.out.trans (HB1.out.drew.mono HBel.out.size))) ?_; rintro e w2 ⟨s2, er2, rfl, H2⟩; have HB2 : Hid (Below Z.heap.size Z w2) := (by first | exact Below.trans HB1.out (Below.mono H2.out.2 (Below.size HB1.out)) | exact Below.trans HB1.out.drew (Below.mono H2.out.2 (Below.size HB1.out.drew)))))
 go_wp2_with fail
 go_ret2
 exact ⟨s2, er2, rfl, HRES.out _ _ _ H2.out.1, HBel.out.trans (HB2.out.mono HBel.out.size)⟩
end Go.Proofs.YtkjnbgekaifdfaaGreat
namespace Go.Proofs.YtkjnbgekaifdfaaGreat
open Go.ChangeShapes Go.WideShapes Go.ChangeAt Go.RowKit
set_option maxHeartbeats 1000000 in
theorem sameq44 (x y : QA) (q : Qn) (w : World) (h1 : QOk w x q) (h2 : QOk w y q) :
   Calls Tryz.prog 73 #[.agg #[.slice x.s.a x.s.n x.s.c, .int .u16 (x.ty : Int), .int .u16 (x.cl : Int)], .agg #[.slice y.s.a y.s.n y.s.c, .int .u16 (y.ty : Int), .int .u16 (y.cl : Int)]] w fun e w' => e = .returned (.bool true) /\ Below w.heap.size w w' := by
 obtain ⟨⟨a1, n1, c1⟩, t1, l1⟩ := x
 obtain ⟨⟨a2, n2, c2⟩, t2, l2⟩ := y
 obtain ⟨hr1, e1, e2, b1, b2⟩ := h1
 obtain ⟨hr2, e3, e4, b3, b4⟩ := h2
 simp only at *
 subst e1 e2
 rw [e3, e4]
 obtain rfl : n1 = n2 := hr1.len.symm.trans hr2.len
 have KN : ∀ W, Below w.heap.size w W -> Hid (Calls Tryz.prog 101 #[.slice a1 n1 c1, .slice a2 n1 c2] W fun e w' => e = .returned (.bool true) /\ Below W.heap.size W w') := fun W hb => Calls.mono (sameN_yes a1 a2 n1 c1 c2 q.nm W (hr1.rd.below hb) (hr2.rd.below hb) hr1.len (Nat.le_trans hr1.cap.1 hr1.cap.2)) (by
   rintro e w' h
   exact h)
 clear hr1 hr2 e3 e4
 go_enter Tryz.func73, Tryz.ntmps73
 go_wp2_with fail
 refine (KN _ (((Below.refl _ _).alloc (Nat.le_refl _) _).alloc (by simp) _)).out.mono ?_
 rintro e w2 ⟨rfl, hb2⟩
 have HB2 : Hid (Below w.heap.size w w2 /\ w2.heap[w.heap.size]? = some (.cells #[.slice a1 n1 c1, .int .u16 (q.ty : Int), .int .u16 (q.cl : Int)] 55) /\ w2.heap[w.heap.size + 1]? = some (.cells #[.slice a2 n1 c2, .int .u16 (q.ty : Int), .int .u16 (q.cl : Int)] 55)) := by
   refine ⟨(((Below.refl _ _).alloc (Nat.le_refl _) _).alloc (by simp) _).trans (hb2.mono (by simp; omega)), (hb2.block _ (by simp; omega)).trans (block_alloc (alloc_at _ _) _), (hb2.block _ (by simp)).trans ?_⟩
   have := alloc_at (w.alloc (.cells #[.slice a1 n1 c1, .int .u16 (q.ty : Int), .int .u16 (q.cl : Int)] 55)) (.cells #[.slice a2 n1 c2, .int .u16 (q.ty : Int), .int .u16 (q.cl : Int)] 55)
   simp only [World.size_alloc] at this
   exact this
 clear hb2 KN
 have p0 := block_lt HB2.out.2.1
 have p1 := block_lt HB2.out.2.2
 have x1 : w2.cell? ⟨w.heap.size, 1, none⟩ = some (.int .u16 (q.ty : Int)) := cell_of_block HB2.out.2.1 rfl
 have x2 : w2.cell? ⟨w.heap.size, 2, none⟩ = some (.int .u16 (q.cl : Int)) := cell_of_block HB2.out.2.1 rfl
 have y1 : w2.cell? ⟨w.heap.size + 1, 1, none⟩ = some (.int .u16 (q.ty : Int)) := cell_of_block HB2.out.2.2 rfl
 have y2 : w2.cell? ⟨w.heap.size + 1, 2, none⟩ = some (.int .u16 (q.cl : Int)) := cell_of_block HB2.out.2.2 rfl
 go_wp2
 go_ret
 exact ⟨rfl, HB2.out.1⟩
set_option maxHeartbeats 2000000 in
theorem sames33 (x y : Sl) (qs : List Qn) (w : World) (h1 : QsRd w x qs) (h2 : QsRd w y qs) : Sames 45 w (.slice x.a x.n x.c) (.slice y.a y.n y.c) := by
 intro W hW
 have HX : Hid (QsRd W x qs) := h1.below hW
 have HY : Hid (QsRd W y qs) := h2.below hW
 obtain ⟨a, n, c⟩ := x
 obtain ⟨b, m, d⟩ := y
 obtain rfl : n = m := h1.len.symm.trans h2.len
 have HLs : Hid (qs.length = n) := h1.len
 have hn : n <= 9223372036854775807 := Nat.le_trans h1.cap.1 h1.cap.2
 clear h1 h2 hW
 simp only
 go_enter Tryz.func45, Tryz.ntmps45
 go_wp2_with fail
 go_loopw [5] (fun y wr => ∃ k : Nat, k <= n /\ y = .int .i64 (k : Int) /\ Hid (Below W.heap.size W wr)) (fun y _ => n - (intOf y).toNat)
 case atStart => exact ⟨0, by omega, rfl, Below.refl _ _⟩
 case round =>
   obtain ⟨k, hk, rfl, HB⟩ := hrel
   by_cases hlt : k < n
   · have hlt' : (k : Int) < (n : Int) := by omega
     have hks : k < qs.length := by rw [HLs.out]; exact hlt
     obtain ⟨b1, o1, e1, q1, x1, r1, r2, r3, ok1⟩ := (HX.out.below HB.out).at k hks
     obtain ⟨b2, o2, e2, q2, x2, r4, r5, r6, ok2⟩ := (HY.out.below HB.out).at k hks
     simp only at e1 e2
     subst e1 e2
     have KL : ∀ V, Below wr.heap.size wr V -> Hid (Calls Tryz.prog 73 #[.agg #[.slice x1.s.a x1.s.n x1.s.c, .int .u16 (x1.ty : Int), .int .u16 (x1.cl : Int)], .agg #[.slice x2.s.a x2.s.n x2.s.c, .int .u16 (x2.ty : Int), .int .u16 (x2.cl : Int)]] V fun e w' => e = .returned (.bool true) /\ Below V.heap.size V w') := fun V hb => sameq44 x1 x2 _ V (ok1.below hb) (ok2.below hb)
     obtain ⟨⟨a1, n1, c1⟩, t1, l1⟩ := x1
     obtain ⟨⟨a2, n2, c2⟩, t2, l2⟩ := x2
     simp only at KL r1 r2 r3 r4 r5 r6
     clear ok1 ok2
     have KS : ∀ V, Below wr.heap.size wr V -> V.cell? ⟨b1, o1 + k * 3, none⟩ = some (.slice a1 n1 c1) /\ V.cell? ⟨b1, o1 + k * 3 + 1, none⟩ = some (.int .u16 (t1 : Int)) /\ V.cell? ⟨b1, o1 + k * 3 + 2, none⟩ = some (.int .u16 (l1 : Int)) /\ V.cell? ⟨b2, o2 + k * 3, none⟩ = some (.slice a2 n2 c2) /\ V.cell? ⟨b2, o2 + k * 3 + 1, none⟩ = some (.int .u16 (t2 : Int)) /\ V.cell? ⟨b2, o2 + k * 3 + 2, none⟩ = some (.int .u16 (l2 : Int)) := fun V hb => ⟨(hb.cell (p := ⟨_, _, none⟩) q1).trans r1, (hb.cell (p := ⟨_, _, none⟩) q1).trans r2, (hb.cell (p := ⟨_, _, none⟩) q1).trans r3, (hb.cell (p := ⟨_, _, none⟩) q2).trans r4, (hb.cell (p := ⟨_, _, none⟩) q2).trans r5, (hb.cell (p := ⟨_, _, none⟩) q2).trans r6⟩
     go_wp2_with fail
     go_region_held3 (fun V => V.cell? ⟨b1, o1 + k * 3, none⟩ = some (.slice a1 n1 c1) /\ V.cell? ⟨b1, o1 + k * 3 + 1, none⟩ = some (.int .u16 (t1 : Int)) /\ V.cell? ⟨b1, o1 + k * 3 + 2, none⟩ = some (.int .u16 (l1 : Int)) /\ V.cell? ⟨b2, o2 + k * 3, none⟩ = some (.slice a2 n2 c2) /\ V.cell? ⟨b2, o2 + k * 3 + 1, none⟩ = some (.int .u16 (t2 : Int)) /\ V.cell? ⟨b2, o2 + k * 3 + 2, none⟩ = some (.int .u16 (l2 : Int))) (first | exact KS _ HBw8.out | exact KS _ (Below.refl wr.heap.size wr).drew | exact KS _ (Below.refl wr.heap.size wr) | exact KS _ HBw8.out.drew) (first
       | (go_at_call 73; refine Calls.mono (KL _ ?hb).out ?_; (case hb => first | exact (Below.refl wr.heap.size wr).drew | exact Below.refl wr.heap.size wr); rintro e w8 ⟨rfl, Hw8⟩; have HBw8 : Hid (Below wr.heap.size wr w8) := by first | exact (Below.refl wr.heap.size wr).drew.trans Hw8 | exact Hw8)
       | fail)
     all_goals go_wp2
     all_goals exact ⟨⟨k + 1, by omega, by go_num, HB.out.trans (HBw8.out.mono HB.out.size)⟩, by simp [intOf]; omega⟩
   · obtain rfl : k = n := by omega
     go_wp2
     go_ret
     exact ⟨rfl, HB.out⟩
end Go.Proofs.YtkjnbgekaifdfaaGreat
namespace Go.Proofs.YtkjnbgekaifdfaaGreat
open Go.ChangeShapes Go.WideShapes Go.ChangeAt Go.RowKit Go.Maps
theorem chk_bd {t : Nat} {d : Dat} (h : checkF t d = 0) : Bd d := by
 have := pread_bd t (writeF t d) (wlen h)
 rw [pread_at t d _ h rfl] at this
 exact this
theorem ChkOk.fin {m : Mg} (h : ChkOk m) : Fin m := by
 have h1 := h.nr
 have h2 := h.nq
 refine ⟨fun k r hr => chk_bd (h.nth k r hr).2, fun q hq => ?_, fun k r hr => ?_, by omega, by omega⟩
 · have := nck_len (h.qs q hq); omega
 · have := nck_len (h.nth k r hr).1; omega
theorem OwR.lrd {B : Nat} {w : World} {s : Sl} {rs : List Rec} (h : OwR B w (.slice s.a s.n s.c) rs) : LRd w s rs := by
 obtain ⟨a, c, e, h1, h2, h3, h4⟩ := h.rd
 injection e with e1 e2 e3
 refine ⟨by rw [e1]; exact h1, e2.symm, ⟨by rw [e2, e3]; exact h2, by rw [e3]; exact h3⟩, fun e => by rw [e3]; exact h4 (by rw [<- e1]; exact e)⟩
theorem OwQ.qrd {B : Nat} {w : World} {s : Sl} {qs : List Qn} (h : OwQ B w (.slice s.a s.n s.c) qs) (hb : ∀ q ∈ qs, q.ty < 65536 /\ q.cl < 65536) : QsRd w s qs := by
 obtain ⟨a, c, e, h1⟩ := h.qs hb
 obtain ⟨sa, sn, sc⟩ := s
 injection e with e1 e2 e3
 simp only at e1 e2 e3
 subst e1 e2 e3
 exact h1
theorem MOw.mrd {B : Nat} {w : World} {x : MA} {m : Mg} (h : MOw B w x m) (hb : Mb m) : MRd w m.h x m :=
 ⟨rfl, h.1.qrd (fun q hq => by have := hb.2.1 q hq; exact ⟨by have := this.1; omega, by have := this.2; omega⟩), h.2.1.lrd, h.2.2.1.lrd, h.2.2.2.lrd, hb⟩
theorem same_msg (H : Hd) (x y : MA) (m : Mg) (w : World) (h1 : MRd w H x m) (h2 : MRd w H y m) :
   Calls Tryz.prog 20 #[.agg #[.int .u16 H.id, .bool H.rs, .int .i64 H.op, .bool H.aa, .bool H.tc, .bool H.rd, .bool H.ra, .bool H.ad, .bool H.cd, .int .i64 H.rc, .slice x.q.a x.q.n x.q.c, .slice x.l1.a x.l1.n x.l1.c, .slice x.l2.a x.l2.n x.l2.c, .slice x.l3.a x.l3.n x.l3.c], .agg #[.int .u16 H.id, .bool H.rs, .int .i64 H.op, .bool H.aa, .bool H.tc, .bool H.rd, .bool H.ra, .bool H.ad, .bool H.cd, .int .i64 H.rc, .slice y.q.a y.q.n y.q.c, .slice y.l1.a y.l1.n y.l1.c, .slice y.l2.a y.l2.n y.l2.c, .slice y.l3.a y.l3.n y.l3.c]] w fun e w' => e = .returned (.bool true) /\ Hid (Below w.heap.size w w') := by
 have l1 : Sames 46 w (.slice x.l1.a x.l1.n x.l1.c) (.slice y.l1.a y.l1.n y.l1.c) := by
   have := sames34 x.l1.a y.l1.a x.l1.n x.l1.c y.l1.c m.l1 w h1.l1.rd h2.l1.rd h1.l1.len (by have := h1.l1.cap; omega)
   rw [show y.l1.n = x.l1.n from h2.l1.len.symm.trans h1.l1.len]
   exact this
 have l2 : Sames 46 w (.slice x.l2.a x.l2.n x.l2.c) (.slice y.l2.a y.l2.n y.l2.c) := by
   have := sames34 x.l2.a y.l2.a x.l2.n x.l2.c y.l2.c m.l2 w h1.l2.rd h2.l2.rd h1.l2.len (by have := h1.l2.cap; omega)
   rw [show y.l2.n = x.l2.n from h2.l2.len.symm.trans h1.l2.len]
   exact this
 have l3 : Sames 46 w (.slice x.l3.a x.l3.n x.l3.c) (.slice y.l3.a y.l3.n y.l3.c) := by
   have := sames34 x.l3.a y.l3.a x.l3.n x.l3.c y.l3.c m.l3 w h1.l3.rd h2.l3.rd h1.l3.len (by have := h1.l3.cap; omega)
   rw [show y.l3.n = x.l3.n from h2.l3.len.symm.trans h1.l3.len]
   exact this
 refine (sameM H.id H.rs H.op H.aa H.tc H.rd H.ra H.ad H.cd H.rc x.q.a x.l1.a x.l2.a x.l3.a y.q.a y.l1.a y.l2.a y.l3.a x.q.n x.l1.n x.l2.n x.l3.n x.q.c x.l1.c x.l2.c x.l3.c y.q.n y.l1.n y.l2.n y.l3.n y.q.c y.l1.c y.l2.c y.l3.c w (sames33 x.q y.q m.qs w h1.q h2.q) l1 l2 l3).mono ?_
 rintro e w' ⟨e1, e2⟩
 exact ⟨e1, e2⟩
theorem mread_some (s : Sl) (zs : List Int) (w : World) (hs : BRd w s zs) (h1 : 1 <= s.n) (hbig : s.n <= 140737488355328) (m : Mg) (hm : gmsg zs = some m) :
   Calls Tryz.prog 12 #[(.slice s.a s.n s.c)] w fun e w' => ∃ x : MA, e = .returned (.tuple #[.agg #[.int .u16 m.h.id, .bool m.h.rs, .int .i64 m.h.op, .bool m.h.aa, .bool m.h.tc, .bool m.h.rd, .bool m.h.ra, .bool m.h.ad, .bool m.h.cd, .int .i64 m.h.rc, .slice x.q.a x.q.n x.q.c, .slice x.l1.a x.l1.n x.l1.c, .slice x.l2.a x.l2.n x.l2.c, .slice x.l3.a x.l3.n x.l3.c], .int .i64 0]) /\ Hid (MOw w.heap.size w' x m /\ MRd w' m.h x m /\ Below w.heap.size w w') := by
 have hsd := msg_sound hs.rd.2 hm
 refine (mread_yes s.a s.n s.c zs w hs.rd hs.len hs.cap hbig hs.nil (.inr (fun b o sp e => ?_)) m hm).mono ?_
 · rcases hs.rd.1 with h0 | ⟨b', o', e', hb', _⟩
   · have := hs.len; rw [h0] at this; simp at this; omega
   · rw [e] at e'; cases e'; exact hb'
 · rintro e w' ⟨x, e1, H1⟩
   exact ⟨x, e1, H1.out.1, H1.out.1.mrd hsd.2, H1.out.2⟩
end Go.Proofs.YtkjnbgekaifdfaaGreat
namespace Go.Proofs.YtkjnbgekaifdfaaGreat
open Go.ChangeShapes Go.WideShapes Go.ChangeAt Go.RowKit Go.Maps
theorem txt_at {w : World} {g : Nat} {s : ByteArray} (h : w.heap[g]? = some (.cells #[.string s] 9)) (hs : s.size <= 9223372036854775807) : TRd w ⟨some ⟨g, 0, none⟩, 1, 1⟩ [s] := by
 refine ⟨.inr ⟨g, 0, rfl, box_lt h, fun i hi => ?_⟩, rfl, ⟨Nat.le_refl _, by simp⟩, by simp, by simpa using hs⟩
 have : i = 0 := Nat.lt_one_iff.1 hi
 subst this
 exact box_cell h 0 _ rfl
theorem qn_at {w : World} {g : Nat} {s : Sl} {nm : List ByteArray} {t cl : Nat} (h : w.heap[g]? = some (.cells #[.slice s.a s.n s.c, .int .u16 (t : Int), .int .u16 (cl : Int)] 55)) (hn : TRd w s nm) (ht : t < 65536) (hc : cl < 65536) : QsRd w ⟨some ⟨g, 0, none⟩, 1, 1⟩ [⟨nm, t, cl⟩] := by
 refine ⟨.inr ⟨g, 0, rfl, box_lt h, fun i hi => ?_⟩, rfl, ⟨Nat.le_refl _, by simp⟩, by simp⟩
 have : i = 0 := by simp at hi; omega
 subst this
 exact ⟨⟨s, t, cl⟩, box_cell h 0 _ rfl, box_cell h 1 _ rfl, box_cell h 2 _ rfl, ⟨hn, rfl, rfl, ht, hc⟩⟩
theorem raw_at {w : World} {g : Nat} {zs : List Int} {n : Nat} (h : w.heap[g]? = some (.cells (zs.map (Value.int .u8)).toArray 5)) (hn : zs.length = n) (hb : ∀ z ∈ zs, 0 <= z /\ z <= 255) (hm : n <= 1000) : BRd w ⟨some ⟨g, 0, none⟩, n, n⟩ zs := by
 have hblk : Blk w g zs := ⟨h, hb⟩
 exact ⟨⟨.inr ⟨g, 0, rfl, hblk.lt, fun i hi => by rw [Nat.zero_add]; exact hblk.cell i hi⟩, hb⟩, hn, ⟨Nat.le_refl _, by simp only; omega⟩, by simp⟩
theorem rec_at {w : World} {g : Nat} {x : RA} {r : Rec} (h : w.heap[g]? = some (.cells #[.slice x.o.a x.o.n x.o.c, .int .u16 r.t, .int .u16 r.cl, .int .u32 r.tt, .slice x.d.p1.a x.d.p1.n x.d.p1.c, .slice x.d.p2.a x.d.p2.n x.d.p2.c, .slice x.d.p3.a x.d.p3.n x.d.p3.c, .slice x.d.p4.a x.d.p4.n x.d.p4.c] 62)) (hx : RRd w x r) : LRd w ⟨some ⟨g, 0, none⟩, 1, 1⟩ [r] := by
 refine ⟨.inr ⟨g, 0, rfl, box_lt h, fun i hi => ?_⟩, rfl, ⟨Nat.le_refl _, by simp⟩, by simp⟩
 have : i = 0 := by simp at hi; omega
 subst this
 refine ⟨x, fun j hj => ?_, hx⟩
 have hc : j = 0 ∨ j = 1 ∨ j = 2 ∨ j = 3 ∨ j = 4 ∨ j = 5 ∨ j = 6 ∨ j = 7 := by omega
 rcases hc with rfl | rfl | rfl | rfl | rfl | rfl | rfl | rfl
 · exact box_cell h 0 _ rfl
 · exact box_cell h 1 _ rfl
 · exact box_cell h 2 _ rfl
 · exact box_cell h 3 _ rfl
 · exact box_cell h 4 _ rfl
 · exact box_cell h 5 _ rfl
 · exact box_cell h 6 _ rfl
 · exact box_cell h 7 _ rfl
theorem lrd_nil (w : World) : LRd w ⟨none, 0, 0⟩ [] := ⟨.inl rfl, rfl, ⟨Nat.le_refl _, by simp⟩, fun _ => rfl⟩
theorem four_at (w : World) (a b c d : Obj) : Below w.heap.size w ((((w.alloc a).alloc b).alloc c).alloc d) /\ ((((w.alloc a).alloc b).alloc c).alloc d).heap[w.heap.size]? = some a /\ ((((w.alloc a).alloc b).alloc c).alloc d).heap[w.heap.size + 1]? = some b /\ ((((w.alloc a).alloc b).alloc c).alloc d).heap[w.heap.size + 1 + 1]? = some c /\ ((((w.alloc a).alloc b).alloc c).alloc d).heap[w.heap.size + 1 + 1 + 1]? = some d /\ ((((w.alloc a).alloc b).alloc c).alloc d).heap.size = w.heap.size + 1 + 1 + 1 + 1 := by
 obtain ⟨h1, h2, h3, h4, h5⟩ := three_at w a b c
 generalize ((w.alloc a).alloc b).alloc c = w3 at *
 have n := heap_alloc_new w3 d
 have nb := newq_below w3 d
 rw [h5] at n
 refine ⟨h1.trans (nb.mono h1.size), (nb.block _ (by omega)).trans h2, (nb.block _ (by omega)).trans h3, (nb.block _ (by omega)).trans h4, n, ?_⟩
 rw [World.size_alloc, h5]
def oneH : Hd := ⟨1, false, 0, false, false, true, false, false, false, 0⟩
def aNm : ByteArray := { data := #[97] }
def oneR : Rec := ⟨[aNm], 1, 1, 60, ⟨[], [], [], [1, 2, 3, 4]⟩⟩
def oneM (ans : Bool) : Mg := ⟨oneH, [⟨[aNm], 1, 1⟩], if ans then [oneR] else [], [], []⟩
set_option maxHeartbeats 2000000 in
theorem one_yes (w : World) : Calls Tryz.prog 27 #[.bool true] w fun e w' => ∃ x : MA, e = .returned (.agg #[.int .u16 oneH.id, .bool oneH.rs, .int .i64 oneH.op, .bool oneH.aa, .bool oneH.tc, .bool oneH.rd, .bool oneH.ra, .bool oneH.ad, .bool oneH.cd, .int .i64 oneH.rc, .slice x.q.a x.q.n x.q.c, .slice x.l1.a x.l1.n x.l1.c, .slice x.l2.a x.l2.n x.l2.c, .slice x.l3.a x.l3.n x.l3.c]) /\ Hid (MRd w' oneH x (oneM true) /\ Below w.heap.size w w') := by
 go_enter Tryz.func27, Tryz.ntmps27
 go_wp2_with fail
 obtain ⟨h1, h2, h3, h4, h5, h6⟩ := four_at w (.cells #[.int .u16 1, .bool false, .int .i64 0, .bool false, .bool false, .bool true, .bool false, .bool false, .bool false, .int .i64 0, .slice (some ⟨w.heap.size + 1 + 1, 0, none⟩) 1 1, .slice (some ⟨w.heap.size + 1 + 1 + 1 + 1 + 1 + 1, 0, none⟩) 1 1, .slice none 0 0, .slice none 0 0] 26) (.cells #[.string { data := #[97] }] 9) (.cells #[.slice (some ⟨w.heap.size + 1, 0, none⟩) 1 1, .int .u16 1, .int .u16 1] 55) (.cells #[.int .u16 1, .bool false, .int .i64 0, .bool false, .bool false, .bool true, .bool false, .bool false, .bool false, .int .i64 0, .slice (some ⟨w.heap.size + 1 + 1, 0, none⟩) 1 1, .slice (some ⟨w.heap.size + 1 + 1 + 1 + 1 + 1 + 1, 0, none⟩) 1 1, .slice none 0 0, .slice none 0 0] 26)
 obtain ⟨g1, g2, g3, g4, g5⟩ := three_at ((((w.alloc (.cells #[.int .u16 1, .bool false, .int .i64 0, .bool false, .bool false, .bool true, .bool false, .bool false, .bool false, .int .i64 0, .slice (some ⟨w.heap.size + 1 + 1, 0, none⟩) 1 1, .slice (some ⟨w.heap.size + 1 + 1 + 1 + 1 + 1 + 1, 0, none⟩) 1 1, .slice none 0 0, .slice none 0 0] 26)).alloc (.cells #[.string { data := #[97] }] 9)).alloc (.cells #[.slice (some ⟨w.heap.size + 1, 0, none⟩) 1 1, .int .u16 1, .int .u16 1] 55)).alloc (.cells #[.int .u16 1, .bool false, .int .i64 0, .bool false, .bool false, .bool true, .bool false, .bool false, .bool false, .int .i64 0, .slice (some ⟨w.heap.size + 1 + 1, 0, none⟩) 1 1, .slice (some ⟨w.heap.size + 1 + 1 + 1 + 1 + 1 + 1, 0, none⟩) 1 1, .slice none 0 0, .slice none 0 0] 26)) (.cells #[.string { data := #[97] }] 9) (.cells #[.int .u8 1, .int .u8 2, .int .u8 3, .int .u8 4] 5) (.cells #[.slice (some ⟨w.heap.size + 1 + 1 + 1 + 1, 0, none⟩) 1 1, .int .u16 1, .int .u16 1, .int .u32 60, .slice none 0 0, .slice none 0 0, .slice none 0 0, .slice (some ⟨w.heap.size + 1 + 1 + 1 + 1 + 1, 0, none⟩) 4 4] 62)
 have u1 : Hid ((((((((w.alloc (.cells #[.int .u16 1, .bool false, .int .i64 0, .bool false, .bool false, .bool true, .bool false, .bool false, .bool false, .int .i64 0, .slice (some ⟨w.heap.size + 1 + 1, 0, none⟩) 1 1, .slice (some ⟨w.heap.size + 1 + 1 + 1 + 1 + 1 + 1, 0, none⟩) 1 1, .slice none 0 0, .slice none 0 0] 26)).alloc (.cells #[.string { data := #[97] }] 9)).alloc (.cells #[.slice (some ⟨w.heap.size + 1, 0, none⟩) 1 1, .int .u16 1, .int .u16 1] 55)).alloc (.cells #[.int .u16 1, .bool false, .int .i64 0, .bool false, .bool false, .bool true, .bool false, .bool false, .bool false, .int .i64 0, .slice (some ⟨w.heap.size + 1 + 1, 0, none⟩) 1 1, .slice (some ⟨w.heap.size + 1 + 1 + 1 + 1 + 1 + 1, 0, none⟩) 1 1, .slice none 0 0, .slice none 0 0] 26)).alloc (.cells #[.string { data := #[97] }] 9)).alloc (.cells #[.int .u8 1, .int .u8 2, .int .u8 3, .int .u8 4] 5)).alloc (.cells #[.slice (some ⟨w.heap.size + 1 + 1 + 1 + 1, 0, none⟩) 1 1, .int .u16 1, .int .u16 1, .int .u32 60, .slice none 0 0, .slice none 0 0, .slice none 0 0, .slice (some ⟨w.heap.size + 1 + 1 + 1 + 1 + 1, 0, none⟩) 4 4] 62)).heap[w.heap.size]? = some (.cells #[.int .u16 1, .bool false, .int .i64 0, .bool false, .bool false, .bool true, .bool false, .bool false, .bool false, .int .i64 0, .slice (some ⟨w.heap.size + 1 + 1, 0, none⟩) 1 1, .slice (some ⟨w.heap.size + 1 + 1 + 1 + 1 + 1 + 1, 0, none⟩) 1 1, .slice none 0 0, .slice none 0 0] 26)) := (g1.block _ (by rw [h6]; omega)).trans h2
 rw [h6] at g2 g3 g4
 have HM : Hid (MRd (((((((w.alloc (.cells #[.int .u16 1, .bool false, .int .i64 0, .bool false, .bool false, .bool true, .bool false, .bool false, .bool false, .int .i64 0, .slice (some ⟨w.heap.size + 1 + 1, 0, none⟩) 1 1, .slice (some ⟨w.heap.size + 1 + 1 + 1 + 1 + 1 + 1, 0, none⟩) 1 1, .slice none 0 0, .slice none 0 0] 26)).alloc (.cells #[.string { data := #[97] }] 9)).alloc (.cells #[.slice (some ⟨w.heap.size + 1, 0, none⟩) 1 1, .int .u16 1, .int .u16 1] 55)).alloc (.cells #[.int .u16 1, .bool false, .int .i64 0, .bool false, .bool false, .bool true, .bool false, .bool false, .bool false, .int .i64 0, .slice (some ⟨w.heap.size + 1 + 1, 0, none⟩) 1 1, .slice (some ⟨w.heap.size + 1 + 1 + 1 + 1 + 1 + 1, 0, none⟩) 1 1, .slice none 0 0, .slice none 0 0] 26)).alloc (.cells #[.string { data := #[97] }] 9)).alloc (.cells #[.int .u8 1, .int .u8 2, .int .u8 3, .int .u8 4] 5)).alloc (.cells #[.slice (some ⟨w.heap.size + 1 + 1 + 1 + 1, 0, none⟩) 1 1, .int .u16 1, .int .u16 1, .int .u32 60, .slice none 0 0, .slice none 0 0, .slice none 0 0, .slice (some ⟨w.heap.size + 1 + 1 + 1 + 1 + 1, 0, none⟩) 4 4] 62)) oneH ⟨⟨some ⟨w.heap.size + 1 + 1, 0, none⟩, 1, 1⟩, ⟨some ⟨w.heap.size + 1 + 1 + 1 + 1 + 1 + 1, 0, none⟩, 1, 1⟩, ⟨none, 0, 0⟩, ⟨none, 0, 0⟩⟩ (oneM true) /\ Below w.heap.size w (((((((w.alloc (.cells #[.int .u16 1, .bool false, .int .i64 0, .bool false, .bool false, .bool true, .bool false, .bool false, .bool false, .int .i64 0, .slice (some ⟨w.heap.size + 1 + 1, 0, none⟩) 1 1, .slice (some ⟨w.heap.size + 1 + 1 + 1 + 1 + 1 + 1, 0, none⟩) 1 1, .slice none 0 0, .slice none 0 0] 26)).alloc (.cells #[.string { data := #[97] }] 9)).alloc (.cells #[.slice (some ⟨w.heap.size + 1, 0, none⟩) 1 1, .int .u16 1, .int .u16 1] 55)).alloc (.cells #[.int .u16 1, .bool false, .int .i64 0, .bool false, .bool false, .bool true, .bool false, .bool false, .bool false, .int .i64 0, .slice (some ⟨w.heap.size + 1 + 1, 0, none⟩) 1 1, .slice (some ⟨w.heap.size + 1 + 1 + 1 + 1 + 1 + 1, 0, none⟩) 1 1, .slice none 0 0, .slice none 0 0] 26)).alloc (.cells #[.string { data := #[97] }] 9)).alloc (.cells #[.int .u8 1, .int .u8 2, .int .u8 3, .int .u8 4] 5)).alloc (.cells #[.slice (some ⟨w.heap.size + 1 + 1 + 1 + 1, 0, none⟩) 1 1, .int .u16 1, .int .u16 1, .int .u32 60, .slice none 0 0, .slice none 0 0, .slice none 0 0, .slice (some ⟨w.heap.size + 1 + 1 + 1 + 1 + 1, 0, none⟩) 4 4] 62))) := by
   have f3 := (g1.block (w.heap.size + 1) (by rw [h6]; omega)).trans h3
   have f4 := (g1.block (w.heap.size + 1 + 1) (by rw [h6]; omega)).trans h4
   have hbel : Below w.heap.size w (((((((w.alloc (.cells #[.int .u16 1, .bool false, .int .i64 0, .bool false, .bool false, .bool true, .bool false, .bool false, .bool false, .int .i64 0, .slice (some ⟨w.heap.size + 1 + 1, 0, none⟩) 1 1, .slice (some ⟨w.heap.size + 1 + 1 + 1 + 1 + 1 + 1, 0, none⟩) 1 1, .slice none 0 0, .slice none 0 0] 26)).alloc (.cells #[.string { data := #[97] }] 9)).alloc (.cells #[.slice (some ⟨w.heap.size + 1, 0, none⟩) 1 1, .int .u16 1, .int .u16 1] 55)).alloc (.cells #[.int .u16 1, .bool false, .int .i64 0, .bool false, .bool false, .bool true, .bool false, .bool false, .bool false, .int .i64 0, .slice (some ⟨w.heap.size + 1 + 1, 0, none⟩) 1 1, .slice (some ⟨w.heap.size + 1 + 1 + 1 + 1 + 1 + 1, 0, none⟩) 1 1, .slice none 0 0, .slice none 0 0] 26)).alloc (.cells #[.string { data := #[97] }] 9)).alloc (.cells #[.int .u8 1, .int .u8 2, .int .u8 3, .int .u8 4] 5)).alloc (.cells #[.slice (some ⟨w.heap.size + 1 + 1 + 1 + 1, 0, none⟩) 1 1, .int .u16 1, .int .u16 1, .int .u32 60, .slice none 0 0, .slice none 0 0, .slice none 0 0, .slice (some ⟨w.heap.size + 1 + 1 + 1 + 1 + 1, 0, none⟩) 4 4] 62)) := h1.trans (g1.mono (by rw [h6]; omega))
   generalize (((((((w.alloc (.cells #[.int .u16 1, .bool false, .int .i64 0, .bool false, .bool false, .bool true, .bool false, .bool false, .bool false, .int .i64 0, .slice (some ⟨w.heap.size + 1 + 1, 0, none⟩) 1 1, .slice (some ⟨w.heap.size + 1 + 1 + 1 + 1 + 1 + 1, 0, none⟩) 1 1, .slice none 0 0, .slice none 0 0] 26)).alloc (.cells #[.string { data := #[97] }] 9)).alloc (.cells #[.slice (some ⟨w.heap.size + 1, 0, none⟩) 1 1, .int .u16 1, .int .u16 1] 55)).alloc (.cells #[.int .u16 1, .bool false, .int .i64 0, .bool false, .bool false, .bool true, .bool false, .bool false, .bool false, .int .i64 0, .slice (some ⟨w.heap.size + 1 + 1, 0, none⟩) 1 1, .slice (some ⟨w.heap.size + 1 + 1 + 1 + 1 + 1 + 1, 0, none⟩) 1 1, .slice none 0 0, .slice none 0 0] 26)).alloc (.cells #[.string { data := #[97] }] 9)).alloc (.cells #[.int .u8 1, .int .u8 2, .int .u8 3, .int .u8 4] 5)).alloc (.cells #[.slice (some ⟨w.heap.size + 1 + 1 + 1 + 1, 0, none⟩) 1 1, .int .u16 1, .int .u16 1, .int .u32 60, .slice none 0 0, .slice none 0 0, .slice none 0 0, .slice (some ⟨w.heap.size + 1 + 1 + 1 + 1 + 1, 0, none⟩) 4 4] 62)) = w9 at *
   refine ⟨⟨rfl, qn_at (s := ⟨some ⟨w.heap.size + 1, 0, none⟩, 1, 1⟩) (t := 1) (cl := 1) f4 (txt_at f3 (by decide)) (by decide) (by decide), ?_, lrd_nil _, lrd_nil _, ?_⟩, hbel⟩
   · refine rec_at (x := ⟨⟨some ⟨w.heap.size + 1 + 1 + 1 + 1, 0, none⟩, 1, 1⟩, ⟨⟨none, 0, 0⟩, ⟨none, 0, 0⟩, ⟨none, 0, 0⟩, ⟨some ⟨w.heap.size + 1 + 1 + 1 + 1 + 1, 0, none⟩, 4, 4⟩⟩⟩) (r := oneR) g4 ⟨txt_at g2 (by decide), ⟨⟨.inl rfl, rfl, ⟨Nat.le_refl _, by simp⟩, fun _ => rfl⟩, ⟨.inl rfl, rfl, ⟨Nat.le_refl _, by simp⟩, fun _ => rfl, fun x hx => (by cases hx)⟩, ⟨.inl rfl, rfl, ⟨Nat.le_refl _, by simp⟩, fun _ => rfl, fun x hx => (by cases hx)⟩, raw_at (zs := [1, 2, 3, 4]) g3 rfl (by decide) (by decide)⟩⟩
   · refine ⟨by decide, fun q hq => ?_, fun r hr => ?_, fun r hr => (by cases hr), fun r hr => (by cases hr)⟩
     · rw [List.mem_singleton.1 hq]
       exact ⟨by decide, by decide⟩
     · rw [List.mem_singleton.1 (show r ∈ [oneR] from hr)]
       exact ⟨by decide, by decide, by decide⟩
 clear h1 h2 h3 h4 h5 h6 g1 g2 g3 g4 g5
 generalize (((((((w.alloc (.cells #[.int .u16 1, .bool false, .int .i64 0, .bool false, .bool false, .bool true, .bool false, .bool false, .bool false, .int .i64 0, .slice (some ⟨w.heap.size + 1 + 1, 0, none⟩) 1 1, .slice (some ⟨w.heap.size + 1 + 1 + 1 + 1 + 1 + 1, 0, none⟩) 1 1, .slice none 0 0, .slice none 0 0] 26)).alloc (.cells #[.string { data := #[97] }] 9)).alloc (.cells #[.slice (some ⟨w.heap.size + 1, 0, none⟩) 1 1, .int .u16 1, .int .u16 1] 55)).alloc (.cells #[.int .u16 1, .bool false, .int .i64 0, .bool false, .bool false, .bool true, .bool false, .bool false, .bool false, .int .i64 0, .slice (some ⟨w.heap.size + 1 + 1, 0, none⟩) 1 1, .slice (some ⟨w.heap.size + 1 + 1 + 1 + 1 + 1 + 1, 0, none⟩) 1 1, .slice none 0 0, .slice none 0 0] 26)).alloc (.cells #[.string { data := #[97] }] 9)).alloc (.cells #[.int .u8 1, .int .u8 2, .int .u8 3, .int .u8 4] 5)).alloc (.cells #[.slice (some ⟨w.heap.size + 1 + 1 + 1 + 1, 0, none⟩) 1 1, .int .u16 1, .int .u16 1, .int .u32 60, .slice none 0 0, .slice none 0 0, .slice none 0 0, .slice (some ⟨w.heap.size + 1 + 1 + 1 + 1 + 1, 0, none⟩) 4 4] 62)) = w9 at *
 have k0 := box_cell u1.out 0 _ rfl
 have k1 := box_cell u1.out 1 _ rfl
 have k2 := box_cell u1.out 2 _ rfl
 have k3 := box_cell u1.out 3 _ rfl
 have k4 := box_cell u1.out 4 _ rfl
 have k5 := box_cell u1.out 5 _ rfl
 have k6 := box_cell u1.out 6 _ rfl
 have k7 := box_cell u1.out 7 _ rfl
 have k8 := box_cell u1.out 8 _ rfl
 have k9 := box_cell u1.out 9 _ rfl
 have k10 := box_cell u1.out 10 _ rfl
 have k11 := box_cell u1.out 11 _ rfl
 have k12 := box_cell u1.out 12 _ rfl
 have k13 := box_cell u1.out 13 _ rfl
 exact bodyPost_ret (v := .agg #[.int .u16 1, .bool false, .int .i64 0, .bool false, .bool false, .bool true, .bool false, .bool false, .bool false, .int .i64 0, .slice (some ⟨w.heap.size + 1 + 1, 0, none⟩) 1 1, .slice (some ⟨w.heap.size + 1 + 1 + 1 + 1 + 1 + 1, 0, none⟩) 1 1, .slice none 0 0, .slice none 0 0]) (by simp [results, Tryz.results27, go_sem, k0, k1, k2, k3, k4, k5, k6, k7, k8, k9, k10, k11, k12, k13]) rfl ⟨_, rfl, HM.out⟩
end Go.Proofs.YtkjnbgekaifdfaaGreat
namespace Go.Proofs.YtkjnbgekaifdfaaGreat
open Go.ChangeShapes Go.WideShapes Go.ChangeAt Go.RowKit Go.Maps
def oneB : List Int := [0, 1, 1, 0, 0, 1, 0, 1, 0, 0, 0, 0, 1, 97, 0, 0, 1, 0, 1, 192, 12, 0, 1, 0, 1, 0, 0, 0, 60, 0, 4, 1, 2, 3, 4]
theorem one_chk : chkM (oneM true) = 0 := by decide +kernel
theorem ask_chk : chkM (oneM false) = 0 := by decide +kernel
theorem one_wr : (prun (pmsg (oneM true)) (some ([], []))).map (·.1) = some oneB := by decide +kernel
theorem mb_one (a : Bool) : Mb (oneM a) := by
 refine ⟨(show (1 : Nat) < 65536 by decide), fun q hq => ?_, fun r hr => ?_, fun r hr => (by cases hr), fun r hr => (by cases hr)⟩
 · rw [List.mem_singleton.1 hq]
   exact ⟨by decide, by decide⟩
 · cases a
   · cases hr
   · rw [List.mem_singleton.1 (show r ∈ [oneR] from hr)]
     exact ⟨by decide, by decide, by decide⟩
theorem one_rd : gmsg oneB = some (oneM true) := by
 obtain ⟨x, h1, h2⟩ := Option.map_eq_some_iff.1 one_wr
 obtain ⟨zs, pl⟩ := x
 simp only at h2
 subst h2
 exact (msg_back (chkM_zero.1 one_chk) (mb_one true) h1).1
theorem fin_one (a : Bool) : Fin (oneM a) := by
 cases a
 · exact (chkM_zero.1 ask_chk).fin
 · exact (chkM_zero.1 one_chk).fin
theorem one_bytes (x : MA) (w : World) (hm : MRd w oneH x (oneM true)) : Calls Tryz.prog 9 #[.agg #[.int .u16 oneH.id, .bool oneH.rs, .int .i64 oneH.op, .bool oneH.aa, .bool oneH.tc, .bool oneH.rd, .bool oneH.ra, .bool oneH.ad, .bool oneH.cd, .int .i64 oneH.rc, .slice x.q.a x.q.n x.q.c, .slice x.l1.a x.l1.n x.l1.c, .slice x.l2.a x.l2.n x.l2.c, .slice x.l3.a x.l3.n x.l3.c]] w fun e w' => ∃ s : Sl, e = .returned (.tuple #[(.slice s.a s.n s.c), .int .i64 0]) /\ Hid (BRd w' s oneB /\ Below w.heap.size w w') := by
 refine (bytes_msg oneH x (oneM true) w hm (fin_one true)).mono ?_
 rintro e w' ⟨s, er, e1, H1⟩
 obtain ⟨h1, h2⟩ := H1.out
 unfold ByR at h1
 rw [if_pos one_chk] at h1
 obtain ⟨y, h3, h4⟩ := Option.map_eq_some_iff.1 one_wr
 rw [h3] at h1
 obtain ⟨h5, h6⟩ := h1
 rw [h4] at h6
 exact ⟨s, by rw [e1, h5], h6, h2⟩
end Go.Proofs.YtkjnbgekaifdfaaGreat
namespace Go.Proofs.YtkjnbgekaifdfaaGreat
open Go.ChangeShapes Go.WideShapes Go.ChangeAt Go.RowKit Go.Maps
set_option maxHeartbeats 4000000 in
theorem awake10 (w : World) : Calls Tryz.prog 7 #[] w fun e w' => e = .returned (.bool true) /\ Hid (Below w.heap.size w w') := by
 have K31 := fun W => Lib.hid (one_yes W)
 go_enter Tryz.func7, Tryz.ntmps7
 go_wp2_with fail
 refine (K31 w).out.mono ?_
 rintro e w1 ⟨x1, rfl, H1⟩
 have K11 := Lib.hid (one_bytes x1 w1 H1.out.1)
 go_wp2_with fail
 refine K11.out.mono ?_
 rintro e w2 ⟨s, rfl, H2⟩
 have hsn : s.n = 35 := H2.out.1.len.symm
 have K24 := Lib.hid (mread_some s oneB w2 H2.out.1 (by omega) (by omega) (oneM true) one_rd)
 have HB2 : Hid (Below w.heap.size w w2) := H1.out.2.trans (H2.out.2.mono H1.out.2.size)
 clear hsn K11
 go_wp2_with fail
 refine K24.out.mono ?_
 rintro e w3 ⟨x3, rfl, H3⟩
 have HB3 : Hid (Below w.heap.size w w3) := HB2.out.trans (H3.out.2.2.mono HB2.out.size)
 have HS3 : Hid (BRd w3 s oneB) := H2.out.1.below H3.out.2.2
 have HM3 : Hid (MRd w3 oneH x3 (oneM true)) := H3.out.2.1
 clear H1 H2 H3 HB2 K24
 have hn3 := newq_below w3 (.cells #[.int .u16 oneH.id, .bool oneH.rs, .int .i64 oneH.op, .bool oneH.aa, .bool oneH.tc, .bool oneH.rd, .bool oneH.ra, .bool oneH.ad, .bool oneH.cd, .int .i64 oneH.rc, .slice x3.q.a x3.q.n x3.q.c, .slice x3.l1.a x3.l1.n x3.l1.c, .slice x3.l2.a x3.l2.n x3.l2.c, .slice x3.l3.a x3.l3.n x3.l3.c] 26)
 have HB4 : Hid (Below w.heap.size w (w3.alloc (.cells #[.int .u16 oneH.id, .bool oneH.rs, .int .i64 oneH.op, .bool oneH.aa, .bool oneH.tc, .bool oneH.rd, .bool oneH.ra, .bool oneH.ad, .bool oneH.cd, .int .i64 oneH.rc, .slice x3.q.a x3.q.n x3.q.c, .slice x3.l1.a x3.l1.n x3.l1.c, .slice x3.l2.a x3.l2.n x3.l2.c, .slice x3.l3.a x3.l3.n x3.l3.c] 26))) := HB3.out.trans (hn3.mono HB3.out.size)
 have HS4 : Hid (BRd (w3.alloc (.cells #[.int .u16 oneH.id, .bool oneH.rs, .int .i64 oneH.op, .bool oneH.aa, .bool oneH.tc, .bool oneH.rd, .bool oneH.ra, .bool oneH.ad, .bool oneH.cd, .int .i64 oneH.rc, .slice x3.q.a x3.q.n x3.q.c, .slice x3.l1.a x3.l1.n x3.l1.c, .slice x3.l2.a x3.l2.n x3.l2.c, .slice x3.l3.a x3.l3.n x3.l3.c] 26)) s oneB) := HS3.out.below hn3
 have HM4 : Hid (MRd (w3.alloc (.cells #[.int .u16 oneH.id, .bool oneH.rs, .int .i64 oneH.op, .bool oneH.aa, .bool oneH.tc, .bool oneH.rd, .bool oneH.ra, .bool oneH.ad, .bool oneH.cd, .int .i64 oneH.rc, .slice x3.q.a x3.q.n x3.q.c, .slice x3.l1.a x3.l1.n x3.l1.c, .slice x3.l2.a x3.l2.n x3.l2.c, .slice x3.l3.a x3.l3.n x3.l3.c] 26)) oneH x3 (oneM true)) := HM3.out.below hn3
 have HD4 : Hid ((w3.alloc (.cells #[.int .u16 oneH.id, .bool oneH.rs, .int .i64 oneH.op, .bool oneH.aa, .bool oneH.tc, .bool oneH.rd, .bool oneH.ra, .bool oneH.ad, .bool oneH.cd, .int .i64 oneH.rc, .slice x3.q.a x3.q.n x3.q.c, .slice x3.l1.a x3.l1.n x3.l1.c, .slice x3.l2.a x3.l2.n x3.l2.c, .slice x3.l3.a x3.l3.n x3.l3.c] 26)).heap[w3.heap.size]? = some (.cells #[.int .u16 oneH.id, .bool oneH.rs, .int .i64 oneH.op, .bool oneH.aa, .bool oneH.tc, .bool oneH.rd, .bool oneH.ra, .bool oneH.ad, .bool oneH.cd, .int .i64 oneH.rc, .slice x3.q.a x3.q.n x3.q.c, .slice x3.l1.a x3.l1.n x3.l1.c, .slice x3.l2.a x3.l2.n x3.l2.c, .slice x3.l3.a x3.l3.n x3.l3.c] 26)) := heap_alloc_new _ _
 obtain ⟨D, hD⟩ : ∃ D, D = w3.heap.size := ⟨_, rfl⟩
 rw [<- hD] at HD4
 clear hn3
 go_upto_region 3 with fail
 simp only [show (oneM true).h = oneH from rfl, <- hD]
 generalize w3.alloc (.cells #[.int .u16 oneH.id, .bool oneH.rs, .int .i64 oneH.op, .bool oneH.aa, .bool oneH.tc, .bool oneH.rd, .bool oneH.ra, .bool oneH.ad, .bool oneH.cd, .int .i64 oneH.rc, .slice x3.q.a x3.q.n x3.q.c, .slice x3.l1.a x3.l1.n x3.l1.c, .slice x3.l2.a x3.l2.n x3.l2.c, .slice x3.l3.a x3.l3.n x3.l3.c] 26) = w4 at *
 clear hD
 have KSM : Hid (∀ (x y : MA) (W : World), MRd W oneH x (oneM true) -> MRd W oneH y (oneM true) -> Calls Tryz.prog 20 #[.agg #[.int .u16 oneH.id, .bool oneH.rs, .int .i64 oneH.op, .bool oneH.aa, .bool oneH.tc, .bool oneH.rd, .bool oneH.ra, .bool oneH.ad, .bool oneH.cd, .int .i64 oneH.rc, .slice x.q.a x.q.n x.q.c, .slice x.l1.a x.l1.n x.l1.c, .slice x.l2.a x.l2.n x.l2.c, .slice x.l3.a x.l3.n x.l3.c], .agg #[.int .u16 oneH.id, .bool oneH.rs, .int .i64 oneH.op, .bool oneH.aa, .bool oneH.tc, .bool oneH.rd, .bool oneH.ra, .bool oneH.ad, .bool oneH.cd, .int .i64 oneH.rc, .slice y.q.a y.q.n y.q.c, .slice y.l1.a y.l1.n y.l1.c, .slice y.l2.a y.l2.n y.l2.c, .slice y.l3.a y.l3.n y.l3.c]] W fun e w' => e = .returned (.bool true) /\ Hid (Below W.heap.size W w')) := fun x y W h1 h2 => same_msg oneH x y (oneM true) W h1 h2
 generalize oneH = H at *
 have KS : ∀ W : World, Below w4.heap.size w4 W -> ((convert 29 9 (.slice s.a s.n s.c)).run Tryz.prog W = .ok (.string { data := #[0, 1, 1, 0, 0, 1, 0, 1, 0, 0, 0, 0, 1, 97, 0, 0, 1, 0, 1, 192, 12, 0, 1, 0, 1, 0, 0, 0, 60, 0, 4, 1, 2, 3, 4] }) W /\ W.cell? ⟨D, 0, none⟩ = some (.int .u16 (H.id : Int)) /\ W.cell? ⟨D, 1, none⟩ = some (.bool H.rs) /\ W.cell? ⟨D, 2, none⟩ = some (.int .i64 H.op) /\ W.cell? ⟨D, 3, none⟩ = some (.bool H.aa) /\ W.cell? ⟨D, 4, none⟩ = some (.bool H.tc) /\ W.cell? ⟨D, 5, none⟩ = some (.bool H.rd) /\ W.cell? ⟨D, 6, none⟩ = some (.bool H.ra) /\ W.cell? ⟨D, 7, none⟩ = some (.bool H.ad) /\ W.cell? ⟨D, 8, none⟩ = some (.bool H.cd) /\ W.cell? ⟨D, 9, none⟩ = some (.int .i64 H.rc) /\ W.cell? ⟨D, 10, none⟩ = some (.slice x3.q.a x3.q.n x3.q.c) /\ W.cell? ⟨D, 11, none⟩ = some (.slice x3.l1.a x3.l1.n x3.l1.c) /\ W.cell? ⟨D, 12, none⟩ = some (.slice x3.l2.a x3.l2.n x3.l2.c) /\ W.cell? ⟨D, 13, none⟩ = some (.slice x3.l3.a x3.l3.n x3.l3.c)) := fun W hW => by
   have m := (hW.block D (box_lt HD4.out)).trans HD4.out
   refine ⟨?_, box_cell m 0 _ rfl, box_cell m 1 _ rfl, box_cell m 2 _ rfl, box_cell m 3 _ rfl, box_cell m 4 _ rfl, box_cell m 5 _ rfl, box_cell m 6 _ rfl, box_cell m 7 _ rfl, box_cell m 8 _ rfl, box_cell m 9 _ rfl, box_cell m 10 _ rfl, box_cell m 11 _ rfl, box_cell m 12 _ rfl, box_cell m 13 _ rfl⟩
   have hb := HS4.out.below hW
   exact conv_rd s.a s.n s.c oneB W hb.rd hb.len
 obtain ⟨cv, m0, m1, m2, m3, m4, m5, m6, m7, m8, m9, m10, m11, m12, m13⟩ := KS w4 (Below.refl _ _)
 have lD := box_lt HD4.out
 go_region_held3 (fun W => (convert 29 9 (.slice s.a s.n s.c)).run Tryz.prog W = .ok (.string { data := #[0, 1, 1, 0, 0, 1, 0, 1, 0, 0, 0, 0, 1, 97, 0, 0, 1, 0, 1, 192, 12, 0, 1, 0, 1, 0, 0, 0, 60, 0, 4, 1, 2, 3, 4] }) W /\ W.cell? ⟨D, 0, none⟩ = some (.int .u16 (H.id : Int)) /\ W.cell? ⟨D, 1, none⟩ = some (.bool H.rs) /\ W.cell? ⟨D, 2, none⟩ = some (.int .i64 H.op) /\ W.cell? ⟨D, 3, none⟩ = some (.bool H.aa) /\ W.cell? ⟨D, 4, none⟩ = some (.bool H.tc) /\ W.cell? ⟨D, 5, none⟩ = some (.bool H.rd) /\ W.cell? ⟨D, 6, none⟩ = some (.bool H.ra) /\ W.cell? ⟨D, 7, none⟩ = some (.bool H.ad) /\ W.cell? ⟨D, 8, none⟩ = some (.bool H.cd) /\ W.cell? ⟨D, 9, none⟩ = some (.int .i64 H.rc) /\ W.cell? ⟨D, 10, none⟩ = some (.slice x3.q.a x3.q.n x3.q.c) /\ W.cell? ⟨D, 11, none⟩ = some (.slice x3.l1.a x3.l1.n x3.l1.c) /\ W.cell? ⟨D, 12, none⟩ = some (.slice x3.l2.a x3.l2.n x3.l2.c) /\ W.cell? ⟨D, 13, none⟩ = some (.slice x3.l3.a x3.l3.n x3.l3.c)) (first | exact KS _ B7.out | exact KS _ B6.out | exact KS _ (Below.refl w4.heap.size w4).drew | exact KS _ (Below.refl w4.heap.size w4)) (first
   | (go_at_call 27; refine Calls.mono (K31 _).out ?_; rintro e w6 ⟨x6, rfl, H6⟩; have B6 : Hid (Below w4.heap.size w4 w6) := (by first | exact Below.trans ((Below.refl w4.heap.size w4).drew) H6.out.2 | exact H6.out.2))
   | (go_at_call 20; refine Calls.mono (KSM.out x3 x6 _ (HM4.out.below B6.out) H6.out.1) ?_; rintro e w7 ⟨rfl, H7⟩; have B7 : Hid (Below w4.heap.size w4 w7) := (Below.trans B6.out (Below.mono H7.out B6.out.size))))
 go_wp2
 go_ret
 exact ⟨rfl, HB4.out.trans (B7.out.mono HB4.out.size)⟩
end Go.Proofs.YtkjnbgekaifdfaaGreat
namespace Go.Proofs.YtkjnbgekaifdfaaGreat
open Go.ChangeShapes Go.WideShapes Go.ChangeAt Go.RowKit Go.Deep Go.Maps
set_option maxRecDepth 100000
variable {H : Type} {enc : TypeId × Value -> H} {W : World}
variable {H : Type} {enc : TypeId × Value -> H} {W : World}
theorem field_at {t : TypeId} {fs : Array Field} {fuel : Nat} {cs : List Value} {x : DataW H × List MemPlace} (ht : Tryz.prog.underlying t = some (.struct fs)) (h : DataW.trod enc Tryz.prog W 0 (fun _ => true) true fuel t cs = some x) (i : Nat) (f : Field) (hf : fs[i]? = some f) (k : Nat) (hk : Tryz.prog.cellsOf f.type = k) :
   ∃ n y, DataW.trod enc Tryz.prog W 0 (fun _ => true) true n f.type ((cs.drop f.offset).take k) = some y := by
 obtain ⟨xs, n, _, _, _, hlen, hall⟩ := DataW.trod_struct ht h
 have := hall i f hf
 rw [hk] at this
 have hi : i < fs.size := (Array.getElem?_eq_some_iff.1 hf).1
 exact ⟨n, _, this.trans (List.getElem?_eq_getElem (by rw [hlen]; exact hi))⟩
theorem open_data4 {fuel : Nat} {v0 v1 v2 v3 : Value} {x : DataW H × List MemPlace} (h : DataW.trod enc Tryz.prog W 0 (fun _ => true) true fuel 60 [v0, v1, v2, v3] = some x) :
   ∃ (x : DA) (y : Dat), v0 = .slice x.p1.a x.p1.n x.p1.c /\ v1 = .slice x.p2.a x.p2.n x.p2.c /\ v2 = .slice x.p3.a x.p3.n x.p3.c /\ v3 = .slice x.p4.a x.p4.n x.p4.c /\ DRd W x y := by
 obtain ⟨_, _, t0⟩ := field_at Tryz.underlying60 h 0 _ rfl 1 (by kernel_rfl)
 obtain ⟨_, _, t1⟩ := field_at Tryz.underlying60 h 1 _ rfl 1 (by kernel_rfl)
 obtain ⟨_, _, t2⟩ := field_at Tryz.underlying60 h 2 _ rfl 1 (by kernel_rfl)
 obtain ⟨_, _, t3⟩ := field_at Tryz.underlying60 h 3 _ rfl 1 (by kernel_rfl)
 replace t0 : DataW.trod enc Tryz.prog W 0 (fun _ => true) true _ 57 [v0] = some _ := t0
 replace t1 : DataW.trod enc Tryz.prog W 0 (fun _ => true) true _ 58 [v1] = some _ := t1
 replace t2 : DataW.trod enc Tryz.prog W 0 (fun _ => true) true _ 50 [v2] = some _ := t2
 replace t3 : DataW.trod enc Tryz.prog W 0 (fun _ => true) true _ 29 [v3] = some _ := t3
 obtain ⟨a0, n0, c0, rfl⟩ := slice_of (t := 57) (e := 51) Tryz.underlying57 t0
 obtain ⟨a1, n1, c1, rfl⟩ := slice_of (t := 58) (e := 56) Tryz.underlying58 t1
 obtain ⟨a2, n2, c2, rfl⟩ := slice_of (t := 50) (e := 9) Tryz.underlying50 t2
 obtain ⟨a3, n3, c3, rfl⟩ := slice_of (t := 29) (e := 5) Tryz.underlying29 t3
 obtain ⟨nss, h0⟩ := open_namesD t0
 obtain ⟨us, h1⟩ := open_numsD t1
 obtain ⟨ss, h2⟩ := open_texts Tryz.underlying50 t2
 obtain ⟨zs, h3⟩ := open_bytesD t3
 exact ⟨⟨⟨a0, n0, c0⟩, ⟨a1, n1, c1⟩, ⟨a2, n2, c2⟩, ⟨a3, n3, c3⟩⟩, ⟨nss, us, ss, zs⟩, rfl, rfl, rfl, rfl, h0, h1, h2, h3⟩
theorem open_rec8 {fuel : Nat} {v0 v1 v2 v3 v4 v5 v6 v7 : Value} {x : DataW H × List MemPlace} (h : DataW.trod enc Tryz.prog W 0 (fun _ => true) true fuel 62 [v0, v1, v2, v3, v4, v5, v6, v7] = some x) :
   ∃ (x : RA) (r : Rec), [v0, v1, v2, v3, v4, v5, v6, v7] = recCells x r /\ RRd W x r /\ r.t < 65536 /\ r.cl < 65536 /\ r.tt < 4294967296 := by
 obtain ⟨_, _, t0⟩ := field_at Tryz.underlying62 h 0 _ rfl 1 (by kernel_rfl)
 obtain ⟨_, _, t1⟩ := field_at Tryz.underlying62 h 1 _ rfl 1 (by kernel_rfl)
 obtain ⟨_, _, t2⟩ := field_at Tryz.underlying62 h 2 _ rfl 1 (by kernel_rfl)
 obtain ⟨_, _, t3⟩ := field_at Tryz.underlying62 h 3 _ rfl 1 (by kernel_rfl)
 obtain ⟨_, _, t4⟩ := field_at Tryz.underlying62 h 4 _ rfl 4 (by kernel_rfl)
 replace t0 : DataW.trod enc Tryz.prog W 0 (fun _ => true) true _ 51 [v0] = some _ := t0
 replace t1 : DataW.trod enc Tryz.prog W 0 (fun _ => true) true _ 52 [v1] = some _ := t1
 replace t2 : DataW.trod enc Tryz.prog W 0 (fun _ => true) true _ 53 [v2] = some _ := t2
 replace t3 : DataW.trod enc Tryz.prog W 0 (fun _ => true) true _ 56 [v3] = some _ := t3
 replace t4 : DataW.trod enc Tryz.prog W 0 (fun _ => true) true _ 60 [v4, v5, v6, v7] = some _ := t4
 obtain ⟨a, n, c, rfl⟩ := slice_of (t := 51) (e := 9) Tryz.underlying51 t0
 obtain ⟨x1, e1, _, w1⟩ := DataW.trod_int (t := 52) Tryz.underlying52 t1
 obtain ⟨x2, e2, _, w2⟩ := DataW.trod_int (t := 53) Tryz.underlying53 t2
 obtain ⟨x3, e3, _, w3⟩ := DataW.trod_int (t := 56) Tryz.underlying56 t3
 obtain ⟨xd, d, rfl, rfl, rfl, rfl, hd⟩ := open_data4 t4
 simp only [List.cons.injEq, and_true] at e1 e2 e3
 subst e1 e2 e3
 have b1 := bounds_u16 w1
 have b2 := bounds_u16 w2
 have b3 : 0 <= x3 /\ x3 <= 4294967295 := by have := w3; simp [Lit.wf, IntKind.min, IntKind.max, IntKind.bits, IntKind.signed] at this; omega
 obtain ⟨ss, hss⟩ := open_texts Tryz.underlying51 t0
 refine ⟨⟨⟨a, n, c⟩, xd⟩, ⟨ss, x1.toNat, x2.toNat, x3.toNat, d⟩, ?_, ⟨hss, hd⟩, by show x1.toNat < 65536; omega, by show x2.toNat < 65536; omega, by show x3.toNat < 4294967296; omega⟩
 simp only [recCells, Int.toNat_of_nonneg b1.1, Int.toNat_of_nonneg b2.1, Int.toNat_of_nonneg b3.1]
theorem cells61 : Tryz.prog.cellsOf 62 = 8 := by kernel_rfl
theorem open_records {a : Option Addr} {len cap fuel : Nat} {x : DataW H × List MemPlace} (hf : DataW.trod enc Tryz.prog W 0 (fun _ => true) true fuel 24 [Value.slice a len cap] = some x) : ∃ rs : List Rec, LRd W ⟨a, len, cap⟩ rs /\ ∀ r ∈ rs, Rb r := by
 rcases DataW.trod_slice Tryz.underlying24 hf with ⟨hcs, _⟩ | ⟨x, l, c, elems, rest, n, _, hcs, _, _, hl, hm, hel, hcell, _⟩
 · simp at hcs
   obtain ⟨rfl, rfl, rfl⟩ := hcs
   exact ⟨[], lrd_nil W, fun r hr => (by cases hr)⟩
 · simp at hcs
   obtain ⟨rfl, rfl, rfl⟩ := hcs
   rw [cells61] at hcell
   have hex : ∀ i, i < len -> ∃ r : Rec, ∃ y : RA, (∀ j, j < 8 -> W.cell? ((x.add (i * 8)).add j) = (recCells y r)[j]?) /\ RRd W y r /\ Rb r := by
     intro i hi
     have h1 := hcell i hi
     rw [List.getElem?_eq_getElem (by omega)] at h1
     rw [Option.bind_eq_some_iff] at h1
     obtain ⟨cs, h2, h3⟩ := h1
     obtain ⟨_, hlen, hc⟩ := World.cells?_some h2
     match cs, hlen with
     | [v0, v1, v2, v3, v4, v5, v6, v7], _ =>
       obtain ⟨y, r, e, h4, h5, h6, h7⟩ := open_rec8 h3
       rw [e] at hc
       exact ⟨r, y, fun j hj => hc j hj, h4, by omega, by omega, by omega⟩
   obtain ⟨rs, hlen, hrs⟩ := list_of len _ hex
   have hb : ∀ r ∈ rs, Rb r := by
     intro r hr
     obtain ⟨i, hi, rfl⟩ := List.getElem_of_mem hr
     obtain ⟨_, _, _, h⟩ := hrs i hi
     exact h
   refine ⟨rs, ⟨?_, hlen, ⟨hl, by simp only [maxLen] at hm; exact hm⟩, by simp⟩, hb⟩
   by_cases h0 : len = 0
   · left; exact List.eq_nil_of_length_eq_zero (by omega)
   · right
     obtain ⟨b, off, spot⟩ := x
     obtain ⟨y0, hc0, _⟩ := hrs 0 (by omega)
     have hc00 := hc0 0 (by omega)
     have hspot : spot = none := by simpa [Addr.add] using World.cell?_spot hc00
     subst hspot
     have hlt : b < W.heap.size := by
       have := World.block_lt_of_cell? W _ hc00
       simpa [Addr.add] using this
     refine ⟨b, off, rfl, hlt, fun i hi => ?_⟩
     obtain ⟨y, e1, ok, _⟩ := hrs i hi
     refine ⟨y, fun j hj => ?_, ok⟩
     have := e1 j hj
     rw [Addr.add_lit, Addr.add_lit] at this
     exact this
theorem open_message {base : Nat} {v : Value} {d : DataW H} {p : List MemPlace} (hv : Value.okWide Tryz.prog W .any base 26 v) (h : DataW.Trod enc Tryz.prog W 0 (fun _ => true) true 26 v d p) : ∃ (HH : Hd) (x : MA) (m : Mg), v = .agg #[.int .u16 HH.id, .bool HH.rs, .int .i64 HH.op, .bool HH.aa, .bool HH.tc, .bool HH.rd, .bool HH.ra, .bool HH.ad, .bool HH.cd, .int .i64 HH.rc, .slice x.q.a x.q.n x.q.c, .slice x.l1.a x.l1.n x.l1.c, .slice x.l2.a x.l2.n x.l2.c, .slice x.l3.a x.l3.n x.l3.c] /\ MRd W HH x m := by
 obtain ⟨id, rs, op, aa, tc, rd, ra, ad, cd, rc, a1, a2, a3, a4, n1, n2, n3, n4, k1, k2, k3, k4, rfl, hid, ⟨_, _, t1⟩, ⟨_, _, t2⟩, ⟨_, _, t3⟩, ⟨_, _, t4⟩, _, _⟩ := open_msg hv h
 obtain ⟨qs, hq⟩ := open_questions t1
 obtain ⟨l1, h1, b1⟩ := open_records t2
 obtain ⟨l2, h2, b2⟩ := open_records t3
 obtain ⟨l3, h3, b3⟩ := open_records t4
 refine ⟨⟨id, rs, op, aa, tc, rd, ra, ad, cd, rc⟩, ⟨⟨a1, n1, k1⟩, ⟨a2, n2, k2⟩, ⟨a3, n3, k3⟩, ⟨a4, n4, k4⟩⟩, ⟨⟨id, rs, op, aa, tc, rd, ra, ad, cd, rc⟩, qs, l1, l2, l3⟩, rfl, rfl, hq, h1, h2, h3, hid, fun q hq' => ?_, b1, b2, b3⟩
 obtain ⟨i, hi, rfl⟩ := List.getElem_of_mem hq'
 obtain ⟨_, _, _, _, y, _, _, _, ok⟩ := hq.at i hi
 exact ⟨Nat.le_of_lt_succ ok.bt, Nat.le_of_lt_succ ok.bc⟩
end Go.Proofs.YtkjnbgekaifdfaaGreat
namespace Go.Proofs.YtkjnbgekaifdfaaGreat
open Go.ChangeShapes Go.WideShapes Go.ChangeAt Go.RowKit Go.Maps
theorem cellsR_len : ∀ ps : List (RA × Rec), (cellsR ps).length = ps.length * 8
 | [] => rfl
 | p :: l => by
   have := cellsR_len l
   simp only [cellsR, List.flatMap_cons, List.length_append] at this ⊢
   rw [this]; simp [recCells]; omega
theorem cellsR_oneE (ps : List (RA × Rec)) : ∀ u ∈ cellsR ps, u.oneCell' = true := by
 intro u hu
 simp only [cellsR, List.mem_flatMap] at hu
 obtain ⟨p, _, hu⟩ := hu
 simp [recCells] at hu
 rcases hu with rfl | rfl | rfl | rfl | rfl | rfl | rfl | rfl <;> rfl
theorem lrd_parts {w : World} {s : Sl} {rs : List Rec} (h : LRd w s rs) : ∃ ps : List (RA × Rec), ps.map (·.2) = rs /\ ps.length = s.n /\ (∀ W, Below w.heap.size w W -> ∀ ad, s.a = some ad -> ∀ j u, (cellsR ps)[j]? = some u -> W.cell? (ad.add j) = some u) /\ (∀ p ∈ ps, RRd w p.1 p.2) /\ (s.a = none -> s.n = 0) := by
 have hnil : s.a = none -> s.n = 0 := fun e => by have := h.nil e; have := h.cap.1; omega
 rcases h.rd with e | ⟨b, o, ha, hb, hc⟩
 · subst e
   exact ⟨[], rfl, h.len, fun W _ ad _ j u hu => (by simp [cellsR] at hu), fun p hp => (by cases hp), hnil⟩
 · have hex : ∀ i, i < rs.length -> ∃ p : RA × Rec, some p.2 = rs[i]? /\ (∀ j, j < 8 -> w.cell? ⟨b, o + i * 8 + j, none⟩ = (recCells p.1 p.2)[j]?) /\ RRd w p.1 p.2 := by
     intro i hi
     obtain ⟨x, e3, e4⟩ := hc i hi
     exact ⟨(x, rs[i]), by simp [hi], e3, e4⟩
   obtain ⟨ps, hl, hps⟩ := list_of rs.length _ hex
   have hm : ps.map (·.2) = rs := by
     refine List.ext_getElem (by simp [hl]) fun i h1 h2 => ?_
     rw [List.getElem_map]
     have := (hps i (by omega)).1
     rw [List.getElem?_eq_getElem h2] at this
     exact Option.some.inj this
   refine ⟨ps, hm, hl.trans h.len, fun W hW ad had j u hu => ?_, fun p hp => ?_, hnil⟩
   · rw [ha] at had
     injection had with had
     subst had
     have ad : (⟨b, o, none⟩ : Addr).add j = ⟨b, o + j, none⟩ := by unfold Addr.add; split <;> simp_all
     rw [ad]
     have hj : j < ps.length * 8 := by rw [<- cellsR_len]; exact (List.getElem?_eq_some_iff.1 hu).1
     have hi : j / 8 < ps.length := by omega
     have e1 := cellsR_at ps (j / 8) hi (j % 8) (by omega)
     rw [show j / 8 * 8 + j % 8 = j by omega] at e1
     rw [e1] at hu
     have := (hps (j / 8) (by omega)).2.1 (j % 8) (by omega)
     rw [show o + j / 8 * 8 + j % 8 = o + j by omega, hu] at this
     exact (hW.cell (p := ⟨b, o + j, none⟩) hb).trans this
   · obtain ⟨i, hi, rfl⟩ := List.getElem_of_mem hp
     exact (hps i (by omega)).2.2
theorem row_lrd {B n c : Nat} {a : Option Addr} {w : World} {ps : List (RA × Rec)} (h : w.ownsRow B 62 8 (.slice a n c) n (cellsR ps)) (hn : ps.length = n) (hr : ∀ p ∈ ps, RRd w p.1 p.2) : LRd w ⟨a, n, c⟩ (ps.map (·.2)) := by
 rcases h.2 with ⟨e, h0⟩ | ⟨g, cap, cur, e, hb, hg, k1, k2, k3, k4⟩
 · simp only [Value.slice.injEq] at e
   obtain ⟨rfl, rfl, rfl⟩ := e
   have : ps = [] := List.length_eq_zero_iff.1 hn
   subst this
   exact lrd_nil w
 · simp only [Value.slice.injEq] at e
   obtain ⟨rfl, -, rfl⟩ := e
   refine ⟨.inr ⟨g, 0, rfl, (Array.getElem?_eq_some_iff.1 hg).1, fun i hi => ?_⟩, by simp [hn], ⟨k1, by simpa only [maxLen] using k2⟩, by simp⟩
   have hi' : i < ps.length := by simpa using hi
   have ad : ∀ j, (⟨g, 0, none⟩ : Addr).add j = ⟨g, 0 + j, none⟩ := fun j => by unfold Addr.add; split <;> simp_all
   have hgi : (ps.map (·.2))[i] = ps[i].2 := by simp
   rw [hgi]
   refine ⟨ps[i].1, fun j hj => ?_, hr _ (List.getElem_mem _)⟩
   have e2 := cellsR_at ps i hi' j hj
   have hlt : j < (recCells ps[i].1 ps[i].2).length := hj
   rw [List.getElem?_eq_getElem hlt] at e2 ⊢
   have := h.cells (g := g) rfl _ _ e2
   rw [ad] at this
   rw [Nat.add_assoc]; exact this
theorem run_appR (w : World) (ty : TypeId) (B : Nat) (av : Option Addr) (n cv : Nat) (xs : List Value) (hown : w.ownsRow B 62 8 (.slice av n cv) n xs)
   (ao : Option Addr) (m c : Nat) (news : List Value) (hl : news.length = m * 8) (hsrc : ∀ ad, ao = some ad -> ∀ j u, news[j]? = some u -> w.cell? (ad.add j) = some u) (hnil : ao = none -> m = 0) (h1 : ∀ u ∈ news, u.oneCell' = true) (hb : n + m <= 10000000) (hB : B <= w.heap.size) :
   ∃ a' c' w', (Builtin.append_ #[24, 24] ty #[.slice av n cv, .slice ao m c]).run Tryz.prog w = .ok (.slice a' (n + m) c') w' /\ w'.ownsRow B 62 8 (.slice a' (n + m) c') (n + m) (xs ++ news) /\ w.grownBy w' (Value.slice av n cv).ownBlock := by
 obtain ⟨i, hi, hz0, hz1, hz2⟩ := inf61
 by_cases hm : m = 0
 · subst hm
   have hn0 : news = [] := List.eq_nil_of_length_eq_zero (by omega)
   subst hn0
   have hle : n <= cv := by
     rcases hown.2 with ⟨e, h0⟩ | ⟨g, cap, cur, e, _, _, h3, _⟩
     · injection e; omega
     · injection e; omega
   have hS : Src Tryz.prog i.size 24 (.slice ao 0 c) 0 [] w := by
     cases ao with
     | none => exact Src.ofNil w Tryz.underlying24 c
     | some ad => exact Src.ofSlice w Tryz.underlying24 ad 0 c [] (by simp) (by simp) (by simp)
   have hrun := run_append_nothing (P := Tryz.prog) w 24 24 ty 62 i Tryz.underlying24 hi av n cv hle (.slice ao 0 c) hS
   exact ⟨av, cv, w, hrun, by simpa using hown, World.grownBy.refl _ _⟩
 · cases ao with
   | none => exact absurd (hnil rfl) hm
   | some ad =>
     obtain ⟨g, cap, w', hr, h2, h3, _, _⟩ := run_append_lies (P := Tryz.prog) w 24 ty B 62 i _ 8 128 Tryz.underlying24 hi hz0 hz1 hz2 rfl (by omega) _ n xs hown ad m c news hl (hsrc ad rfl) h1 (by omega) (by simp only [maxLen]; omega) (by omega) hB _ rfl
     exact ⟨_, _, _, hr, h2, h3⟩
theorem wpList_appR {w : World} {ops : Array Oper} {rest : List Oper} {o : Oper} {a : Act} {Q : Exit -> Act -> World -> Prop} (hgd : o.guard = none) (s x : Operand)
   (ho : o.op = .call { callee := .builtin .append, args := #[s, x], argTypes := #[24, 24] }) (B : Nat) (av : Option Addr) (n cv : Nat) (xs : List Value) (hs : a.eval s = .slice av n cv) (hown : w.ownsRow B 62 8 (.slice av n cv) n xs)
   (ao : Option Addr) (m c : Nat) (news : List Value) (hx : a.eval x = .slice ao m c) (hl : news.length = m * 8) (hsrc : ∀ ad, ao = some ad -> ∀ j u, news[j]? = some u -> w.cell? (ad.add j) = some u) (hnil : ao = none -> m = 0) (h1 : ∀ u ∈ news, u.oneCell' = true) (hb : n + m <= 10000000) (hB : B <= w.heap.size) (N : Nat) (hN : n + m = N)
   (h : ∀ a' c' w', Hid (w'.ownsRow B 62 8 (.slice a' N c') N (xs ++ news)) -> Hid (w.grownBy w' (Value.slice av n cv).ownBlock) -> wpList Tryz.prog ops Q rest (a.put o.dst (.slice a' N c')) w') : wpList Tryz.prog ops Q (o :: rest) a w := by
 refine wpList_plain hgd fun K hK => ?_
 obtain ⟨a', c', w', hrun, h2, h3⟩ := run_appR w o.type B av n cv xs hown ao m c news hl hsrc hnil h1 hb hB
 subst hN
 unfold Oper.wp execOp
 simp only [ho, resolve, invoke, builtin, Sem.run_bind, Sem.run_pure, Result.andThen_ok, List.map_toArray, List.map_cons, List.map_nil, hs, hx, hrun]
 exact hK _ _ (h a' c' w' h2 h3)
theorem step_appR {ops : Array Oper} {o : Oper} {a : Act} {w : World} {K : Act -> World -> Prop} {Q : Exit -> Act -> World -> Prop} {E : Prop} (hgd : o.guard = none) (s x : Operand)
   (ho : o.op = .call { callee := .builtin .append, args := #[s, x], argTypes := #[24, 24] }) (B : Nat) (av : Option Addr) (n cv : Nat) (xs : List Value) (hs : a.eval s = .slice av n cv) (hown : w.ownsRow B 62 8 (.slice av n cv) n xs)
   (ao : Option Addr) (m c : Nat) (news : List Value) (hx : a.eval x = .slice ao m c) (hl : news.length = m * 8) (hsrc : ∀ ad, ao = some ad -> ∀ j u, news[j]? = some u -> w.cell? (ad.add j) = some u) (hnil : ao = none -> m = 0) (h1 : ∀ u ∈ news, u.oneCell' = true) (hb : n + m <= 10000000) (hB : B <= w.heap.size) (N : Nat) (hN : n + m = N)
   (h : ∀ a' c' w', Hid (w'.ownsRow B 62 8 (.slice a' N c') N (xs ++ news)) -> Hid (w.grownBy w' (Value.slice av n cv).ownBlock) -> K (a.put o.dst (.slice a' N c')) w') :
   if Region.wanted o (yielded ops a.tmps) = true then Oper.wp Tryz.prog o a w K Q else E := by
 obtain ⟨a', c', w', hrun, h2, h3⟩ := run_appR w o.type B av n cv xs hown ao m c news hl hsrc hnil h1 hb hB
 subst hN
 have hw : Region.wanted o (yielded ops a.tmps) = true := by simp [Region.wanted, hgd]
 rw [if_pos hw]
 unfold Oper.wp execOp
 simp only [ho, resolve, invoke, builtin, Sem.run_bind, Sem.run_pure, Result.andThen_ok, List.map_toArray, List.map_cons, List.map_nil, hs, hx, hrun]
 exact h a' c' w' h2 h3
end Go.Proofs.YtkjnbgekaifdfaaGreat
namespace Go.Proofs.YtkjnbgekaifdfaaGreat
open Go.ChangeShapes Go.WideShapes Go.ChangeAt Go.RowKit Go.Maps
set_option maxHeartbeats 4000000 in
theorem all32 (H : Hd) (x : MA) (m : Mg) (w : World) (hm : MRd w H x m) (ht : x.l1.n + x.l2.n + x.l3.n <= 2000000) : Calls Tryz.prog 28 #[.agg #[.int .u16 H.id, .bool H.rs, .int .i64 H.op, .bool H.aa, .bool H.tc, .bool H.rd, .bool H.ra, .bool H.ad, .bool H.cd, .int .i64 H.rc, .slice x.q.a x.q.n x.q.c, .slice x.l1.a x.l1.n x.l1.c, .slice x.l2.a x.l2.n x.l2.c, .slice x.l3.a x.l3.n x.l3.c]] w fun e w' => ∃ t : Sl, e = .returned (.slice t.a t.n t.c) /\ Hid (LRd w' t (m.l1 ++ m.l2 ++ m.l3) /\ Below w.heap.size w w') := by
 obtain ⟨ps1, e1, l1, s1, r1, z1⟩ := lrd_parts hm.l1
 obtain ⟨ps2, e2, l2, s2, r2, z2⟩ := lrd_parts hm.l2
 obtain ⟨ps3, e3, l3, s3, r3, z3⟩ := lrd_parts hm.l3
 have HE : Hid (m.l1 ++ m.l2 ++ m.l3 = (ps1 ++ ps2 ++ ps3).map (·.2)) := (show _ = _ by rw [List.map_append, List.map_append, e1, e2, e3])
 have HR : Hid (∀ p ∈ ps1 ++ ps2 ++ ps3, RRd w p.1 p.2) := fun p hp => by
   rcases List.mem_append.1 hp with hp | hp
   · rcases List.mem_append.1 hp with hp | hp
     · exact r1 p hp
     · exact r2 p hp
   · exact r3 p hp
 rw [HE.out]
 clear hm e1 e2 e3 r1 r2 r3
 obtain ⟨⟨qa, qn, qc⟩, ⟨a1, n1, c1⟩, ⟨a2, n2, c2⟩, ⟨a3, n3, c3⟩⟩ := x
 simp only at *
 have HL1 : Hid ((cellsR ps1).length = n1 * 8) := (show _ = _ by rw [cellsR_len, l1])
 have HL2 : Hid ((cellsR ps2).length = n2 * 8) := (show _ = _ by rw [cellsR_len, l2])
 have HL3 : Hid ((cellsR ps3).length = n3 * 8) := (show _ = _ by rw [cellsR_len, l3])
 have HS1 := Lib.hid s1
 have HS2 := Lib.hid s2
 have HS3 := Lib.hid s3
 have HZ1 := Lib.hid z1
 have HZ2 := Lib.hid z2
 have HZ3 := Lib.hid z3
 have HPL : Hid ((ps1 ++ ps2 ++ ps3).length = n1 + n2 + n3) := (show _ = _ by simp only [List.length_append, l1, l2, l3])
 have HC1 := Lib.hid (cellsR_oneE ps1)
 have HC2 := Lib.hid (cellsR_oneE ps2)
 have HC3 := Lib.hid (cellsR_oneE ps3)
 clear s1 s2 s3 z1 z2 z3 l1 l2 l3
 have hb0 := newq_below w (.cells #[.int .u16 H.id, .bool H.rs, .int .i64 H.op, .bool H.aa, .bool H.tc, .bool H.rd, .bool H.ra, .bool H.ad, .bool H.cd, .int .i64 H.rc, .slice qa qn qc, .slice a1 n1 c1, .slice a2 n2 c2, .slice a3 n3 c3] 26)
 have hbx : (w.alloc (.cells #[.int .u16 H.id, .bool H.rs, .int .i64 H.op, .bool H.aa, .bool H.tc, .bool H.rd, .bool H.ra, .bool H.ad, .bool H.cd, .int .i64 H.rc, .slice qa qn qc, .slice a1 n1 c1, .slice a2 n2 c2, .slice a3 n3 c3] 26)).heap[w.heap.size]? = some (.cells #[.int .u16 H.id, .bool H.rs, .int .i64 H.op, .bool H.aa, .bool H.tc, .bool H.rd, .bool H.ra, .bool H.ad, .bool H.cd, .int .i64 H.rc, .slice qa qn qc, .slice a1 n1 c1, .slice a2 n2 c2, .slice a3 n3 c3] 26) := heap_alloc_new _ _
 have HX := Lib.hid hbx
 have HB := Lib.hid hb0
 clear hbx hb0
 go_enter Tryz.func28, Tryz.ntmps28
 go_wp2_with fail
 generalize w.alloc (.cells #[.int .u16 H.id, .bool H.rs, .int .i64 H.op, .bool H.aa, .bool H.tc, .bool H.rd, .bool H.ra, .bool H.ad, .bool H.cd, .int .i64 H.rc, .slice qa qn qc, .slice a1 n1 c1, .slice a2 n2 c2, .slice a3 n3 c3] 26) = w0 at *
 obtain ⟨b, hbb⟩ : ∃ b, b = w.heap.size := ⟨_, rfl⟩
 rw [<- hbb] at HX ⊢
 have HBB : Hid (b = w.heap.size) := hbb
 clear hbb
 have k11 := box_cell HX.out 11 _ rfl
 have k12 := box_cell HX.out 12 _ rfl
 have lb := box_lt HX.out
 have HN0 : Hid (w0.drew.ownsRow w0.heap.size 62 8 (.slice none 0 0) 0 []) := ⟨rfl, .inl ⟨rfl, rfl⟩⟩
 have HBD : Hid (Below w.heap.size w w0.drew) := HB.out.drew
 go_region_law (first
   | (refine step_appR (by rfl) _ _ (by rfl) w0.heap.size none 0 0 [] (by rfl) HN0.out a1 n1 c1 (cellsR ps1) (by rfl) HL1.out (HS1.out _ HBD.out) HZ1.out HC1.out (by omega) (Nat.le_refl _) n1 (Nat.zero_add n1) ?_; intro x1 y1 w1 h5 h6; have H5 := Lib.hid h5.out; have H6 := Lib.hid h6.out; clear h5 h6; have HB1 : Hid (Below w.heap.size w w1) := (HBD.out.grown H6.out HBD.out.size (fun k e => by simp [Value.ownBlock] at e)); have hx1 : w1.heap[b]? = some (.cells #[.int .u16 H.id, .bool H.rs, .int .i64 H.op, .bool H.aa, .bool H.tc, .bool H.rd, .bool H.ra, .bool H.ad, .bool H.cd, .int .i64 H.rc, .slice qa qn qc, .slice a1 n1 c1, .slice a2 n2 c2, .slice a3 n3 c3] 26) := ((H6.out.block b lb (by simp [Value.ownBlock])).trans HX.out); have HX1 := Lib.hid hx1; have m12 := box_cell hx1 12 _ rfl; have lb1 := box_lt hx1; have HSZ1 : Hid (w0.heap.size <= w1.heap.size) := H6.out.size; clear hx1)
   | (refine step_appR (by rfl) _ _ (by rfl) w0.heap.size x1 n1 y1 ([] ++ cellsR ps1) (by rfl) H5.out a2 n2 c2 (cellsR ps2) (by rfl) HL2.out (HS2.out _ HB1.out) HZ2.out HC2.out (by omega) HSZ1.out (n1 + n2) rfl ?_; intro x2 y2 w2 h7 h8; have H7 := Lib.hid h7.out; have H8 := Lib.hid h8.out; clear h7 h8; have HB2 : Hid (Below w.heap.size w w2) := (HB1.out.grown H8.out HB1.out.size (fun k e => by have := (H5.out.lt k e).1; have := HB.out.size; omega)); have hx2 : w2.heap[b]? = some (.cells #[.int .u16 H.id, .bool H.rs, .int .i64 H.op, .bool H.aa, .bool H.tc, .bool H.rd, .bool H.ra, .bool H.ad, .bool H.cd, .int .i64 H.rc, .slice qa qn qc, .slice a1 n1 c1, .slice a2 n2 c2, .slice a3 n3 c3] 26) := ((H8.out.block b lb1 (fun e => by have := (H5.out.lt b e.symm).1; omega)).trans HX1.out); have HX2 := Lib.hid hx2; have HSZ2 : Hid (w0.heap.size <= w2.heap.size) := (Nat.le_trans HSZ1.out H8.out.size); clear hx2)
   | fail)
 all_goals
   have k13 := box_cell HX2.out 13 _ rfl
   have lb2 := box_lt HX2.out
   go_wp2_with (at_builtin; refine wpList_appR rfl _ _ rfl w0.heap.size x2 (n1 + n2) y2 ([] ++ cellsR ps1 ++ cellsR ps2) rfl H7.out a3 n3 c3 (cellsR ps3) rfl HL3.out (HS3.out _ HB2.out) HZ3.out HC3.out (by omega) HSZ2.out (n1 + n2 + n3) rfl ?_; intro x3 y3 w3 h9 h10; have H9 := Lib.hid h9.out; have H10 := Lib.hid h10.out; clear h9 h10)
   go_ret
   have hb3 : Below w.heap.size w w3 := HB2.out.grown H10.out HB2.out.size (fun k e => by have := (H7.out.lt k e).1; have := HB.out.size; omega)
   refine ⟨⟨x3, n1 + n2 + n3, y3⟩, rfl, ?_, hb3⟩
   have h9 := H9.out
   rw [List.nil_append, <- cellsR_app, <- cellsR_app] at h9
   exact row_lrd h9 HPL.out (fun p hp => RRd.below (HR.out p hp) hb3)
end Go.Proofs.YtkjnbgekaifdfaaGreat
