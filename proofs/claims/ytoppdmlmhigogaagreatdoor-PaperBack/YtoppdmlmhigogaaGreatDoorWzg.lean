/- Texts laid together, in parts: Qj Eb Zca Zcb Zcc Pf Pg Ph Pq Pi Pj Pk Pl Pm. -/
import Derived.Test.YtoppdmlmhigogaaGreatDoorWzf
import Derived.WalkKit
import Derived.BigQuiet
import Derived.Deep.QuietTactic
import Derived.Deep.CutBlock
import Derived.Deep.RegionHeld3
set_option maxRecDepth 100000
set_option maxHeartbeats 8000000
set_option linter.unusedVariables false
set_option linter.unusedSimpArgs false
open Array renaming getElem?_eq_some_iff → As
open Bool renaming and_eq_true → AA, false_eq_true → Bi, not_eq_true' → Mv, true_and → OE
open Go renaming World → Ab, Calls → Ag, Value → Ao, heap_alloc_new → Au, TypeId → BH, maxLen → Gi, info_parts → PT
open Go.Builtin renaming unsafeString_ → Ib, unsafeSliceData_ → Km
open Go.Lib renaming hid → Ac, byteCells → Ak, decDigits → Bv, byteCells_length → Dr, run_unsafeString_none → ML
open Go.Program renaming arrayLen → LA, elem → PX
open Go.Proofs.Tryz renaming prog → Aa, underlying39 → AI, underlying9 → AK, underlying22 → Dy, ntmps152 → Gg, func152 → He, underlying249 → Pz
open Go.Region renaming wanted → FQ
open Go.RowKit.Below renaming refl → Ae, heap_setCell → Ar
open Go.Value renaming int → AL, ownBlock → Bm, slice → Ce
open Go.World renaming cell? → Az
open Int renaming toNat_natCast → BM
open List renaming length_append → Af, take_of_length_le → Al, getD_eq_getElem?_getD → Am, length_eq_zero_iff → Aq, cons_append → Ay, eq_nil_of_length_eq_zero → AC, getElem?_eq_getElem → AF, mem_append → AG, take_succ_eq_append_getElem → AH, replicate → AM, length_cons → AP, nil_append → AQ, append_assoc → AR, length_map → AS, getElem_mem → AU, mem_map → AY, mem_of_mem_take → Be, map_cons → Bh, take_append_drop → BE, length_singleton → Ch, flatMap_cons → Cn, length_take → CC, mem_of_mem_drop → CT, length_nil → CZ, map_nil → Df, flatMap_append → Dm, mem_cons_of_mem → Dw, drop_eq_nil_of_le → DH, map_append → DL, getElem?_eq_some_iff → EC, map_congr_left → ED, map_map → Fq, append_eq_nil_iff → IA, replicate_succ → Kl
open Nat renaming le_refl → Ad, le_trans → Aj, zero_le → Aw
namespace Go.Proofs.YtoppdmlmhigogaaGreatDoor
open Go.ChangeShapes Go.WideShapes Go.ChangeAt Go.RowKit
def GW(B:Nat)(w:Ab)(b:Nat)(bs:List Ao):Prop:=
 ∃v,BB w b (.pointer (some ⟨b,0,none⟩)) v/\w.ownsRow B 5 1 v bs.length bs/\v.ownBlock≠some b/\(bs=[]->v=.slice none 0 0)
def G2(B:Nat)(w:Ab)(b:Nat)(bs:List Ao):Prop:=(BB w b (.pointer none) (.slice none 0 0)/\bs=[])∨GW B w b bs
theorem qU(B b:Nat)(bs:List Ao)(w:Ab)(h:G2 B w b bs)(hB:B<=b) :
  Ag Aa 93 #[.pointer (some ⟨b,0,none⟩)] w fun e w'=>e=.returned (.tuple #[])/\Hid (GW B w' b bs/\Below B w w'):=by
 obtain⟨h1,rfl⟩|⟨v,h1,h3,h4⟩:=h
 ·refine(Jz b _ w h1).mono ?_;rintro e w' ⟨rfl,rfl⟩;refine⟨rfl,⟨.slice none 0 0,?_,World.ownsRow_nil _ _ _ _,by simp[Bm],fun _=>rfl⟩,(Ae _ _).setCell hB _⟩;have:=AD h1 0 (.pointer (some ⟨b,0,none⟩));simpa[BB] using this
 ·refine(Lg b v w h1).mono ?_;rintro e w' ⟨rfl,rfl⟩;exact⟨rfl,⟨v,h1,h3,h4⟩,Ae _ _⟩
theorem xI(B b:Nat)(bs:List Ao)(s:ByteArray)(w:Ab)(h:G2 B w b bs)(hB:B<=b)(hl:bs.length+s.size<=140737488355328) :
  Ag Aa 57 #[.pointer (some ⟨b,0,none⟩),.string s] w fun e w'=>e=.returned (.tuple #[.int .i64 s.size,.nilIface])/\Hid (GW B w' b (bs++Ak s.data.toList)/\Below B w w'):=by
 have HG:Hid (G2 B w b bs):=h;have hcl:(Ak s.data.toList).length=s.size:=by rw[Dr];rfl
 have HCL:Hid ((Ak s.data.toList).length=s.size):=hcl;clear h hcl;go_enter Tryz.func57,Tryz.ntmps57;go_wp2_with fail;refine(qU B b bs _ HG.out hB).mono ?_;rintro e w1 ⟨rfl,H1⟩;obtain⟨v,h1,h2,h4,h5⟩:=H1.out.1;have HV:Hid (bs=[]->v=.slice none 0 0):=h5;clear h5;have HB1:Hid (Below B w w1):=H1.out.2;have HB:Hid (BB w1 b (.pointer (some ⟨b,0,none⟩)) v/\w1.ownsRow B 5 1 v bs.length bs):=⟨h1,h2⟩;have c1:=h1.c1;have hlt:=h1.lt;clear h1 h2 H1 HG;obtain⟨i5,hi,hz0,hz1,hz2⟩:=PT Tryz.info5;have HI:Hid (Aa.info? 5=some i5/\i5.zero=some (.int .u8 0)/\i5.size=1/\i5.bytes=1):=⟨hi,hz0,hz1,hz2⟩;clear hi hz0 hz1 hz2;go_wp2_with (at_builtin;refine Lib.wpList_append_own_string _ rfl _ _ 39 9 rfl B 5 i5 AI AK HI.out.1 HI.out.2.1 HI.out.2.2.1 HI.out.2.2.2 v bs.length bs rfl HB.out.2 s rfl (by simp only[Gi];omega) (by omega) (by omega) ?_;intro v' w2 hown2 hgr2 hnil;obtain⟨ao,cc,rfl⟩:=Kj hown2;have hbk:Hid (w2.heap[b]?=w1.heap[b]?):=(hgr2.block b hlt (fun e=>h4 e.symm));have d1:=(HB.out.1.same hbk.out).c1;have d2:=(HB.out.1.same hbk.out).fz 1;have HG2:Hid (w1.grownBy w2 v.ownBlock/\w2.ownsRow B 5 1 (.slice ao (bs.length+s.size) cc) (bs.length+s.size) (bs++Ak s.data.toList)):=⟨hgr2,by rw[<- Ma];exact hown2⟩;have HNIL:Hid (Ce ao (bs.length+s.size) cc=.slice none 0 0↔v=.slice none 0 0/\s.size=0):=hnil;clear hown2 hgr2 hnil);go_ret2;have hb2:=HB.out.1.same hbk.out;have hrow:∀g,v.ownBlock=some g->B<=g:=fun g hg=>(HB.out.2.lt g hg).1
 have hbel:Below B w1 w2:=(Ae B w1).grown HG2.out.1 (by omega) hrow;have hne:(Ce ao (bs.length+s.size) cc).ownBlock≠some b:=by
  intro e;obtain⟨_,hc|⟨g,cap,cur,hv,_,hg,_⟩⟩:=HG2.out.2
  ·rw[hc.1]at e;simp[Bm]at e
  ·rw[hv]at e;have e2:g=b:=by simpa[Bm] using e
   rw[e2]at hg;have hb3:w2.heap[b]?=_:=hb2;rw[hb3]at hg;injection hg with hg
   injection hg with _ hg _
   exact absurd hg (by decide)
 refine⟨rfl,⟨.slice ao (bs.length+s.size) cc,?_,?_,hne,fun e=>HNIL.out.2 ⟨HV.out (IA.1 e).1,by have:=HCL.out;rw[(IA.1 e).2]at this;exact this.symm⟩⟩,HB1.out.trans (hbel.setCell hB _)⟩
 ·have:=AD hb2 1 (.slice ao (bs.length+s.size) cc);simpa[BB] using this
 ·have:=Qe HG2.out.2 hne 1 (.slice ao (bs.length+s.size) cc);rw[Af,HCL.out];exact this
theorem RK(B b:Nat)(l:List UInt8)(w:Ab)(h:G2 B w b (Ak l))(hl:l.length<=9223372036854775807) :
  Ag Aa 31 #[.pointer (some ⟨b,0,none⟩)] w fun e w'=>e=.returned (.string ⟨l.toArray⟩)/\Hid (Below B w w'):=by
 obtain h|⟨v,h1,h2,h4,h5⟩:=h
 ·exact Qn B b l w (.inl h) hl
 ·have hlen:=Dr l;obtain⟨hv,h0⟩|⟨g,cap,cur,rfl,hBg,hg,hn,hm,hs,hx⟩:=h2.2
  ·have hl0:l=[]:=AC (by omega);subst hl0;subst hv;have c1:=h1.c1;have s1:∀(W:Ab) (ts:Array BH) (ty:BH),(Km ts ty #[.slice none 0 0]).run Aa W=.ok (.pointer none) W:=fun W ts ty=>Lib.run_unsafeSliceData_nil W ts ty 0 0
   have s2:∀(W:Ab) (ty:BH),(Ib #[106,3] ty #[.pointer none,.int .i64 0]).run Aa W=.ok (.string .empty) W:=fun W ty=>ML W 106 3 ty none
   clear h1 h0 h2;go_enter Tryz.func31,Tryz.ntmps31;go_wp2_with fail
   go_region_held3 (fun W=>W.cell? ⟨b,1,none⟩=some (.slice none 0 0)) (go_keep) (fail)
   go_wp2;go_ret;exact⟨rfl,(Ae _ _).drew⟩
  ·have hne:0<(Ak l).length:=by
    apply List.length_pos_iff.2
    intro e;have:=h5 e;simp at this
   exact UI B b l.length l w (.inr ⟨g,cap,h1,h2,by omega,fun e=>h4 (by rw[e];rfl),(h2.lt g rfl).2,by omega⟩) rfl hl
def GQ(b:Nat)(w w':Ab):Prop:=∀k cs t z,w.heap[k]?=some (.cells cs t z)->t≠5->k≠b->w'.heap[k]?=some (.cells cs t z)
theorem Cs{W:Ab}{b:Nat}{o:Obj}(h:W.heap[b]?=some o):b<W.heap.size:=(As.1 h).1
theorem GQ.refl(b:Nat)(w:Ab):GQ b w w:=fun _ _ _ _ h _ _=>h
theorem GQ.trans{b:Nat}{w w1 w2:Ab}(h:GQ b w w1)(h':GQ b w1 w2):GQ b w w2:=fun k cs t z hk ht hb=>h' k cs t z (h k cs t z hk ht hb) ht hb
theorem GQ.of{b:Nat}{w w':Ab}(h:Blw w w'):GQ b w w':=fun k cs t z hk _ _=>(h.block k (Cs hk)).trans hk
theorem bQ{b B n:Nat}{w w2:Ab}{v:Ao}{bs:List Ao}(hown:w.ownsRow B 5 1 v n bs)(hg:w.grownBy w2 v.ownBlock):GQ b w w2:=by
 intro k cs t z hk ht hkb;have hne:some k≠v.ownBlock:=by
  intro e;obtain⟨_,hc|⟨g,cap,cur,hv,_,hg',_⟩⟩:=hown
  ·rw[hc.1]at e;simp[Bm]at e
  ·rw[hv]at e;have e2:k=g:=by simpa[Bm] using e
   subst e2;rw[hg']at hk;injection hk with hk
   injection hk with _ hk _
   exact ht hk.symm
 exact(hg.block k (Cs hk) hne).trans hk
theorem Zb{b i:Nat}{w:Ab}{x:Ao}:GQ b w (w.setCell ⟨b,i,none⟩ x):=fun k cs t z hk _ hb=>(Ar _ _ _ _ hb).trans hk
theorem bS{B e k n:Nat}{v:Ao}{xs:List Ao}{w w':Ab}(h:w.ownsRow B e k v n xs)(hb:Blw w w'):w'.ownsRow B e k v n xs:=
 h.kept (row:=none) ⟨hb.os,hb.tape,hb.output,hb.size,fun j hj _=>hb.block j hj⟩ (by cases v.ownBlock with|none=>exact .inl rfl|some j=>exact .inr (by simp))
theorem G2.go{B b:Nat}{bs:List Ao}{w w':Ab}(h:G2 B w b bs)(hb:Blw w w'):G2 B w' b bs:=by
 obtain⟨h,e⟩|⟨v,g1,g2,g3,g4⟩:=h
 ·exact .inl ⟨h.same (hb.block _ h.lt),e⟩
 ·exact .inr ⟨v,g1.same (hb.block _ g1.lt),bS g2 hb,g3,g4⟩
theorem G2.at{B b:Nat}{bs:List Ao}{w:Ab}(h:G2 B w b bs):∃p v,w.heap[b]?=some (.cells #[p,v] 65 (0,0)):=by
 obtain⟨h,e⟩|⟨v,g1,g2,g3,g4⟩:=h
 ·exact⟨_,_,h⟩
 ·exact⟨_,_,g1⟩
theorem pN(B b:Nat)(bs:List Ao)(w:Ab)(h:G2 B w b bs)(hB:B<=b) :
  Ag Aa 93 #[.pointer (some ⟨b,0,none⟩)] w fun e w'=>e=.returned (.tuple #[])/\Hid (GW B w' b bs/\Below B w w'/\GQ b w w'):=by
 obtain⟨h1,rfl⟩|⟨v,h1,h3,h4⟩:=h
 ·refine(Jz b _ w h1).mono ?_;rintro e w' ⟨rfl,rfl⟩;refine⟨rfl,⟨.slice none 0 0,?_,World.ownsRow_nil _ _ _ _,by simp[Bm],fun _=>rfl⟩,(Ae _ _).setCell hB _,Zb⟩;have:=AD h1 0 (.pointer (some ⟨b,0,none⟩));simpa[BB] using this
 ·refine(Lg b v w h1).mono ?_;rintro e w' ⟨rfl,rfl⟩;exact⟨rfl,⟨v,h1,h3,h4⟩,Ae _ _,GQ.refl _ _⟩
theorem wP(B b:Nat)(bs:List Ao)(s:ByteArray)(w:Ab)(h:G2 B w b bs)(hB:B<=b)(hl:bs.length+s.size<=140737488355328) :
  Ag Aa 57 #[.pointer (some ⟨b,0,none⟩),.string s] w fun e w'=>e=.returned (.tuple #[.int .i64 s.size,.nilIface])/\Hid (GW B w' b (bs++Ak s.data.toList)/\Below B w w'/\GQ b w w'):=by
 have HG:Hid (G2 B w b bs):=h;have hcl:(Ak s.data.toList).length=s.size:=by rw[Dr];rfl
 have HCL:Hid ((Ak s.data.toList).length=s.size):=hcl;clear h hcl;go_enter Tryz.func57,Tryz.ntmps57;go_wp2_with fail;refine(pN B b bs _ HG.out hB).mono ?_;rintro e w1 ⟨rfl,H1⟩;obtain⟨v,h1,h2,h4,h5⟩:=H1.out.1;have HV:Hid (bs=[]->v=.slice none 0 0):=h5;clear h5;have HB1:Hid (Below B w w1/\GQ b w w1):=H1.out.2;have HB:Hid (BB w1 b (.pointer (some ⟨b,0,none⟩)) v/\w1.ownsRow B 5 1 v bs.length bs):=⟨h1,h2⟩;have c1:=h1.c1;have hlt:=h1.lt;clear h1 h2 H1 HG;obtain⟨i5,hi,hz0,hz1,hz2⟩:=PT Tryz.info5;have HI:Hid (Aa.info? 5=some i5/\i5.zero=some (.int .u8 0)/\i5.size=1/\i5.bytes=1):=⟨hi,hz0,hz1,hz2⟩;clear hi hz0 hz1 hz2;go_wp2_with (at_builtin;refine Lib.wpList_append_own_string _ rfl _ _ 39 9 rfl B 5 i5 AI AK HI.out.1 HI.out.2.1 HI.out.2.2.1 HI.out.2.2.2 v bs.length bs rfl HB.out.2 s rfl (by simp only[Gi];omega) (by omega) (by omega) ?_;intro v' w2 hown2 hgr2 hnil;obtain⟨ao,cc,rfl⟩:=Kj hown2;have hbk:Hid (w2.heap[b]?=w1.heap[b]?):=(hgr2.block b hlt (fun e=>h4 e.symm));have d1:=(HB.out.1.same hbk.out).c1;have d2:=(HB.out.1.same hbk.out).fz 1;have HG2:Hid (w1.grownBy w2 v.ownBlock/\w2.ownsRow B 5 1 (.slice ao (bs.length+s.size) cc) (bs.length+s.size) (bs++Ak s.data.toList)):=⟨hgr2,by rw[<- Ma];exact hown2⟩;have HNIL:Hid (Ce ao (bs.length+s.size) cc=.slice none 0 0↔v=.slice none 0 0/\s.size=0):=hnil;clear hown2 hgr2 hnil);go_ret2;have hb2:=HB.out.1.same hbk.out;have hrow:∀g,v.ownBlock=some g->B<=g:=fun g hg=>(HB.out.2.lt g hg).1
 have hbel:Below B w1 w2:=(Ae B w1).grown HG2.out.1 (by omega) hrow;have hne:(Ce ao (bs.length+s.size) cc).ownBlock≠some b:=by
  intro e;obtain⟨_,hc|⟨g,cap,cur,hv,_,hg,_⟩⟩:=HG2.out.2
  ·rw[hc.1]at e;simp[Bm]at e
  ·rw[hv]at e;have e2:g=b:=by simpa[Bm] using e
   rw[e2]at hg;have hb3:w2.heap[b]?=_:=hb2;rw[hb3]at hg;injection hg with hg
   injection hg with _ hg _
   exact absurd hg (by decide)
 refine⟨rfl,⟨.slice ao (bs.length+s.size) cc,?_,?_,hne,fun e=>HNIL.out.2 ⟨HV.out (IA.1 e).1,by have:=HCL.out;rw[(IA.1 e).2]at this;exact this.symm⟩⟩,HB1.out.1.trans (hbel.setCell hB _),HB1.out.2.trans ((bQ HB.out.2 HG2.out.1).trans Zb)⟩
 ·have:=AD hb2 1 (.slice ao (bs.length+s.size) cc);simpa[BB] using this
 ·have:=Qe HG2.out.2 hne 1 (.slice ao (bs.length+s.size) cc);rw[Af,HCL.out];exact this
def DF(ss:List ByteArray):List UInt8:=ss.flatMap fun s=>s.data.toList
theorem dH(ss:List ByteArray)(k:Nat)(h:k<ss.length):DF (ss.take (k+1))=DF (ss.take k)++ss[k].data.toList:=by
 unfold DF;rw[AH h,Dm];simp
theorem qE(ss:List ByteArray)(k:Nat):(DF (ss.take k)).length<=(DF ss).length:=by
 have e:DF ss=DF (ss.take k)++DF (ss.drop k):=by
  unfold DF;rw[<- Dm,BE]
 rw[e,Af];omega
theorem Yf(a b:List UInt8):Ak (a++b)=Ak a++Ak b:=by simp[Ak]
def PcT(w:Ab)(P o:Nat)(ss:List ByteArray):Prop:=∃cs z,w.heap[P]?=some (.cells cs 9 z)/\∀i (h:i<ss.length),w.cell? ⟨P,o+i,none⟩=some (.string ss[i])
theorem PcT.off{w w':Ab}{P o b:Nat}{ss:List ByteArray}(h:PcT w P o ss)(ho:GQ b w w')(hP:P≠b):PcT w' P o ss:=by
 obtain⟨cs,z,h1,h2⟩:=h;have h3:=ho P cs 9 z h1 (by decide) hP;refine⟨cs,z,h3,fun i hi=>?_⟩;rw[<- h2 i hi];unfold Az;rw[h1,h3]
theorem PcT.new(w:Ab)(ss:List ByteArray):PcT (w.alloc (.cells (tv ss).toArray 9)) w.heap.size 0 ss:=by
 refine⟨_,_,Au _ _,fun i hi=>?_⟩;unfold Az;rw[Au];simp[tv,hi]
theorem PcT.lt{w:Ab}{P o:Nat}{ss:List ByteArray}(h:PcT w P o ss):P<w.heap.size:=by
 obtain⟨cs,z,h1,_⟩:=h;exact Cs h1
theorem SW(B b P o n:Nat)(l:List UInt8)(ss:List ByteArray)(w:Ab)(h:G2 B w b (Ak l))(hB:B<=b)(hP:PcT w P o ss)(hn:ss.length=n)(hn2:n<=1000)(hl:l.length+(DF ss).length<=140737488355328) :
  Ag Aa 64 #[.pointer (some ⟨b,0,none⟩),.slice (some ⟨P,o,none⟩) n n] w fun e w'=>e=.returned (.tuple #[])/\Hid (G2 B w' b (Ak (l++DF ss))/\Below B w w'/\GQ b w w'):=by
 have hPb:P≠b:=by
  rintro rfl;obtain⟨p,v,hb⟩:=h.at;obtain⟨cs,z,h1,_⟩:=hP;rw[h1]at hb;injection hb with hb
  injection hb with _ hb _
  exact absurd hb (by decide)
 have HH:Hid (G2 B w b (Ak l)/\PcT w P o ss/\ss.length=n/\P≠b):=⟨h,hP,hn,hPb⟩;have HZ:Hid (∀k,l.length+(DF (ss.take k)).length<=140737488355328):=fun k=>by have:=qE ss k;omega
 obtain⟨C,hC⟩:∃C,DF ss=C:=⟨_,rfl⟩;have HC:Hid (DF ss=C):=hC;rw[hC];clear h hP hn hPb hl hC;go_enter Tryz.func64,Tryz.ntmps64;go_wp2_with fail;go_loopw [8] (fun x wr=>∃k:Nat,k<=n/\x=.int .i64 k/\Hid (G2 B wr b (Ak (l++DF (ss.take k)))/\Below B w wr/\GQ b w wr)) (fun x _=>n - (intOf x).toNat)
 case atStart=>exact⟨0,Aw _,rfl,by simpa[DF] using HH.out.1,Ae _ _,GQ.refl _ _⟩
 case round=>
  obtain⟨k,hk,rfl,HI⟩:=hrel;by_cases hlt:k<n
  ·have hlt':(k:Int)<(n:Int):=by omega
   have hks:k<ss.length:=by rw[HH.out.2.2.1];exact hlt
   have hpc:=HH.out.2.1.off HI.out.2.2 HH.out.2.2.2;have hpl:=hpc.lt;obtain⟨cs,z,p1,p2⟩:=hpc;have c1:=p2 k hks;have HS:Hid (DF (ss.take (k+1))=DF (ss.take k)++ss[k].data.toList):=dH ss k hks;have KW:=Ac (fun W (hW:G2 B W b (Ak (l++DF (ss.take k))))=>wP B b (Ak (l++DF (ss.take k))) ss[k] W hW hB (by
    have h1:=HZ.out (k+1);rw[HS.out]at h1;rw[Dr,Af];have e:ss[k].data.toList.length=ss[k].size:=rfl;simp only[Af]at h1;omega))
   rw[<- Yf,AR,<- HS.out]at KW;clear p1 p2 HS;generalize ss[k]=s at*;go_wp2_with fail;refine(KW.out _ HI.out.1).mono ?_;rintro e w3 ⟨rfl,H3⟩;go_wp2_with fail;exact⟨⟨k+1,by omega,by go_num,.inr H3.out.1,HI.out.2.1.trans H3.out.2.1,HI.out.2.2.trans H3.out.2.2⟩,by simp[intOf];omega⟩
  ·have hge:¬ (k:Int)<(n:Int):=by omega
   have e:DF (ss.take k)=C:=by rw[<- HC.out,Al (by rw[HH.out.2.2.1];omega)]
   rw[e]at HI;clear e;go_wp2_with fail
   go_end0
   exact⟨rfl,HI.out⟩
end Go.Proofs.YtoppdmlmhigogaaGreatDoor
namespace Go.Proofs.YtoppdmlmhigogaaGreatDoor
abbrev WdZ:=ByteArray × Bool
structure En where
 line:Int
 blank:Bool
 ws:List WdZ
def isB(c:UInt8):Bool:=c == 32 || c == 9 || c == 13
def DJ(c:UInt8):Bool:=isB c || c == 10 || c == 59 || c == 40 || c == 41
structure Cf where
 st:Nat
 line:Nat
 op:Nat
 cur:List UInt8
 el:Int
 bl:Bool
 ws:List WdZ
 es:List En
def GF(q:Cf)(w:WdZ):Cf:={ q with cur:=w.1.data.toList,el:=if q.ws.isEmpty then q.line else q.el,ws:=q.ws++[w] }
def EV(q:Cf)(b:Bool):Option Cf:=if q.ws.length=64 then none else some (GF q (⟨q.cur.toArray⟩,b))
def BP(q:Cf):Cf:={ q with es:=if q.ws.isEmpty then q.es else q.es++[⟨q.el,q.bl,q.ws⟩] }
def LY(r:List UInt8):Bool:=match r with|[]=>false|c::_=>isB c
def DV(q:Cf)(r:List UInt8):Cf:={ q with el:=0,bl:=LY r,ws:=[] }
def JG(q:Cf)(c:UInt8)(r:List UInt8):Option Cf:=
 if c=59 then some { q with st:=6 }
 else if c=40 then some { q with st:=0,op:=q.op+1 }
 else if c=41 then(if q.op=0 then none else some { q with st:=0,op:=q.op - 1 })
 else if c=10 then(if q.op=0 then some (DV (BP { q with st:=0,line:=q.line+1 }) r) else some { q with st:=0,line:=q.line+1 })
 else some { q with st:=0 }
inductive Rs where
 |er (e:Nat)
 |ok (q:Cf)
def EH(q:Cf)(c:UInt8)(r:List UInt8):Rs:=match JG q c r with|none=>.er 230|some q'=>.ok q'
def FG(q:Cf)(c:UInt8)(r:List UInt8):Rs:=
 if DJ c then EH q c r
 else if c=34 then .ok { q with st:=3,cur:=[] }
 else if c=92 then .ok { q with st:=2,cur:=[c] }
 else .ok { q with st:=1,cur:=[c] }
def Hw(q:Cf)(c:UInt8)(r:List UInt8):Rs:=
 if DJ c then(match EV q false with|none=>.er 3|some q'=>EH q' c r)
 else if c=34 then .er 230
 else if c=92 then .ok { q with st:=2,cur:=q.cur++[c] }
 else .ok { q with st:=1,cur:=q.cur++[c] }
def Ht(q:Cf)(c:UInt8):Rs:=
 if c=34 then(match EV q true with|none=>.er 3|some q'=>.ok { q' with st:=5 })
 else if c=92 then .ok { q with st:=4,cur:=q.cur++[c] }
 else .ok { q with st:=3,cur:=q.cur++[c] }
def Bt(q:Cf)(c:UInt8)(r:List UInt8):Rs:=
 if c=10/\(q.st=3∨q.st=2∨q.st=4) then .er 230
 else if q.st=0 then FG q c r
 else if q.st=1 then Hw q c r
 else if q.st=2 then .ok { q with st:=1,cur:=q.cur++[c] }
 else if q.st=3 then Ht q c
 else if q.st=4 then .ok { q with st:=3,cur:=q.cur++[c] }
 else if q.st=5 then(if DJ c then EH q c r else .er 230)
 else(if c=10 then EH q c r else .ok q)
inductive Rt where
 |er (e:Nat) (line:Nat)
 |ok (es:List En)
def MU(L:Nat)(q:Cf):Rt:=
 if q.st=3∨q.st=2∨q.st=4 then .er 230 L
 else if q.st=1 then(match EV q false with|none=>.er 3 q.line|some q'=>if 0<q'.op then .er 230 L else .ok (BP q').es)
 else if 0<q.op then .er 230 L else .ok (BP q).es
def goF(L:Nat):Cf->List UInt8->Rt
 |q,[]=>MU L q
 |q,c::r=>match Bt q c r with | .er e=>.er e q.line | .ok q'=>goF L q' r
def EU:List UInt8->Nat
 |[]=>0
 |c::r=>(if c=10 then 1 else 0)+EU r
def Ca(s:List UInt8):Nat:=EU s+(if s.getLast?=none∨s.getLast?=some 10 then 0 else 1)
def q0(s:List UInt8):Cf:=⟨0,1,0,[],0,LY s,[],[]⟩
def Fa(s:List UInt8):Rt:=if 65536<s.length then .er 3 0 else goF (Ca s) (q0 s) s
def GH(w:WdZ):List UInt8:=if w.2 then 34::(w.1.data.toList++[34]) else w.1.data.toList
def bwS:Bool->List UInt8->Bool
 |e,[]=>!e
 |true,c::r=>c != 10 && bwS false r
 |false,c::r=>if c=92 then bwS true r else !DJ c && c != 34 && bwS false r
def qwS:Bool->List UInt8->Bool
 |e,[]=>!e
 |true,c::r=>c != 10 && qwS false r
 |false,c::r=>if c=92 then qwS true r else c != 10 && c != 34 && qwS false r
def CM(w:WdZ):Bool:=if w.2 then qwS false w.1.data.toList else !w.1.data.toList.isEmpty && bwS false w.1.data.toList
theorem LS{c:UInt8}(h:DJ c=false):c≠10/\c≠59/\c≠40/\c≠41/\isB c=false:=by
 simp[DJ]at h;exact⟨h.1.1.1.2,h.1.1.2,h.1.2,h.2,h.1.1.1.1⟩
theorem Ri(b:ByteArray):(⟨b.data.toList.toArray⟩:ByteArray)=b:=by cases b;simp
theorem go_bare(L:Nat)(t:List UInt8):∀(e:Bool) (q:Cf) (r:List UInt8),q.st=(if e then 2 else 1)->bwS e t=true->goF L q (t++r)=goF L { q with st:=1,cur:=q.cur++t } r:=by
 induction t with
 |nil=>
  intro e q r h hb;cases e with
  |true=>simp[bwS]at hb
  |false=>simp at h;simp[<- h]
 |cons c t ih=>
  intro e q r h hb;cases e with
  |true=>
   simp only[bwS,AA,bne_iff_ne,ne_eq]at hb;simp at h;have hs:Bt q c (t++r)=.ok { q with st:=1,cur:=q.cur++[c] }:=by simp[Bt,h,hb.1]
   rw[Ay,goF,hs];simp only;rw[ih false _ r (by simp) hb.2];simp
  |false=>
   simp at h;by_cases h92:c=92
   ·subst h92;simp only[bwS,if_true]at hb;have hs:Bt q 92 (t++r)=.ok { q with st:=2,cur:=q.cur++[92] }:=by simp[Bt,Hw,h,show DJ 92=false from by decide]
    rw[Ay,goF,hs];simp only;rw[ih true _ r (by simp) hb];simp
   ·simp only[bwS,if_neg h92,AA,bne_iff_ne,ne_eq,Mv]at hb;have hs:Bt q c (t++r)=.ok { q with st:=1,cur:=q.cur++[c] }:=by simp[Bt,Hw,h,hb.1.1,hb.1.2,h92]
    rw[Ay,goF,hs];simp only;rw[ih false _ r (by simp) hb.2];simp
theorem go_quot(L:Nat)(t:List UInt8):∀(e:Bool) (q:Cf) (r:List UInt8),q.st=(if e then 4 else 3)->qwS e t=true->goF L q (t++r)=goF L { q with st:=3,cur:=q.cur++t } r:=by
 induction t with
 |nil=>
  intro e q r h hb;cases e with
  |true=>simp[qwS]at hb
  |false=>simp at h;simp[<- h]
 |cons c t ih=>
  intro e q r h hb;cases e with
  |true=>
   simp only[qwS,AA,bne_iff_ne,ne_eq]at hb;simp at h;have hs:Bt q c (t++r)=.ok { q with st:=3,cur:=q.cur++[c] }:=by simp[Bt,h,hb.1]
   rw[Ay,goF,hs];simp only;rw[ih false _ r (by simp) hb.2];simp
  |false=>
   simp at h;by_cases h92:c=92
   ·subst h92;simp only[qwS,if_true]at hb;have hs:Bt q 92 (t++r)=.ok { q with st:=4,cur:=q.cur++[92] }:=by simp[Bt,Ht,h]
    rw[Ay,goF,hs];simp only;rw[ih true _ r (by simp) hb];simp
   ·simp only[qwS,if_neg h92,AA,bne_iff_ne,ne_eq]at hb;have hs:Bt q c (t++r)=.ok { q with st:=3,cur:=q.cur++[c] }:=by simp[Bt,Ht,h,hb.1.1,hb.1.2,h92]
    rw[Ay,goF,hs];simp only;rw[ih false _ r (by simp) hb.2];simp
theorem go_word(L:Nat)(w:WdZ)(q:Cf)(r:List UInt8)(hq:q.st=0)(hg:CM w=true)(hn:q.ws.length<64) :
  goF L q (GH w++r)=if w.2 then goF L { GF q w with st:=5 } r else goF L { q with st:=1,cur:=w.1.data.toList } r:=by
 obtain⟨b,k⟩:=w;cases k with
 |true=>
  simp only[CM,if_true]at hg;simp only[GH,if_true];have hs:Bt q 34 (b.data.toList++[34]++r)=.ok { q with st:=3,cur:=[] }:=by simp[Bt,FG,hq,show DJ 34=false from by decide]
  rw[Ay,goF,hs];simp only;rw[AR,go_quot L b.data.toList false _ _ (by simp) hg];simp only[AQ];rw[Ay,AQ,goF];have hs2:Bt { q with st:=3,cur:=b.data.toList } 34 r=.ok { GF q (b,true) with st:=5 }:=by
   simp[Bt,Ht,EV,show ¬ q.ws.length=64 by omega,GF,Ri]
  rw[hs2]
 |false=>
  simp only[CM,Bi,if_false,AA]at hg;simp only[GH,Bi,if_false];generalize b.data.toList=t at hg ⊢;cases t with
  |nil=>simp at hg
  |cons c t=>
   by_cases h92:c=92
   ·subst h92;have hb:bwS true t=true:=by simpa[bwS] using hg.2
    have hs:Bt q 92 (t++r)=.ok { q with st:=2,cur:=[92] }:=by simp[Bt,FG,hq,show DJ 92=false from by decide]
    rw[Ay,goF,hs];simp only;rw[go_bare L t true _ r (by simp) hb];simp
   ·have hb:=hg.2;simp only[bwS,if_neg h92,AA,bne_iff_ne,ne_eq,Mv]at hb;have hs:Bt q c (t++r)=.ok { q with st:=1,cur:=[c] }:=by simp[Bt,FG,hq,hb.1.1,hb.1.2,h92]
    rw[Ay,goF,hs];simp only;rw[go_bare L t false _ r (by simp) hb.2];simp
def bK(L:Nat)(q:Cf)(c:UInt8)(r:List UInt8):Rt:=match EH q c r with | .er e=>.er e q.line | .ok q'=>goF L q' r
theorem Un(q:Cf)(k:Nat)(c:UInt8)(r:List UInt8):JG { q with st:=k } c r=JG q c r:=by
 simp only[JG,DV,BP]
theorem go_word_end(L:Nat)(w:WdZ)(q:Cf)(c:UInt8)(r:List UInt8)(hq:q.st=0)(hg:CM w=true)(hn:q.ws.length<64)(hc:DJ c=true) :
  goF L q (GH w++c::r)=bK L (GF q w) c r:=by
 rw[go_word L w q _ hq hg hn];obtain⟨b,k⟩:=w;cases k with
 |true=>
  simp only[if_true];rw[goF];have hs:Bt { GF q (b,true) with st:=5 } c r=EH (GF q (b,true)) c r:=by
   simp[Bt,hc,EH,Un]
  rw[hs];rfl
 |false=>
  simp only[Bi,if_false];rw[goF];have hs:Bt { q with st:=1,cur:=b.data.toList } c r=EH (GF q (b,false)) c r:=by
   have e:({ GF { q with st:=1,cur:=b.data.toList } (⟨b.data.toList.toArray⟩,false) with st:=1 }:Cf)={ GF q (b,false) with st:=1 }:=by
    simp[GF,Ri]
   have e2:GF { q with st:=1,cur:=b.data.toList } (⟨b.data.toList.toArray⟩,false)={ GF q (b,false) with st:=1 }:=by
    simp[GF,Ri]
   simp only[Bt,Hw,hc,if_true,EV,show ¬ q.ws.length=64 by omega,if_false];rw[e2];simp[EH,Un]
  rw[hs];rfl
theorem Vs{w:WdZ}(hg:CM w=true):∃c r,GH w=c::r/\isB c=false:=by
 obtain⟨b,k⟩:=w;cases k with
 |true=>exact⟨34,_,rfl,by decide⟩
 |false=>
  simp only[CM,Bi,if_false,AA]at hg;simp only[GH,Bi,if_false];generalize b.data.toList=t at hg ⊢;cases t with
  |nil=>simp at hg
  |cons c t=>
   refine⟨c,t,rfl,?_⟩;by_cases h92:c=92
   ·subst h92;decide
   ·have hb:=hg.2;simp only[bwS,if_neg h92,AA,bne_iff_ne,ne_eq,Mv]at hb;exact(LS hb.1.1).2.2.2.2
def Gp:List WdZ->List UInt8
 |[]=>[]
 |[w]=>GH w
 |w::v::r=>GH w++32::Gp (v::r)
def Jb(e:En):List UInt8:=(if e.blank then[32] else[])++Gp e.ws++[10]
def GL(l:List En):List UInt8:=l.flatMap Jb
def GP(q:Cf):List WdZ->Cf
 |[]=>q
 |w::r=>GP (GF q w) r
theorem cW(ws:List WdZ):∀q,(GP q ws).st=q.st/\(GP q ws).op=q.op/\(GP q ws).line=q.line/\(GP q ws).bl=q.bl/\(GP q ws).es=q.es/\(GP q ws).ws=q.ws++ws/\(GP q ws).el=(if q.ws.isEmpty && !ws.isEmpty then(q.line:Int) else q.el):=by
 induction ws with
 |nil=>intro q;simp[GP]
 |cons w ws ih=>
  intro q;have:=ih (GF q w);simp only[GP];refine⟨this.1,this.2.1,this.2.2.1,this.2.2.2.1,this.2.2.2.2.1,by rw[this.2.2.2.2.2.1];simp[GF],?_⟩;rw[this.2.2.2.2.2.2];simp[GF]
theorem cD(L:Nat)(q:Cf)(r:List UInt8):bK L q 32 r=goF L { q with st:=0 } r:=by
 simp[bK,EH,JG]
theorem go_words(L:Nat)(ws:List WdZ):∀(q:Cf) (c:UInt8) (r:List UInt8),q.st=0->ws≠[]->(∀w∈ws,CM w=true)->q.ws.length+ws.length<=64->DJ c=true->
  goF L q (Gp ws++c::r)=bK L (GP q ws) c r:=by
 induction ws with
 |nil=>intro q c r _ h;exact absurd rfl h
 |cons w ws ih=>
  intro q c r hq _ hg hn hc;cases ws with
  |nil=>
   simp only[Gp,GP];exact go_word_end L w q c r hq (hg w (by simp)) (by simp at hn;omega) hc
  |cons v ws=>
   rw[Gp,AR,Ay,go_word_end L w q 32 _ hq (hg w (by simp)) (by simp at hn;omega) (by decide),cD];rw[ih { GF q w with st:=0 } c r rfl (by simp) (fun x hx=>hg x (by simp[hx])) (by simp[GF]at hn ⊢;omega) hc];have:({ GF q w with st:=0 }:Cf)=GF q w:=by cases q;simp[GF]at hq ⊢;exact hq.symm
   rw[this];rfl
def okE(e:En):Prop:=e.ws≠[]/\e.ws.length<=64/\∀w∈e.ws,CM w=true
def Ik(n:Nat)(cur:List UInt8)(b:Bool)(es:List En):Cf:=⟨0,n,0,cur,0,b,[],es⟩
theorem XI{e:En}(h:okE e)(r:List UInt8):LY (Jb e++r)=e.blank:=by
 unfold Jb;cases hb:e.blank with
 |true=>rfl
 |false=>
  obtain⟨h1,h2,h3⟩:=h;cases hw:e.ws with
  |nil=>exact absurd hw h1
  |cons w ws=>
   obtain⟨c,t,e1,e2⟩:=Vs (h3 w (by rw[hw];simp));cases ws with
   |nil=>simp[Gp,e1,LY,e2]
   |cons v ws=>simp[Gp,e1,LY,e2]
theorem qS(L:Nat)(q:Cf)(r:List UInt8)(h:q.op=0):bK L q 10 r=goF L (DV (BP { q with st:=0,line:=q.line+1 }) r) r:=by
 simp[bK,EH,JG,h]
theorem go_entry(L:Nat)(e:En)(n:Nat)(cur:List UInt8)(b:Bool)(es:List En)(r:List UInt8)(h:okE e)(hb:b=e.blank) :
  ∃cur',goF L (Ik n cur b es) (Jb e++r)=goF L (Ik (n+1) cur' (LY r) (es++[⟨n,e.blank,e.ws⟩])) r:=by
 subst hb;have hl:=List.length_pos_iff.2 h.1;have key:∀q:Cf,q.st=0->q.op=0->q.ws=[]->q.line=n->q.bl=e.blank->q.es=es->∃cur',goF L q (Gp e.ws++[10]++r)=goF L (Ik (n+1) cur' (LY r) (es++[⟨n,e.blank,e.ws⟩])) r:=by
  intro q h1 h2 h3 h4 h5 h6;have ha:=cW e.ws q;refine⟨(GP q e.ws).cur,?_⟩;rw[AR,Ay,AQ,go_words L e.ws q 10 r h1 h.1 h.2.2 (by rw[h3];simpa using h.2.1) (by decide),qS _ _ _ (by rw[ha.2.1,h2])];congr 1
  obtain⟨a1,a2,a3,a4,a5,a6,a7⟩:=ha;have hne:(q.ws++e.ws).isEmpty=false:=by rw[h3];cases hw:e.ws with|nil=>exact absurd hw h.1|cons=>rfl
  have hne2:e.ws.isEmpty=false:=by cases hw:e.ws with|nil=>exact absurd hw h.1|cons=>rfl
  simp[DV,BP,Ik,a2,a3,a4,a5,a6,a7,h1,h2,h3,h4,h5,h6,hne,hne2,h.1]
 cases hbl:e.blank with
 |false=>
  have:=key (Ik n cur e.blank es) rfl rfl rfl rfl rfl rfl;unfold Jb;rw[hbl]at this ⊢;simpa using this
 |true=>
  have:=key { (Ik n cur e.blank es) with st:=0 } rfl rfl rfl rfl rfl rfl;obtain⟨cur',hk⟩:=this;refine⟨cur',?_⟩;unfold Jb;rw[hbl]at hk ⊢;simp only[if_true,Ay,AQ];rw[goF];have hs:Bt (Ik n cur true es) 32 (Gp e.ws++[10]++r)=.ok (Ik n cur true es):=by
   simp[Bt,FG,Ik,show DJ 32=true from by decide,EH,JG]
  rw[hs];exact hk
def Hm:Nat->List En->List En
 |_,[]=>[]
 |n,e::r=>⟨n,e.blank,e.ws⟩::Hm (n+1) r
theorem go_entries(L:Nat)(l:List En):∀(n:Nat) (cur:List UInt8) (es:List En),(∀e∈l,okE e)->goF L (Ik n cur (LY (GL l)) es) (GL l)=.ok (es++Hm n l):=by
 induction l with
 |nil=>intro n cur es _;simp[GL,goF,MU,Ik,BP,Hm]
 |cons e l ih=>
  intro n cur es h;have he:=h e (by simp);have e1:GL (e::l)=Jb e++GL l:=by simp[GL]
  rw[e1,XI he];obtain⟨cur',hk⟩:=go_entry L e n cur e.blank es (GL l) he rfl;rw[hk,ih (n+1) cur' _ (fun x hx=>h x (by simp[hx]))];simp[Hm]
theorem SV(l:List En)(h:∀e∈l,okE e)(hs:(GL l).length<=65536):Fa (GL l)=.ok (Hm 1 l):=by
 unfold Fa;rw[if_neg (by omega)];have:=go_entries (Ca (GL l)) l 1 [] [] h;simpa[q0,Ik] using this
theorem NF(u v:List UInt8):∀e,bwS e u=true->bwS e (u++v)=bwS false v:=by
 induction u with
 |nil=>intro e h;cases e <;> simp[bwS]at h ⊢
 |cons c u ih=>
  intro e h;cases e with
  |true=>
   simp only[bwS,AA]at h;simp only[Ay,bwS,h.1,OE];exact ih _ h.2
  |false=>
   by_cases h92:c=92
   ·simp only[bwS,if_pos h92]at h;simp only[Ay,bwS,if_pos h92];exact ih _ h
   ·simp only[bwS,if_neg h92,AA]at h;simp only[Ay,bwS,if_neg h92,h.1.1,h.1.2,OE];exact ih _ h.2
theorem eG(u v:List UInt8):∀e,qwS e u=true->qwS e (u++v)=qwS false v:=by
 induction u with
 |nil=>intro e h;cases e <;> simp[qwS]at h ⊢
 |cons c u ih=>
  intro e h;cases e with
  |true=>
   simp only[qwS,AA]at h;simp only[Ay,qwS,h.1,OE];exact ih _ h.2
  |false=>
   by_cases h92:c=92
   ·simp only[qwS,if_pos h92]at h;simp only[Ay,qwS,if_pos h92];exact ih _ h
   ·simp only[qwS,if_neg h92,AA]at h;simp only[Ay,qwS,if_neg h92,h.1.1,h.1.2,OE];exact ih _ h.2
def MR(ws:List WdZ):Nat:=(ws.map fun w=>(GH w).length).sum
def MT(es:List En):Nat:=(es.map fun e=>MR e.ws).sum
theorem lQ(a b:List WdZ):MR (a++b)=MR a+MR b:=by simp[MR]
theorem kO(a b:List En):MT (a++b)=MT a+MT b:=by simp[MT]
def part(q:Cf):Nat:=if q.st=1∨q.st=2 then q.cur.length else if q.st=3∨q.st=4 then q.cur.length+1 else 0
structure Iv(q:Cf)(n:Nat):Prop where
 w1:∀w∈q.ws,CM w=true
 w2:q.ws.length<=64
 e1:∀e∈q.es,okE e
 c1:q.st=1->bwS false q.cur=true/\q.cur≠[]
 c2:q.st=2->∃u,q.cur=u++[92]/\bwS false u=true
 c3:q.st=3->qwS false q.cur=true
 c4:q.st=4->∃u,q.cur=u++[92]/\qwS false u=true
 sz:MT q.es+MR q.ws+part q<=n
theorem Iv.close{q:Cf}{n:Nat}(h:Iv q n):(∀e∈(BP q).es,okE e)/\MT (BP q).es<=MT q.es+MR q.ws:=by
 unfold BP;cases hw:q.ws with
 |nil=>simp;exact h.e1
 |cons w ws=>
  simp only[List.isEmpty_cons,Bi,if_false];refine⟨fun e he=>?_,by rw[kO];simp[MT]⟩;obtain he|he:=AG.1 he
  ·exact h.e1 e he
  ·simp at he;subst he;exact⟨by simp,by rw[<- hw];exact h.w2,by rw[<- hw];exact h.w1⟩
theorem Iv.out{q q':Cf}{n:Nat}{c:UInt8}{r:List UInt8}(h:Iv q n)(ho:JG q c r=some q'):Iv q' (n+1):=by
 have hz:MT q.es+MR q.ws<=n:=by have:=h.sz;omega
 have hs:∀(k o l:Nat),k=0∨k=6->Iv { q with st:=k,op:=o,line:=l } (n+1):=by
  intro k o l hk;refine⟨h.w1,h.w2,h.e1,?_,?_,?_,?_,?_⟩;all_goals try (obtain hk|hk:=hk <;> simp[hk])
  ·simp[part];omega
  ·simp[part];omega
 unfold JG at ho;split at ho
 ·cases ho;exact hs 6 _ _ (.inr rfl)
 ·split at ho
  ·cases ho;exact hs 0 _ _ (.inl rfl)
  ·split at ho
   ·split at ho
    ·cases ho
    ·cases ho;exact hs 0 _ _ (.inl rfl)
   ·split at ho
    ·split at ho
     ·cases ho;have hc:=(hs 0 q.op (q.line+1) (.inl rfl)).close;refine⟨by simp[DV],by simp[DV],hc.1,by simp[DV,BP],by simp[DV,BP],by simp[DV,BP],by simp[DV,BP],?_⟩;have:=hc.2;simp only[DV];show MT (BP _).es+MR []+part _<=n+1;simp[part,MR,BP]at this ⊢;simp[MR]at hz;omega
     ·cases ho;exact hs 0 _ _ (.inl rfl)
    ·cases ho;exact hs 0 _ _ (.inl rfl)
theorem Iv.keep{q q':Cf}{n:Nat}{b:Bool}(h:Iv q n)(hg:CM (⟨q.cur.toArray⟩,b)=true)(ho:EV q b=some q')(m:Nat)(hm:MT q.es+MR q.ws+(GH (⟨q.cur.toArray⟩,b)).length<=m)(k:Nat)(hk:k=0∨k=5):Iv { q' with st:=k } m:=by
 unfold EV at ho;split at ho
 ·cases ho
 ·rename_i hl
  cases ho;have h2:=h.w2;refine⟨?_,?_,h.e1,?_,?_,?_,?_,?_⟩
  ·intro w hw;simp only[GF]at hw;obtain hw|hw:=AG.1 hw
   ·exact h.w1 w hw
   ·simp at hw;subst hw;exact hg
  ·simp[GF];omega
  all_goals try (obtain hk|hk:=hk <;> simp[hk])
  all_goals
   simp only[GF,lQ,part];simp[MR]at hm ⊢;omega
theorem To{u:List UInt8}(h:bwS false u=true)(h0:u≠[]):CM (⟨u.toArray⟩,false)=true:=by
 simp[CM,h,h0]
theorem cA{u:List UInt8}(h:qwS false u=true):CM (⟨u.toArray⟩,true)=true:=by
 simp[CM,h]
theorem FU{q q':Cf}{c:UInt8}{r:List UInt8}(h:EH q c r=.ok q'):JG q c r=some q':=by
 unfold EH at h;split at h
 ·cases h
 ·rename_i x hx;cases h;exact hx
theorem Iv.step{q q':Cf}{n:Nat}{c:UInt8}{r:List UInt8}(h:Iv q n)(hs:Bt q c r=.ok q'):Iv q' (n+1):=by
 have hz:=h.sz;unfold Bt at hs;split at hs
 ·cases hs
 ·rename_i h10
  split at hs
  ·rename_i h0
   unfold FG at hs;split at hs
   ·exact h.out (FU hs)
   ·rename_i he
    have he':=LS (by simpa using he);split at hs
    ·cases hs;exact⟨h.w1,h.w2,h.e1,by simp,by simp,by simp[qwS],by simp,by simp[part,h0]at hz ⊢;omega⟩
    ·split at hs
     ·rename_i h92
      cases hs;exact⟨h.w1,h.w2,h.e1,by simp,fun _=>⟨[],by simp[h92],by simp[bwS]⟩,by simp,by simp,by simp[part,h0]at hz ⊢;omega⟩
     ·rename_i h34 h92
      cases hs;exact⟨h.w1,h.w2,h.e1,fun _=>⟨by simpa[bwS,h92,h34] using he,by simp⟩,by simp,by simp,by simp,by simp[part,h0]at hz ⊢;omega⟩
  ·split at hs
   ·rename_i h0 h1
    obtain⟨hb,hne⟩:=h.c1 h1;unfold Hw at hs;split at hs
    ·split at hs
     ·cases hs
     ·rename_i q1 hk
      have hI:=h.keep (To hb hne) hk n (by simp[part,h1]at hz;simp[GH];omega) 0 (.inl rfl);have:=hI.out (q':=q') (c:=c) (r:=r) (by rw[Un];exact FU hs);exact this
    ·rename_i he
     split at hs
     ·cases hs
     ·rename_i h34
      split at hs
      ·rename_i h92
       cases hs;exact⟨h.w1,h.w2,h.e1,by simp,fun _=>⟨q.cur,by simp[h92],hb⟩,by simp,by simp,by simp[part,h1]at hz ⊢;omega⟩
      ·rename_i h92
       cases hs;exact⟨h.w1,h.w2,h.e1,fun _=>⟨by rw[NF _ _ _ hb];simpa[bwS,h92,h34] using he,by simp⟩,by simp,by simp,by simp,by simp[part,h1]at hz ⊢;omega⟩
   ·split at hs
    ·rename_i h0 h1 h2
     obtain⟨u,hu,hb⟩:=h.c2 h2;cases hs;have h10':c≠10:=by intro e;exact h10 ⟨e,.inr (.inl h2)⟩
     exact⟨h.w1,h.w2,h.e1,fun _=>⟨by rw[hu,AR,NF _ _ _ hb];simp[bwS,h10'],by simp⟩,by simp,by simp,by simp,by simp[part,h2]at hz ⊢;omega⟩
    ·split at hs
     ·rename_i h0 h1 h2 h3
      have hb:=h.c3 h3;have h10':c≠10:=by intro e;exact h10 ⟨e,.inl h3⟩
      unfold Ht at hs;split at hs
      ·split at hs
       ·cases hs
       ·rename_i q1 hk
        cases hs;exact h.keep (cA hb) hk (n+1) (by simp[part,h3]at hz;simp[GH];omega) 5 (.inr rfl)
      ·rename_i h34
       split at hs
       ·rename_i h92
        cases hs;exact⟨h.w1,h.w2,h.e1,by simp,by simp,by simp,fun _=>⟨q.cur,by simp[h92],hb⟩,by simp[part,h3]at hz ⊢;omega⟩
       ·rename_i h92
        cases hs;exact⟨h.w1,h.w2,h.e1,by simp,by simp,fun _=>by rw[eG _ _ _ hb];simp[qwS,h92,h34,h10'],by simp,by simp[part,h3]at hz ⊢;omega⟩
     ·split at hs
      ·rename_i h0 h1 h2 h3 h4
       obtain⟨u,hu,hb⟩:=h.c4 h4;cases hs;have h10':c≠10:=by intro e;exact h10 ⟨e,.inr (.inr h4)⟩
       exact⟨h.w1,h.w2,h.e1,by simp,by simp,fun _=>by rw[hu,AR,eG _ _ _ hb];simp[qwS,h10'],by simp,by simp[part,h4]at hz ⊢;omega⟩
      ·split at hs
       ·split at hs
        ·exact h.out (FU hs)
        ·cases hs
       ·split at hs
        ·exact h.out (FU hs)
        ·rename_i h0 h1 h2 h3 h4 h5 _
         cases hs;exact⟨h.w1,h.w2,h.e1,h.c1,h.c2,h.c3,h.c4,by omega⟩
theorem Ow{q q':Cf}{b:Bool}(h:EV q b=some q'):q'.es=q.es/\q'.op=q.op/\q'.ws=q.ws++[(⟨q.cur.toArray⟩,b)]:=by
 unfold EV at h;split at h
 ·cases h
 ·cases h;simp[GF]
theorem Iv.fin{q:Cf}{n L:Nat}{es:List En}(h:Iv q n)(hs:MU L q=.ok es):(∀e∈es,okE e)/\MT es<=n:=by
 have hz:=h.sz;unfold MU at hs;split at hs
 ·cases hs
 ·split at hs
  ·rename_i h1
   obtain⟨hb,hne⟩:=h.c1 h1;split at hs
   ·cases hs
   ·rename_i q1 hk
    have hI:=h.keep (To hb hne) hk n (by simp[part,h1]at hz;simp[GH];omega) 0 (.inl rfl);split at hs
    ·cases hs
    ·cases hs;have hc:=hI.close;have hsz:=hI.sz;have e:(BP { q1 with st:=0 }).es=(BP q1).es:=rfl;rw[e]at hc;refine⟨hc.1,?_⟩;have:=hc.2;simp only at this hsz;omega
  ·split at hs
   ·cases hs
   ·cases hs;have hc:=h.close;exact⟨hc.1,by have:=hc.2;omega⟩
theorem Iv.go{L:Nat}(r:List UInt8):∀{q:Cf} {n:Nat} {es:List En},Iv q n->goF L q r=.ok es->(∀e∈es,okE e)/\MT es<=n+r.length:=by
 induction r with
 |nil=>intro q n es h hs;simpa using h.fin hs
 |cons c r ih=>
  intro q n es h hs;rw[goF]at hs;split at hs
  ·cases hs
  ·rename_i q1 h1
   have:=ih (h.step h1) hs;simp only[AP];exact⟨this.1,by omega⟩
theorem pD{s:List UInt8}{es:List En}(h:Fa s=.ok es):(∀e∈es,okE e)/\MT es<=s.length:=by
 unfold Fa at h;split at h
 ·cases h
 ·have:=Iv.go (n:=0) s (q:=q0 s) ⟨by simp[q0],by simp[q0],by simp[q0],by simp[q0],by simp[q0],by simp[q0],by simp[q0],by simp[q0,part,MT,MR]⟩ h;simpa using this
theorem Pj(a b:List UInt8):EU (a++b)=EU a+EU b:=by
 induction a with
 |nil=>simp[EU]
 |cons c a ih=>simp[EU,ih];omega
theorem WY{s:List UInt8}(h:s.getLast?=some 10):1<=EU s:=by
 obtain⟨t,rfl⟩:∃t,s=t++[10]:=by
  have:=List.getLast?_eq_some_iff.1 h;exact this
 rw[Pj];simp[EU]
theorem SE(p:List UInt8)(c:UInt8)(r:List UInt8):EU p+1<=Ca (p++c::r):=by
 unfold Ca;have hl:(p++c::r).getLast?=(c::r).getLast?:=by
  rw[List.getLast?_append];cases hx:(c::r).getLast? with
  |none=>simp at hx
  |some v=>rfl
 rw[Pj,hl];by_cases h:(c::r).getLast?=some 10
 ·have:=WY h;omega
 ·have h0:¬ (c::r).getLast?=none:=by simp
  rw[if_neg (by simp only[not_or];exact⟨h0,h⟩)];omega
theorem QT(s:List UInt8):Ca s<=s.length+1:=by
 have:∀l:List UInt8,EU l<=l.length:=by
  intro l;induction l with
  |nil=>simp[EU]
  |cons c l ih=>simp[EU];split <;> omega
 unfold Ca;have:=this s;split <;> omega
structure Lv(q:Cf)(p:List UInt8):Prop where
 ln:q.line=EU p+1
 nl:p.getLast?=some 10->q.st=0
 st:p=[]->q.st=0/\q.op=0
theorem Oq{q q':Cf}{c:UInt8}{r:List UInt8}(h:JG q c r=some q'):q'.line=q.line+(if c=10 then 1 else 0)/\(c=10->q'.st=0):=by
 unfold JG at h;split at h
 ·rename_i hc;cases h;subst hc;simp
 ·split at h
  ·rename_i hc;cases h;subst hc;simp
  ·split at h
   ·rename_i hc
    split at h
    ·cases h
    ·cases h;subst hc;simp
   ·split at h
    ·rename_i hc
     split at h
     ·cases h;subst hc;simp[DV,BP]
     ·cases h;subst hc;simp
    ·rename_i hc;cases h;simp[hc]
theorem Mx{q q':Cf}{b:Bool}(h:EV q b=some q'):q'.line=q.line:=by
 unfold EV at h;split at h
 ·cases h
 ·cases h;rfl
theorem aF{q q':Cf}{c:UInt8}{r:List UInt8}(hs:Bt q c r=.ok q'):q'.line=q.line+(if c=10 then 1 else 0)/\(c=10->q'.st=0):=by
 unfold Bt at hs;split at hs
 ·cases hs
 ·rename_i h10
  split at hs
  ·unfold FG at hs;split at hs
   ·exact Oq (FU hs)
   ·rename_i he
    have hc:=(LS (by simpa using he)).1;split at hs
    ·cases hs;simp[hc]
    ·split at hs
     ·cases hs;simp[hc]
     ·cases hs;simp[hc]
  ·split at hs
   ·unfold Hw at hs;split at hs
    ·split at hs
     ·cases hs
     ·rename_i q1 hk
      have:=Oq (FU hs);rw[Mx hk]at this;exact this
    ·rename_i he
     have hc:=(LS (by simpa using he)).1;split at hs
     ·cases hs
     ·split at hs
      ·cases hs;simp[hc]
      ·cases hs;simp[hc]
   ·split at hs
    ·rename_i h2
     have hc:¬ c=10:=fun e=>h10 ⟨e,.inr (.inl h2)⟩
     cases hs;simp[hc]
    ·split at hs
     ·rename_i h3
      have hc:¬ c=10:=fun e=>h10 ⟨e,.inl h3⟩
      unfold Ht at hs;split at hs
      ·split at hs
       ·cases hs
       ·rename_i q1 hk
        cases hs;simp[hc,Mx hk]
      ·split at hs
       ·cases hs;simp[hc]
       ·cases hs;simp[hc]
     ·split at hs
      ·rename_i h4
       have hc:¬ c=10:=fun e=>h10 ⟨e,.inr (.inr h4)⟩
       cases hs;simp[hc]
      ·split at hs
       ·split at hs
        ·exact Oq (FU hs)
        ·cases hs
       ·split at hs
        ·exact Oq (FU hs)
        ·rename_i hc;cases hs;simp[hc]
theorem Lv.step{q q':Cf}{p:List UInt8}{c:UInt8}{r:List UInt8}(h:Lv q p)(hs:Bt q c r=.ok q'):Lv q' (p++[c]):=by
 obtain⟨a,b⟩:=aF hs;refine⟨by rw[a,h.ln,Pj];simp[EU];omega,fun e=>?_,by simp⟩;simp at e;exact b e
theorem ZF{q:Cf}{c:UInt8}{r:List UInt8}{e:Nat}(hs:Bt q c r=.er e):e=230∨e=3:=by
 have ho:∀q,EH q c r=.er e->e=230:=by
  intro q h;unfold EH at h;split at h <;> cases h;rfl
 unfold Bt at hs;split at hs
 ·cases hs;exact .inl rfl
 ·split at hs
  ·unfold FG at hs;split at hs
   ·exact .inl (ho _ hs)
   ·split at hs
    ·cases hs
    ·split at hs <;> cases hs
  ·split at hs
   ·unfold Hw at hs;split at hs
    ·split at hs
     ·cases hs;exact .inr rfl
     ·exact .inl (ho _ hs)
    ·split at hs
     ·cases hs;exact .inl rfl
     ·split at hs <;> cases hs
   ·split at hs
    ·cases hs
    ·split at hs
     ·unfold Ht at hs;split at hs
      ·split at hs
       ·cases hs;exact .inr rfl
       ·cases hs
      ·split at hs <;> cases hs
     ·split at hs
      ·cases hs
      ·split at hs
       ·split at hs
        ·exact .inl (ho _ hs)
        ·cases hs;exact .inl rfl
       ·split at hs
        ·exact .inl (ho _ hs)
        ·cases hs
theorem go_er(s:List UInt8)(r:List UInt8):∀{q:Cf} {p:List UInt8} {e l:Nat},Lv q p->s=p++r->goF (Ca s) q r=.er e l->(e=230∨e=3)/\1<=l/\l<=Ca s:=by
 induction r with
 |nil=>
  intro q p e l h hs hg;rw[List.append_nil]at hs;subst hs;have hne:∀(hx:s≠[]),1<=Ca s:=by
   intro hx;cases s with
   |nil=>exact absurd rfl hx
   |cons c r=>have:=SE [] c r;simpa[EU] using this
  rw[goF]at hg;unfold MU at hg;split at hg
  ·rename_i hq
   cases hg;exact⟨.inl rfl,hne (fun e=>by have:=(h.st e).1;omega),Ad _⟩
  ·split at hg
   ·rename_i h1
    have hx:s≠[]:=fun e=>by have:=(h.st e).1;omega
    split at hg
    ·cases hg;refine⟨.inr rfl,by rw[h.ln];omega,?_⟩;rw[h.ln];unfold Ca;rw[if_neg]
     ·omega
     ·simp only[not_or];exact⟨by simpa using hx,fun e=>by have:=h.nl e;omega⟩
    ·split at hg
     ·cases hg;exact⟨.inl rfl,hne hx,Ad _⟩
     ·cases hg
   ·split at hg
    ·rename_i h0
     cases hg;exact⟨.inl rfl,hne (fun e=>by have:=(h.st e).2;omega),Ad _⟩
    ·cases hg
 |cons c r ih=>
  intro q p e l h hs hg;rw[goF]at hg;split at hg
  ·rename_i e1 h1
   cases hg;have:=SE p c r;rw[<- hs]at this;rw[h.ln];exact⟨ZF h1,by omega,this⟩
  ·rename_i q1 h1
   exact ih (h.step h1) (by rw[hs];simp) hg
theorem Yp{s:List UInt8}{e l:Nat}(hl:s.length<=65536)(h:Fa s=.er e l):(e=230∨e=3)/\1<=l/\l<=Ca s:=by
 unfold Fa at h;rw[if_neg (by omega)]at h;exact go_er s s (q:=q0 s) (p:=[]) ⟨by simp[q0,EU],by simp,by simp[q0]⟩ (by simp) h
end Go.Proofs.YtoppdmlmhigogaaGreatDoor
namespace Go.Proofs.YtoppdmlmhigogaaGreatDoor
open Go.ChangeShapes Go.WideShapes Go.ChangeAt Go.RowKit Go.Sort
theorem rX(l:List UInt8):lb (bi l)=⟨l.toArray⟩:=by
 unfold lb txt bi;congr 1
 rw[Fq];congr 1
 conv=>rhs;rw[<- List.map_id l]
 apply ED
 intro b _;simp
theorem Xo(n:Nat):(⟨(Bv n).toArray⟩:ByteArray)=lb (DR n):=by rw[<- tW,rX]
theorem Pa(n:Nat):Ai (lb (DR n))=DR n:=IZ n
theorem nK(n:Nat):∀c∈Dn n,0<=c/\c<=255:=fun c hc=>by have:=YG n c hc;unfold xok at this;omega
theorem TI(n:Nat):Ai (lb (Dn n))=Dn n:=Ed _ (nK n)
theorem Gb(c:Int)(ps:List (List Int))(M:Nat)(h:∀p∈ps,p.length<=M):(Dj c ps).length<=ps.length*(M+1):=by
 induction ps with
 |nil=>simp[Dj]
 |cons p ps ih=>
  have h1:=h p (by simp);have h2:=ih (fun q hq=>h q (Dw _ hq));cases ps with
  |nil=>simp[Dj];omega
  |cons q ps=>
   simp only[Dj,Af,AP]at h2 ⊢;rw[Nat.add_mul (ps.length+1) 1 (M+1)];omega
theorem Qh(n:Nat)(h:n<256):(DR n).length<=3:=by
 by_cases h1:n<10
 ·rw[DC h1];simp
 ·rw[Gm h1];by_cases h2:n / 10<10
  ·rw[DC h2];simp
  ·rw[Gm h2,DC (by omega)];simp
def sht(zs:List Int):List ByteArray:=zs.map fun z=>lb (DR z.toNat)
theorem fU(zs:List Int)(z:Int):sht (zs++[z])=sht zs++[lb (DR z.toNat)]:=by simp[sht]
theorem WE(zs:List Int):(sht zs).map Ai=zs.map fun z=>DR z.toNat:=by
 unfold sht;rw[Fq];apply ED
 intro z _;exact Pa _
def Du(l:List Nat):List Ao:=l.map fun(n:Nat)=>AL .u16 (n:Int)
def hxt(l:List Nat):List ByteArray:=l.map fun n=>lb (Dn n)
theorem eT(l:List Nat)(n:Nat):hxt (l++[n])=hxt l++[lb (Dn n)]:=by simp[hxt]
theorem Va(l:List Nat):(hxt l).map Ai=l.map Dn:=by
 unfold hxt;rw[Fq];apply ED
 intro z _;exact TI _
theorem RO(l:List Nat)(k:Nat)(h:k<l.length):l.take (k+1)=l.take k++[l[k]]:=by rw[List.take_add_one,AF h];rfl
theorem Si(sep:UInt8)(ao:Option Addr)(n c:Nat)(ss:List ByteArray)(w:Ab)(hr:RdT w ao ss)(hl:ss.length=n)(hc:n<=c)(hn:n<=1000000000)(hz:(Dj sep.toNat (ss.map Ai)).length<=140737488355328) :
  Ag Aa 113 #[.slice ao n c,.string ⟨#[sep]⟩] w fun e w'=>e=.returned (.string (lb (Dj sep.toNat (ss.map Ai))))/\Hid (Blw w w'):=by
 have hj:bi (Lib.join (ss.map (·.data.toList)) [sep])=Dj sep.toNat (ss.map Ai):=by
  rw[vS,Fq];rfl
 subst hl;cases ss with
 |nil=>
  refine(Tryz.strings_Join_none ao c ⟨#[sep]⟩ w).mono ?_;rintro e w' ⟨rfl,rfl⟩;exact⟨rfl,Ae _ _⟩
 |cons s ss=>
  obtain⟨b,o,rfl,hb,_⟩:=hr.at 0 (by simp);refine(Tryz.strings_Join b o c (s::ss) ⟨#[sep]⟩ w (fun j x hx=>?_) hb (by omega) hc (by rw[<- OW];show(bi (Lib.join _ [sep])).length<=_;rw[hj];exact hz)).mono ?_
  ·obtain⟨hj1,hj2⟩:=EC.1 hx;obtain⟨b',o',e,_,hcell⟩:=hr.at j hj1;injection e with e
   injection e with e1 e2
   subst e1;subst e2;rw[hcell,hj2]
  ·rintro e w' ⟨rfl,hbel⟩;refine⟨?_,hbel⟩;rw[<- hj,rX]
theorem bV(a:Option Addr)(n c:Nat)(zs:List Int)(w:Ab)(hr:Rd w a zs)(hl:zs.length=n)(hn:n<=1000)(hL:Bk w) :
  Ag Aa 203 #[.slice a n c] w fun e w'=>e=.returned (.string (lb (Dj 46 (zs.map fun z=>DR z.toNat))))/\Hid (Blw w w'):=by
 have HR:Hid (Rd w a zs):=hr;have HLn:Hid (zs.length=n):=hl;have HL:Hid (Bk w):=hL;clear hr hl hL;go_enter Tryz.func203,Tryz.ntmps203;go_wp2_with fail;go_loopw [3,8] (fun v x wr=>∃k:Nat,k<=n/\x=.int .i64 k/\Hid (∃ys,BF w.heap.size wr v k ys 1000/\ys.take k=sht (zs.take k))/\Hid (Blw w wr)) (fun _ x _=>n - (intOf x).toNat)
 case atStart=>exact⟨0,Aw _,rfl,⟨[],BF.nil _ _ _,rfl⟩,Ae _ _⟩
 case round=>
  obtain⟨k,hk,rfl,HW,HB⟩:=hrel;by_cases hlt:k<n
  ·have hlt':(k:Int)<(n:Int):=by omega
   have hkz:k<zs.length:=by rw[HLn.out];exact hlt
   have hbd:=HR.out.bd k;have HT:Hid (sht (zs.take (k+1))=sht (zs.take k)++[lb (DR (zs.getD k 0).toNat)]):=by show _=_;rw[Kf zs k hkz,fU]
   obtain⟨b,o,rfl,hb,hc⟩:∃b o,a=some ⟨b,o,none⟩/\b<wr.heap.size/\wr.cell? ⟨b,o+k,none⟩=some (.int .u8 (zs.getD k 0)):=by
    obtain h1|⟨b,o,h1,h2,h3⟩:=(HR.out.below HB.out).1
    ·rw[h1]at hkz;simp at hkz
    ·exact⟨b,o,h1,h2,h3 k hkz⟩
   obtain⟨u,hu⟩:∃u:Nat,zs.getD k 0=(u:Int):=⟨(zs.getD k 0).toNat,by omega⟩;rw[hu]at hc HT hbd;simp only[BM]at HT;clear hu;have hsz:(lb (DR u)).size<=1000:=by have:=Qh u (by omega);rw[<- Av,Pa];omega
   have K:=Ac (fun W hW=>Ou u (by omega) W hW);rw[Xo u]at K;generalize lb (DR u)=f at*;go_wp2_with fail;refine(K.out _ (HL.out.below HB.out)).mono ?_;rintro e w2 ⟨rfl,H2⟩;obtain⟨ys,hO,hT⟩:=HW.out;have hnb:Blw w2 (w2.alloc (.cells #[.string f] 9)):=(Ae _ _).alloc (Ad _) _;have HO2:Hid (BF w.heap.size (w2.alloc (.cells #[.string f] 9)) u3 k ys 1000/\ys.take k=sht (zs.take k)):=⟨(hO.below H2.out).below hnb,hT⟩;have HNB:Hid (Blw w2 (w2.alloc (.cells #[.string f] 9))):=hnb;have HB3:Hid (Blw w w2):=HB.out.trans (H2.out.mono HB.out.size);clear hO hT hnb HW H2 HB;go_wp2_with (at_builtin;refine BA tyT _ rfl _ _ 22 9 Dy rfl w.heap.size _ k ys 1000 rfl HO2.out.1 (some ⟨w2.heap.size,0,none⟩) 1 1 [f] rfl (EN w2 f) rfl (by intro s hs;simp at hs;subst hs;exact hsz) (by omega) (Aj HB3.out.size HNB.out.size) ?_;intro v' w' ys' hO' hT' hG');have hrow:=HO2.out.1.1.lt;refine⟨⟨k+1,by omega,by go_num,⟨ys',hO'.out,?_⟩,?_⟩,by simp[intOf];omega⟩
   ·rw[hT'.out,HO2.out.2,HT.out]
   ·exact(HB3.out.trans (HNB.out.mono HB3.out.size)).grown hG' (Aj HB3.out.size HNB.out.size) hrow
  ·have hge:¬ (k:Int)<(n:Int):=by omega
   have hkn:k=n:=by omega
   subst hkn;obtain⟨ys,hO,hT⟩:=HW.out;obtain⟨ao,rfl,hnil⟩:=hO.shape;have hle:=hO.le;have HJ:Hid (Ag Aa 113 #[.slice ao k ys.length,.string ⟨#[46]⟩] wr fun e w'=>e=.returned (.string (lb (Dj 46 (zs.map fun z=>DR z.toNat))))/\Hid (Blw wr w')):=by
    have ht:zs.take k=zs:=Al (by rw[HLn.out];exact Ad _);have hr:=hO.rd k;rw[hT,ht]at hr;have hlen:(sht zs).length=k:=by unfold sht;rw[AS,HLn.out]
    have hm:=Gb 46 ((sht zs).map Ai) 3 (by
     rw[WE];intro p hp;obtain⟨z,hz,rfl⟩:=AY.1 hp;have:=HR.out.2 z hz;exact Qh _ (by omega))
    rw[AS,hlen]at hm;have:=Si 46 ao k ys.length (sht zs) wr hr hlen hle.1 (by omega) (by show(Dj 46 _).length<=_;omega);rw[WE]at this;exact this
   clear hO hT HW hnil hle;generalize ys.length=yl at*;obtain⟨R,hR⟩:∃R,lb (Dj 46 (zs.map fun z=>DR z.toNat))=R:=⟨_,rfl⟩;have HRR:Hid (lb (Dj 46 (zs.map fun z=>DR z.toNat))=R):=hR;rw[hR]at HJ;clear hR;go_wp2_with fail;refine HJ.out.mono ?_;rintro e w2 ⟨rfl,H2⟩;have HB3:Hid (Blw w w2):=HB.out.trans (H2.out.mono HB.out.size);go_wp2_with fail;go_ret;exact⟨by rw[HRR.out];rfl,HB3.out⟩
theorem Nx(a:Option Addr)(n c:Nat)(l:List Nat)(w:Ab)(hr:RdV w a (Du l))(hl:l.length=n)(hn:n<=8)(hb:∀x∈l,x<65536)(hL:Bk w) :
  Ag Aa 219 #[.slice a n c] w fun e w'=>e=.returned (.string (lb (Ev l)))/\Hid (Blw w w'):=by
 have HR:Hid (RdV w a (Du l)):=hr;have HLn:Hid (l.length=n/\∀x∈l,x<65536):=⟨hl,hb⟩;have HL:Hid (Bk w):=hL;clear hr hl hL hb;go_enter Tryz.func219,Tryz.ntmps219;go_wp2_with fail;go_loopw [3,8] (fun v x wr=>∃k:Nat,k<=n/\x=.int .i64 k/\Hid (∃ys,BF w.heap.size wr v k ys 1000/\ys.take k=hxt (l.take k))/\Hid (Blw w wr)) (fun _ x _=>n - (intOf x).toNat)
 case atStart=>exact⟨0,Aw _,rfl,⟨[],BF.nil _ _ _,rfl⟩,Ae _ _⟩
 case round=>
  obtain⟨k,hk,rfl,HW,HB⟩:=hrel;by_cases hlt:k<n
  ·have hlt':(k:Int)<(n:Int):=by omega
   have hkz:k<l.length:=by rw[HLn.out.1];exact hlt
   have hu:l[k]<65536:=HLn.out.2 _ (AU hkz);have HT:Hid (hxt (l.take (k+1))=hxt (l.take k)++[lb (Dn l[k])]):=by show _=_;rw[RO l k hkz,eT]
   obtain⟨b,o,rfl,hb,hc⟩:∃b o,a=some ⟨b,o,none⟩/\b<wr.heap.size/\wr.cell? ⟨b,o+k,none⟩=some (.int .u16 (l[k]:Int)):=by
    obtain h1|⟨b,o,h1,h2,h3⟩:=HR.out.below HB.out
    ·have h9:(Du l).length=0:=by rw[h1];rfl
     simp only[Du,AS]at h9;omega
    ·refine⟨b,o,h1,h2,?_⟩;have:=h3 k (by simp[Du];exact hkz);rw[this];simp[Du]
   generalize l[k]=u at*;have hsz:(lb (Dn u)).size<=1000:=by have:=JW u hu;rw[<- Av,TI];omega
   have K:=Ac (fun W hW=>wC u hu W hW);generalize lb (Dn u)=f at*;have hu':(u:Int)<65536:=by omega
   go_wp2_with fail;refine(K.out _ (HL.out.below HB.out)).mono ?_;rintro e w2 ⟨rfl,H2⟩;obtain⟨ys,hO,hT⟩:=HW.out;have hnb:Blw w2 (w2.alloc (.cells #[.string f] 9)):=(Ae _ _).alloc (Ad _) _;have HO2:Hid (BF w.heap.size (w2.alloc (.cells #[.string f] 9)) u3 k ys 1000/\ys.take k=hxt (l.take k)):=⟨(hO.below H2.out).below hnb,hT⟩;have HNB:Hid (Blw w2 (w2.alloc (.cells #[.string f] 9))):=hnb;have HB3:Hid (Blw w w2):=HB.out.trans (H2.out.mono HB.out.size);clear hO hT hnb HW H2 HB;go_wp2_with (at_builtin;refine BA tyT _ rfl _ _ 22 9 Dy rfl w.heap.size _ k ys 1000 rfl HO2.out.1 (some ⟨w2.heap.size,0,none⟩) 1 1 [f] rfl (EN w2 f) rfl (by intro s hs;simp at hs;subst hs;exact hsz) (by omega) (Aj HB3.out.size HNB.out.size) ?_;intro v' w' ys' hO' hT' hG');have hrow:=HO2.out.1.1.lt;refine⟨⟨k+1,by omega,by go_num,⟨ys',hO'.out,?_⟩,?_⟩,by simp[intOf];omega⟩
   ·rw[hT'.out,HO2.out.2,HT.out]
   ·exact(HB3.out.trans (HNB.out.mono HB3.out.size)).grown hG' (Aj HB3.out.size HNB.out.size) hrow
  ·have hge:¬ (k:Int)<(n:Int):=by omega
   have hkn:k=n:=by omega
   subst hkn;obtain⟨ys,hO,hT⟩:=HW.out;obtain⟨ao,rfl,hnil⟩:=hO.shape;have hle:=hO.le;have HJ:Hid (Ag Aa 113 #[.slice ao k ys.length,.string ⟨#[58]⟩] wr fun e w'=>e=.returned (.string (lb (Ev l)))/\Hid (Blw wr w')):=by
    have ht:l.take k=l:=Al (by rw[HLn.out.1];exact Ad _);have hr:=hO.rd k;rw[hT,ht]at hr;have hlen:(hxt l).length=k:=by unfold hxt;rw[AS,HLn.out.1]
    have hm:=Gb 58 ((hxt l).map Ai) 4 (by
     rw[Va];intro p hp;obtain⟨z,hz,rfl⟩:=AY.1 hp;exact(JW _ (HLn.out.2 z hz)).2)
    rw[AS,hlen]at hm;have:=Si 58 ao k ys.length (hxt l) wr hr hlen hle.1 (by omega) (by show(Dj 58 _).length<=_;omega);rw[Va]at this;exact this
   clear hO hT HW hnil hle;generalize ys.length=yl at*;obtain⟨R,hR⟩:∃R,lb (Ev l)=R:=⟨_,rfl⟩;have HRR:Hid (lb (Ev l)=R):=hR;rw[hR]at HJ;clear hR;go_wp2_with fail;refine HJ.out.mono ?_;rintro e w2 ⟨rfl,H2⟩;have HB3:Hid (Blw w w2):=HB.out.trans (H2.out.mono HB.out.size);go_wp2_with fail;go_ret;exact⟨by rw[HRR.out];rfl,HB3.out⟩
theorem mM(l:List Nat)(h8:l.length=8)(w:Ab) :
  Ag Aa 218 #[.agg (Du l).toArray] w fun e w'=>e=.returned (.tuple #[.int .i64 ((DT l 8).1:Int),.int .i64 ((DT l 8).2.1:Int)])/\Hid (Blw w w'):=by
 match l,h8 with
 |[a0,a1,a2,a3,a4,a5,a6,a7],_=>
  obtain⟨L,hL⟩:∃L,L=[a0,a1,a2,a3,a4,a5,a6,a7]:=⟨_,rfl⟩;have H8:Hid (L.length=8):=by show _=_;rw[hL];rfl
  have HV:Hid (Co (w.alloc (.cells #[.int .u16 (a0:Int),.int .u16 (a1:Int),.int .u16 (a2:Int),.int .u16 (a3:Int),.int .u16 (a4:Int),.int .u16 (a5:Int),.int .u16 (a6:Int),.int .u16 (a7:Int)] 249)) w.heap.size 249 (Du L)/\Blw w (w.alloc (.cells #[.int .u16 (a0:Int),.int .u16 (a1:Int),.int .u16 (a2:Int),.int .u16 (a3:Int),.int .u16 (a4:Int),.int .u16 (a5:Int),.int .u16 (a6:Int),.int .u16 (a7:Int)] 249))):=by
   refine⟨?_,(Ae _ _).alloc (Ad _) _⟩;rw[hL];exact Au _ _
  rw[<- hL];have HLL:=Ac hL;clear hL;have e0:(Du L).toArray=#[.int .u16 (a0:Int),.int .u16 (a1:Int),.int .u16 (a2:Int),.int .u16 (a3:Int),.int .u16 (a4:Int),.int .u16 (a5:Int),.int .u16 (a6:Int),.int .u16 (a7:Int)]:=by rw[HLL.out];rfl
  rw[e0];clear e0;go_enter Tryz.func218,Tryz.ntmps218;go_wp2_with fail;generalize (w.alloc (.cells #[.int .u16 (a0:Int),.int .u16 (a1:Int),.int .u16 (a2:Int),.int .u16 (a3:Int),.int .u16 (a4:Int),.int .u16 (a5:Int),.int .u16 (a6:Int),.int .u16 (a7:Int)] 249))=wa at*;go_loopw [4,5,6,7] (fun x y z v wr=>∃(k f t m:Nat),k<=8/\x=.int .i64 (f:Int)/\y=.int .i64 (t:Int)/\z=.int .i64 (m:Int)/\v=.int .i64 (k:Int)/\Hid (DT L k=(f,t,m))/\Hid (Co wr w.heap.size 249 (Du L)/\Blw w wr)) (fun _ _ _ v _=>8 - (intOf v).toNat)
  case atStart=>exact⟨0,0,0,0,by omega,rfl,rfl,rfl,rfl,rfl,HV⟩
  case round=>
   obtain⟨k,f,t,m,hk,rfl,rfl,rfl,rfl,HR,HW⟩:=hrel;have hok:=WC L k;rw[HR.out]at hok;simp only at hok;obtain⟨o1,o2,o3⟩:=hok;by_cases hlt:k<8
   ·have hlt':(k:Int)<8:=by omega
    have hkl:k<L.length:=by rw[H8.out];exact hlt
    have hc:=HW.out.1.cell k (by simp[Du];exact hkl);have hcv:(Du L)[k]'(by simp[Du];exact hkl)=.int .u16 ((L[k]:Nat):Int):=by simp[Du]
    rw[hcv]at hc;clear hcv;have HS:Hid (DT L (k+1)=PL L (f,t,m) k):=by show _=_;rw[RF,HR.out]
    have hgd:L.getD k 0=L[k]:=by rw[Am,AF hkl];rfl
    have HS2:Hid (DT L (k+1)=if max 1 (t - f)<k+1 - (if L[k]≠0 then k+1 else m) then((if L[k]≠0 then k+1 else m),k+1,(if L[k]≠0 then k+1 else m)) else(f,t,(if L[k]≠0 then k+1 else m))):=by
     show _=_;rw[HS.out];unfold PL;rw[hgd]
    clear HS hgd;generalize L[k]=q at*;by_cases hq:q=0
    ·subst hq;simp only[ne_eq,not_true,if_false]at HS2;by_cases hm:1<=t - f
     ·have hmx:max (1:Nat) (t - f)=t - f:=Nat.max_eq_right hm;rw[hmx]at HS2;have hm':(1:Int)<=(t:Int) - (f:Int):=by omega
      by_cases hg:t - f<k+1 - m
      ·rw[if_pos hg]at HS2;have hg':(t:Int) - (f:Int)<(k:Int)+1 - (m:Int):=by omega
       go_wp2_with fail
       all_goals first
        |exact⟨⟨k+1,m,k+1,m,by omega,rfl,by go_num,rfl,by go_num,HS2,HW⟩,by simp[intOf];omega⟩
        |(exfalso;omega)
      ·rw[if_neg hg]at HS2;have hg':¬ (t:Int) - (f:Int)<(k:Int)+1 - (m:Int):=by omega
       go_wp2_with fail
       all_goals first
        |exact⟨⟨k+1,f,t,m,by omega,rfl,rfl,rfl,by go_num,HS2,HW⟩,by simp[intOf];omega⟩
        |(exfalso;omega)
     ·have hmx:max (1:Nat) (t - f)=1:=Nat.max_eq_left (by omega);rw[hmx]at HS2;have hm':(t:Int) - (f:Int)<1:=by omega
      by_cases hg:1<k+1 - m
      ·rw[if_pos hg]at HS2;have hg':(1:Int)<(k:Int)+1 - (m:Int):=by omega
       go_wp2_with fail
       all_goals first
        |exact⟨⟨k+1,m,k+1,m,by omega,rfl,by go_num,rfl,by go_num,HS2,HW⟩,by simp[intOf];omega⟩
        |(exfalso;omega)
      ·rw[if_neg hg]at HS2;have hg':¬ (1:Int)<(k:Int)+1 - (m:Int):=by omega
       go_wp2_with fail
       all_goals first
        |exact⟨⟨k+1,f,t,m,by omega,rfl,rfl,rfl,by go_num,HS2,HW⟩,by simp[intOf];omega⟩
        |(exfalso;omega)
    ·have hq':¬ (q:Int)=0:=by omega
     have hq2:((q:Int) != 0)=true:=by simp;omega
     simp only[ne_eq,hq,not_false_eq_true,if_true,Nat.sub_self]at HS2;rw[if_neg (by omega)]at HS2;go_wp2_with fail
     all_goals first
      |exact⟨⟨k+1,f,t,k+1,by omega,rfl,rfl,by go_num,by go_num,HS2,HW⟩,by simp[intOf];omega⟩
      |(exfalso;omega)
   ·have hge:¬ (k:Int)<8:=by omega
    have hk8:k=8:=by omega
    subst hk8;go_wp2_with fail;go_ret2;exact⟨by rw[HR.out];rfl,HW.out.2⟩
theorem or8(x y:Int)(hx:0<=x/\x<=255)(hy:0<=y/\y<=255):bits .or .u16 (x*256) y=x*256+y:=by
 obtain⟨a,rfl⟩:∃a:Nat,x=(a:Int):=⟨x.toNat,by omega⟩;obtain⟨b,rfl⟩:∃b:Nat,y=(b:Int):=⟨y.toNat,by omega⟩;have h:=u16_or ((a:Int)*256) (b:Int) (by omega) (by omega) (by omega) (by omega);rw[h];have e1:((a:Int)*256).toNat=a <<< 8:=by rw[Nat.shiftLeft_eq];omega
 have e2:((b:Int)).toNat=b:=by omega
 rw[e1,e2,<- Nat.shiftLeft_add_eq_or_of_lt (show b<2 ^ 8 by omega),Nat.shiftLeft_eq];omega
theorem Za:∀(k:Nat) (zs:List Int),2*k+1<zs.length->(Hr zs)[k]?=some (256*(zs.getD (2*k) 0).toNat+(zs.getD (2*k+1) 0).toNat)
 |0,a::b::l,_=>by simp[Hr]
 |k+1,a::b::l,h=>by
  have:=Za k l (by simp at h;omega);simp only[Hr,List.getElem?_cons_succ,this];rw[show 2*(k+1)=2*k+1+1 by omega,show 2*k+1+1+1=(2*k+1)+1+1 by omega]
  rfl
 |0,[],h=>by simp at h
 |0,[a],h=>by simp at h
 |k+1,[],h=>by simp at h
 |k+1,[a],h=>by simp at h
def NG(l:List Nat)(k:Nat):List Nat:=l.take k++AM (8 - k) 0
theorem jR(l:List Nat)(k:Nat)(h8:l.length=8)(hk:k<=8):(NG l k).length=8:=by simp[NG];omega
theorem fV(l:List Nat)(k:Nat)(h8:l.length=8)(hk:k<8):(Du (NG l k)).set k (.int .u16 ((l[k]'(by omega):Nat):Int))=Du (NG l (k+1)):=by
 unfold Du;have e:(NG l k).set k (l[k]'(by omega))=NG l (k+1):=by
  unfold NG;rw[List.set_append_right _ _ (by simp;omega)];rw[show 8 - k=(8 - (k+1))+1 by omega,Kl];simp only[CC];rw[show k - min k l.length=0 by omega,List.set_cons_zero,RO l k (by omega),AR]
  rfl
 rw[<- e,List.map_set]
theorem yX(g k:Nat)(hk:k<=8)(W:Ab):(Instr.sliceAt 249 (.pointer (some ⟨g,0,none⟩)) none (some (.int .i64 (k:Int))) none).run Aa W=.ok (.slice (some ⟨g,0,none⟩) k 8) W:=by
 have hal:Aa.arrayLen 249=8:=by kernel_rfl
 rw[run_sliceAt_array_h W 249 ⟨g,0,none⟩ (by simp[LA,PX,Pz]) .i64 (k:Int) (by omega) (by rw[hal];omega)]
 go_simp
theorem xZ(g k:Nat)(hk:k<=8):∃ta,(∀W,(Instr.sliceAt 249 (.pointer (some ⟨g,0,none⟩)) (some (.int .i64 (k:Int))) none none).run Aa W=.ok (.slice ta (8 - k) (8 - k)) W)/\((ta=some ⟨g,k,none⟩/\k<8)∨(ta=some ⟨g,0,none⟩/\k=8)):=by
 have hal:Aa.arrayLen 249=8:=by kernel_rfl
 by_cases h8:k=8
 ·subst h8;refine⟨_,fun W=>?_,.inr ⟨rfl,rfl⟩⟩;rw[run_sliceAt_array_l W 249 ⟨g,0,none⟩ (by simp[LA,PX,Pz]) .i64 ((8:Nat):Int) (by omega) (by rw[hal];omega)]
  go_simp
 ·refine⟨_,fun W=>?_,.inl ⟨rfl,by omega⟩⟩;rw[run_sliceAt_array_l W 249 ⟨g,0,none⟩ (by simp[LA,PX,Pz]) .i64 (k:Int) (by omega) (by rw[hal];omega)]
  go_simp
  omega
theorem bL(a:Option Addr)(c:Nat)(zs:List Int)(w:Ab)(hr:Rd w a zs)(hl:zs.length=16)(hL:Bk w) :
  Ag Aa 204 #[.slice a 16 c] w fun e w'=>e=.returned (.string (lb (xa6 (Hr zs))))/\Hid (Blw w w'):=by
 have HR:Hid (Rd w a zs):=hr;have HLn:Hid (zs.length=16):=hl;have HL:Hid (Bk w):=hL;have hbz:=hr.2;obtain⟨i1,i2,i3⟩:=Qg zs 8 (by omega) hbz;have HX:Hid ((Hr zs).length=8/\(∀n∈Hr zs,n<65536)/\∀k,k<8->(Hr zs)[k]?=some (256*(zs.getD (2*k) 0).toNat+(zs.getD (2*k+1) 0).toNat)):=⟨i1,i3,fun k hk=>Za k zs (by omega)⟩;clear i1 i2 i3 hbz hr hl hL;obtain⟨b,o,rfl,hb⟩:∃b o,a=some ⟨b,o,none⟩/\b<w.heap.size:=by
  obtain h1|⟨b,o,h1,h2,h3⟩:=HR.out.1
  ·have:=HLn.out;rw[h1]at this;simp at this
  ·exact⟨b,o,h1,h2⟩
 generalize Hr zs=L at*;have H0:Hid (Co (w.alloc (.cells #[.int .u16 0,.int .u16 0,.int .u16 0,.int .u16 0,.int .u16 0,.int .u16 0,.int .u16 0,.int .u16 0] 249)) w.heap.size 249 (Du (NG L 0))/\Blw w (w.alloc (.cells #[.int .u16 0,.int .u16 0,.int .u16 0,.int .u16 0,.int .u16 0,.int .u16 0,.int .u16 0,.int .u16 0] 249))):=⟨by
  have e:Du (NG L 0)=#[.int .u16 0,.int .u16 0,.int .u16 0,.int .u16 0,.int .u16 0,.int .u16 0,.int .u16 0,.int .u16 0].toList:=by simp[NG,Du,AM]
  unfold Co;rw[e];exact Au _ _,(Ae _ _).alloc (Ad _) _⟩
 go_enter Tryz.func204,Tryz.ntmps204;go_wp2_with fail;generalize (w.alloc (.cells #[.int .u16 0,.int .u16 0,.int .u16 0,.int .u16 0,.int .u16 0,.int .u16 0,.int .u16 0,.int .u16 0] 249))=wa at*;go_loopw [7] (fun x wr=>∃k:Nat,k<=8/\x=.int .i64 k/\Hid (Co wr w.heap.size 249 (Du (NG L k))/\Blw w wr)) (fun x _=>8 - (intOf x).toNat)
 case atStart=>exact⟨0,by omega,rfl,H0⟩
 case round=>
  obtain⟨k,hk,rfl,HW⟩:=hrel;clear H0;by_cases hlt:k<8
  ·have hlt':(k:Int)<8:=by omega
   have hR:=HR.out.below HW.out.2;have hrd:∀i,i<16->wr.cell? ⟨b,o+i,none⟩=some (.int .u8 (zs.getD i 0)):=by
    intro i hi;obtain h1|⟨b',o',h1,h2,h3⟩:=hR.1
    ·have:=HLn.out;rw[h1]at this;simp at this
    ·injection h1 with h1
     injection h1 with e1 e2
     subst e1;subst e2;exact h3 i (by rw[HLn.out];exact hi)
   have hc1:=hrd (2*k) (by omega);have hc2:=hrd (2*k+1) (by omega);have hb1:=hR.bd (2*k);have hb2:=hR.bd (2*k+1);have hkl:k<L.length:=by rw[HX.out.1];exact hlt
   have hv:((L[k]:Nat):Int)=zs.getD (2*k) 0*256+zs.getD (2*k+1) 0:=by
    have:=HX.out.2.2 k hlt;rw[AF hkl]at this;injection this with this
    rw[this];omega
   have HST:Hid ((Du (NG L k)).set k (.int .u16 (zs.getD (2*k) 0*256+zs.getD (2*k+1) 0))=Du (NG L (k+1))):=by
    show _=_;rw[<- hv];exact fV L k HX.out.1 hlt
   have hlen:k<(Du (NG L k)).length:=by unfold Du;rw[AS,jR L k HX.out.1 (by omega)];exact hlt
   have hc3:=HW.out.1.cell k hlen;have hf3:=HW.out.1.frozen k;generalize (Du (NG L k))[k]=c0 at hc3;clear hrd hR hv;generalize zs.getD (2*k) 0=x at*;generalize zs.getD (2*k+1) 0=y at*;have hor:=or8 x y hb1 hb2;have hw1:IntKind.u16.wrap (x*256)=x*256:=by rw[IntKind.wrap_u16];omega
   go_wp2_with fail
   go_region
   go_wp2;refine⟨⟨k+1,by omega,by go_num,?_,?_⟩,by simp[intOf];omega⟩
   ·have:=HW.out.1.stored k (.int .u16 (x*256+y));rw[HST.out]at this;exact this
   ·exact(HW.out.2.setCell (show w.heap.size<=(⟨w.heap.size,k,none⟩:Addr).block from Ad _) _).drew
  ·have hge:¬ (k:Int)<8:=by omega
   have hk8:k=8:=by omega
   subst hk8;obtain⟨a0,a1,a2,a3,a4,a5,a6,a7,rfl⟩:∃a0 a1 a2 a3 a4 a5 a6 a7,L=[a0,a1,a2,a3,a4,a5,a6,a7]:=by
    have:=HX.out.1;match L,this with
    |[a0,a1,a2,a3,a4,a5,a6,a7],_=>exact⟨a0,a1,a2,a3,a4,a5,a6,a7,rfl⟩
   have HV:Hid (Co wr w.heap.size 249 (Du [a0,a1,a2,a3,a4,a5,a6,a7])):=HW.out.1;have HB:Hid (Blw w wr):=HW.out.2;have d0:wr.cell? ⟨w.heap.size,0,none⟩=some (.int .u16 (a0:Int)):=HV.out.cell 0 (by simp[Du]);have d1:wr.cell? ⟨w.heap.size,1,none⟩=some (.int .u16 (a1:Int)):=HV.out.cell 1 (by simp[Du]);have d2:wr.cell? ⟨w.heap.size,2,none⟩=some (.int .u16 (a2:Int)):=HV.out.cell 2 (by simp[Du]);have d3:wr.cell? ⟨w.heap.size,3,none⟩=some (.int .u16 (a3:Int)):=HV.out.cell 3 (by simp[Du]);have d4:wr.cell? ⟨w.heap.size,4,none⟩=some (.int .u16 (a4:Int)):=HV.out.cell 4 (by simp[Du]);have d5:wr.cell? ⟨w.heap.size,5,none⟩=some (.int .u16 (a5:Int)):=HV.out.cell 5 (by simp[Du]);have d6:wr.cell? ⟨w.heap.size,6,none⟩=some (.int .u16 (a6:Int)):=HV.out.cell 6 (by simp[Du]);have d7:wr.cell? ⟨w.heap.size,7,none⟩=some (.int .u16 (a7:Int)):=HV.out.cell 7 (by simp[Du]);have K:=Ac (show Ag Aa 218 #[.agg #[.int .u16 (a0:Int),.int .u16 (a1:Int),.int .u16 (a2:Int),.int .u16 (a3:Int),.int .u16 (a4:Int),.int .u16 (a5:Int),.int .u16 (a6:Int),.int .u16 (a7:Int)]] wr _ from mM [a0,a1,a2,a3,a4,a5,a6,a7] rfl wr);have hok:=WC [a0,a1,a2,a3,a4,a5,a6,a7] 8;have HA6:=Ac (lZ [a0,a1,a2,a3,a4,a5,a6,a7] rfl);have HBD:=Ac HX.out.2.1;obtain⟨f,hf⟩:∃f,(DT [a0,a1,a2,a3,a4,a5,a6,a7] 8).1=f:=⟨_,rfl⟩;obtain⟨t,ht⟩:∃t,(DT [a0,a1,a2,a3,a4,a5,a6,a7] 8).2.1=t:=⟨_,rfl⟩;rw[hf,ht]at K HA6 hok;obtain⟨o1,o2,-⟩:=hok;clear hf ht HW HX HR HLn;obtain⟨M,hM⟩:∃M,M=[a0,a1,a2,a3,a4,a5,a6,a7]:=⟨_,rfl⟩
   rw[<- hM]at HA6 HBD HV;have HM:Hid (M.length=8/\M=[a0,a1,a2,a3,a4,a5,a6,a7]):=⟨by rw[hM];rfl,hM⟩;clear hM;go_wp2_with fail;refine K.out.mono ?_;rintro e w1 ⟨rfl,H1⟩;have HV1:=Ac (HV.out.below H1.out);have HB1:=Ac (HB.out.trans (H1.out.mono HB.out.size));have HL1:=Ac (HL.out.below HB1.out);clear d0 d1 d2 d3 d4 d5 d6 d7 K HV H1 HB HL;by_cases hft:f=t
   ·subst hft;have KJ:=Ac (Nx (some ⟨w.heap.size,0,none⟩) 8 8 M w1 (by have:=HV1.out.rd 8;rw[Al (by simp[Du,HM.out.1])]at this;exact this) HM.out.1 (by omega) HBD.out HL1.out);have HE:Hid (xa6 [a0,a1,a2,a3,a4,a5,a6,a7]=Ev M):=by rw[<- HM.out.2];exact HA6.out.1 rfl
    clear HV1 HL1 HA6 HBD;go_wp2_with fail;refine KJ.out.mono ?_;rintro e w2 ⟨rfl,H2⟩;have HB2:=Ac (HB1.out.trans (H2.out.mono HB1.out.size));go_wp2_with fail;go_ret;exact⟨by rw[HE.out];rfl,HB2.out⟩
   ·have hft':¬ (f:Int)=(t:Int):=by omega
    have hft2:((f:Int) == (t:Int))=false:=by rw[beq_eq_false_iff_ne];exact hft'
    have HE:Hid (xa6 [a0,a1,a2,a3,a4,a5,a6,a7]=Ev (M.take f)++58::58::Ev (M.drop t)):=by rw[<- HM.out.2];exact HA6.out.2 hft
    clear HA6;have f8:(f:Int)<=8:=by omega
    have t8:(t:Int)<=8:=by omega
    have hcl:∀l:List Nat,(∀n∈l,n<65536)->l.length<=8->(lb (Ev l)).size<=100:=by
     intro l h1 h2;have h3:(Ev l).length<=l.length*5:=by
      have:=Gb 58 (l.map Dn) 4 (by
       intro p hp;obtain⟨z,hz,rfl⟩:=AY.1 hp;exact(JW _ (h1 z hz)).2)
      rw[AS]at this;exact this
     have:(lb (Ev l)).size=(Ev l).length:=by rw[<- Av,Ed _ (fun c hc=>by have:=Qr l c hc;unfold xok at this;omega)]
     omega
    have hM8:=HM.out.1;obtain⟨r1,hr1⟩:∃r,lb (Ev (M.take f))=r:=⟨_,rfl⟩;obtain⟨r2,hr2⟩:∃r,lb (Ev (M.drop t))=r:=⟨_,rfl⟩;have z1:r1.size<=100:=by rw[<- hr1];exact hcl _ (fun n hn=>HBD.out n (Be hn)) (by simp;omega)
    have z2:r2.size<=100:=by rw[<- hr2];exact hcl _ (fun n hn=>HBD.out n (CT hn)) (by simp;omega)
    have HRR:Hid (lb (Ev (M.take f))=r1/\lb (Ev (M.drop t))=r2):=⟨hr1,hr2⟩;have hal:Aa.arrayLen 249=8:=by kernel_rfl
    have hs1:∀W,(Instr.sliceAt 249 (.pointer (some ⟨w.heap.size,0,none⟩)) none (some (.int .i64 (f:Int))) none).run Aa W=.ok (.slice (some ⟨w.heap.size,0,none⟩) f 8) W:=yX w.heap.size f (by omega);obtain⟨ta,hs2,hta⟩:=xZ w.heap.size t (by omega);have hkey:∀W,Co W w.heap.size 249 (Du M)->RdV W ta (Du (M.drop t)):=by
     intro W hW;obtain⟨rfl,_⟩|⟨rfl,ht8⟩:=hta
     ·have:=hW.rd 8;have h2:=this.cut t (8 - t) (a':=some ⟨w.heap.size,t,none⟩) (fun _ b o e=>by injection e with e;injection e with e1 e2;subst e1;subst e2;simp);have e3:(((Du M).take 8).drop t).take (8 - t)=Du (M.drop t):=by
       rw[Al (by simp[Du,hM8]),Al (by simp[Du,hM8])];simp[Du]
      rw[e3]at h2;exact h2
     ·have:Du (M.drop t)=[]:=by rw[DH (by omega)];rfl
      rw[this];exact .inl rfl
    have K:Hid (∀W v r,Hid (Bk W/\Co W w.heap.size 249 (Du M)/\Blw w W)->((v=.slice (some ⟨w.heap.size,0,none⟩) f 8/\r=r1)∨(v=.slice ta (8 - t) (8 - t)/\r=r2))->Ag Aa 219 #[v] W fun e w'=>e=.returned (.string r)/\Hid (Bk w'/\Co w' w.heap.size 249 (Du M)/\Blw w w')):=by
     intro W v r HS hv;have fin:∀w',Blw W w'->(Bk w'/\Co w' w.heap.size 249 (Du M)/\Blw w w'):=fun w' h=>⟨HS.out.1.below h,HS.out.2.1.below h,HS.out.2.2.trans (h.mono HS.out.2.2.size)⟩
     obtain⟨rfl,rfl⟩|⟨rfl,rfl⟩:=hv
     ·refine(Nx (some ⟨w.heap.size,0,none⟩) f 8 (M.take f) W (by have:=HS.out.2.1.rd f;rw[show(Du M).take f=Du (M.take f) by simp[Du]]at this;exact this) (by simp;omega) (by omega) (fun n hn=>HBD.out n (Be hn)) HS.out.1).mono ?_;rintro e w' ⟨rfl,H⟩;exact⟨by rw[HRR.out.1],fin w' H.out⟩
     ·refine(Nx ta (8 - t) (8 - t) (M.drop t) W (hkey W HS.out.2.1) (by simp;omega) (by omega) (fun n hn=>HBD.out n (CT hn)) HS.out.1).mono ?_;rintro e w' ⟨rfl,H⟩;exact⟨by rw[HRR.out.2],fin w' H.out⟩
    have HS:Hid (Bk w1/\Co w1 w.heap.size 249 (Du M)/\Blw w w1):=⟨HL1.out,HV1.out,HB1.out⟩;have HD:Hid (∀W,Hid (Bk W/\Co W w.heap.size 249 (Du M)/\Blw w W)->Hid (Bk W.drew/\Co W.drew w.heap.size 249 (Du M)/\Blw w W.drew)):=fun W h=>⟨h.out.1.below (Ae _ _).drew,h.out.2.1,h.out.2.2.trans (Ae _ _).drew⟩
    have HEE:Hid (lb (xa6 [a0,a1,a2,a3,a4,a5,a6,a7])=r1++⟨#[58,58]⟩++r2):=by
     show _=_;rw[HE.out,<- HRR.out.1,<- HRR.out.2];apply ByteArray.ext
     simp[lb,txt]
    clear hr1 hr2 hal hkey hta hcl HL1 HV1 HB1 HE HRR HBD HM hM8;go_wp2_with fail
    go_region_with (go_at_call 219;refine(K.out _ _ _ (by first|exact HS|exact HD.out _ HS) (by first|exact .inl ⟨rfl,rfl⟩|exact .inr ⟨rfl,rfl⟩)).mono ?_;rintro e w9 ⟨rfl,HS⟩)
    all_goals
     go_wp2;go_ret;exact⟨by rw[HEE.out];rfl,HS.out.2.2⟩
theorem cK(a:Option Addr)(n c:Nat)(zs:List Int)(w:Ab)(hr:Rd w a zs)(hl:zs.length=n)(hn:n=4∨n=16)(hL:Bk w) :
  Ag Aa 182 #[.slice a n c] w fun e w'=>e=.returned (.string (lb ((Fl zs).getD [])))/\Hid (Blw w w'):=by
 obtain rfl|rfl:=hn
 focus
  have e:(Fl zs).getD []=Dj 46 (zs.map fun z=>DR z.toNat):=by unfold Fl;rw[if_pos hl];rfl
  have K:=Ac (bV a 4 c zs w hr hl (by omega) hL)
 rotate_left
 focus
  have e:(Fl zs).getD []=xa6 (Hr zs):=by unfold Fl;rw[if_neg (by omega),if_pos hl];rfl
  have K:=Ac (bL a c zs w hr hl hL)
 rotate_left
 all_goals
  rw[e];clear hr hL e;go_enter Tryz.func182,Tryz.ntmps182;go_wp2_with fail;refine K.out.mono ?_;rintro e w1 ⟨rfl,H⟩;go_wp2_with fail;go_ret;exact⟨rfl,H.out⟩
end Go.Proofs.YtoppdmlmhigogaaGreatDoor
namespace Go.Proofs.YtoppdmlmhigogaaGreatDoor
open Go.ChangeShapes Go.WideShapes Go.ChangeAt Go.RowKit
theorem qD(l:List Int)(c:Int):xq (l++[c])=xq l++xq1 c:=by simp[xq]
theorem qA(c:Int):(xq1 c).length<=4:=by unfold xq1;split <;> (try split) <;> simp
theorem XD(l:List Int):(xq l).length<=4*l.length:=by
 induction l with
 |nil=>simp[xq]
 |cons c l ih=>
  have:=qA c;simp only[xq,Cn,Af,AP]at ih ⊢;omega
def qs(l:List Int):List Ao:=(34::xq l).map (AL .u8)
theorem SH(s:ByteArray)(w:Ab)(hs:s.size<=35184372088000) :
  Ag Aa 186 #[.string s] w fun e w'=>e=.returned (.string (xqw s))/\Hid (Blw w w'):=by
 have H0:Hid (GS w.heap.size (w.alloc (.cells #[.pointer none,.slice none 0 0] 65)) w.heap.size []/\Blw w (w.alloc (.cells #[.pointer none,.slice none 0 0] 65))):=⟨GS.fresh w,(Ae _ _).alloc (Ad _) _⟩;go_enter Tryz.func186,Tryz.ntmps186;go_wp2_with fail;refine(Is w.heap.size w.heap.size _ 34 _ H0.out.1 (Ad _) (by simp)).mono ?_;rintro e w1 ⟨rfl,H1⟩;have HX:Hid (GS w.heap.size w1 w.heap.size (qs [])/\Blw w w1):=⟨H1.out.1,H0.out.2.trans H1.out.2⟩;clear H0 H1;go_wp2_with fail;go_loopw [9] (fun x wr=>∃k:Nat,k<=s.size/\x=.int .i64 k/\Hid (GS w.heap.size wr w.heap.size (qs ((Ai s).take k))/\Blw w wr)) (fun x _=>s.size - (intOf x).toNat)
 case atStart=>exact⟨0,Aw _,rfl,HX⟩
 case round=>
  obtain⟨k,hk,rfl,HW⟩:=hrel;clear HX;by_cases hlt:k<s.size
  ·have hlt':(k:Int)<(s.size:Int):=by omega
   have hbd:=Lf s k;have HT:Hid ((Ai s).take (k+1)=(Ai s).take k++[(Ai s).getD k 0]):=Kf _ _ (by rw[Av];exact hlt);rw[Ef s k hlt]at hbd HT;have HM:Hid ((qs ((Ai s).take k)).length<=4*k+1):=by
    have h1:=XD ((Ai s).take k);have h2:((Ai s).take k).length<=k:=by simp;omega
    show _<=_;simp only[qs,AS,AP];omega
   have HN:Hid (qs ((Ai s).take (k+1))=qs ((Ai s).take k)++(xq1 (s[k].toNat:Int)).map (AL .u8)):=by show _=_;rw[HT.out];simp only[qs,qD,Bh,DL,Ay]
   by_cases hq:(s[k].toNat:Int)=34∨(s[k].toNat:Int)=92
   ·have HX:Hid (xq1 (s[k].toNat:Int)=[92,(s[k].toNat:Int)]):=by show _=_;unfold xq1;rw[if_neg (by omega),if_pos hq]
    have go:∀wr',wr'=wr->Hid (GS w.heap.size wr' w.heap.size (qs ((Ai s).take k))/\Blw w wr'):=by rintro _ rfl;exact HW
    clear go;obtain hq|hq:=hq
    all_goals
     rw[hq]at HX HN;go_wp2_with fail;refine(Is w.heap.size w.heap.size _ 92 _ HW.out.1 (Ad _) (by have:=HM.out;omega)).mono ?_;rintro e w2 ⟨rfl,H2⟩;go_wp2_with fail;refine(Is w.heap.size w.heap.size _ _ _ H2.out.1 (Ad _) (by have:=HM.out;simp only[Af,Ch];omega)).mono ?_;rintro e w3 ⟨rfl,H3⟩;go_wp2;refine⟨⟨k+1,by omega,by go_num,?_,(HW.out.2.trans H2.out.2).trans H3.out.2⟩,by simp[intOf];omega⟩;rw[HN.out,HX.out];simpa only[Bh,Df,AR,Ay,AQ] using H3.out.1
   ·have hq1:((s[k].toNat:Int) == 34)=false:=by rw[beq_eq_false_iff_ne];omega
    have hq2:((s[k].toNat:Int) == 92)=false:=by rw[beq_eq_false_iff_ne];omega
    by_cases hu:(s[k].toNat:Int)<32∨126<(s[k].toNat:Int)
    ·have HX:Hid (xq1 (s[k].toNat:Int)=[92,48+(s[k].toNat:Int) / 100,48+(s[k].toNat:Int) / 10 % 10,48+(s[k].toNat:Int) % 10]):=by show _=_;unfold xq1;rw[if_pos hu]
     clear hq;obtain hu|hu:=hu
     all_goals
      go_wp2_with fail;refine(Is w.heap.size w.heap.size _ 92 _ HW.out.1 (Ad _) (by have:=HM.out;omega)).mono ?_;rintro e w2 ⟨rfl,H2⟩;go_wp2_with fail;refine(Is w.heap.size w.heap.size _ _ _ H2.out.1 (Ad _) (by have:=HM.out;simp only[Af,Ch];omega)).mono ?_;rintro e w3 ⟨rfl,H3⟩;go_wp2_with fail;refine(Is w.heap.size w.heap.size _ _ _ H3.out.1 (Ad _) (by have:=HM.out;simp only[Af,Ch];omega)).mono ?_;rintro e w4 ⟨rfl,H4⟩;go_wp2_with fail;refine(Is w.heap.size w.heap.size _ _ _ H4.out.1 (Ad _) (by have:=HM.out;simp only[Af,Ch];omega)).mono ?_;rintro e w5 ⟨rfl,H5⟩;go_wp2;refine⟨⟨k+1,by omega,by go_num,?_,((HW.out.2.trans H2.out.2).trans H3.out.2).trans (H4.out.2.trans H5.out.2)⟩,by simp[intOf];omega⟩;rw[HN.out,HX.out];simpa only[Bh,Df,AR,Ay,AQ] using H5.out.1
    ·have HX:Hid (xq1 (s[k].toNat:Int)=[(s[k].toNat:Int)]):=by show _=_;unfold xq1;rw[if_neg hu,if_neg hq]
     have hu1:¬ (s[k].toNat:Int)<32:=by omega
     have hu2:¬ 126<(s[k].toNat:Int):=by omega
     clear hu hq;go_wp2_with fail;refine(Is w.heap.size w.heap.size _ _ _ HW.out.1 (Ad _) (by have:=HM.out;omega)).mono ?_;rintro e w2 ⟨rfl,H2⟩;go_wp2;refine⟨⟨k+1,by omega,by go_num,?_,HW.out.2.trans H2.out.2⟩,by simp[intOf];omega⟩;rw[HN.out,HX.out];simpa only[Bh,Df,AR,Ay,AQ] using H2.out.1
  ·have hge:(s.size:Int)<=(k:Int):=by omega
   have hge':¬ (k:Int)<(s.size:Int):=by omega
   have ek:(Ai s).take k=Ai s:=Al (by rw[Av];omega);have HG:Hid (GS w.heap.size wr w.heap.size (qs (Ai s))):=by have:=HW.out.1;rw[ek]at this;exact this
   have hl:=XD (Ai s);rw[Av]at hl;have HQ:Hid (qs (Ai s)++[.int .u8 34]=Ak (txt (Fp (Ai s)))):=by
    show _=_;rw[fK _ (OU _ (MF s))];simp[qs,Fp]
   have hlq:(txt (Fp (Ai s))).length<=9223372036854775807:=by
    rw[II];simp only[Fp,AP,Af,CZ];omega
   have HM:Hid ((qs (Ai s)).length+1<=140737488355328):=by show _<=_;simp only[qs,AS,AP];omega
   clear ek hl;generalize hLL:txt (Fp (Ai s))=L at*;have HLL:Hid (txt (Fp (Ai s))=L):=hLL;clear hLL;go_wp2_with fail;refine(Is w.heap.size w.heap.size _ 34 _ HG.out (Ad _) HM.out).mono ?_;rintro e w2 ⟨rfl,H2⟩;have HG2:Hid (GS w.heap.size w2 w.heap.size (Ak L)):=by have:=H2.out.1;rw[HQ.out]at this;exact this
   go_wp2_with fail;refine(Qn w.heap.size w.heap.size L _ HG2.out hlq).mono ?_;rintro e w3 ⟨rfl,H3⟩;go_wp2;go_ret;refine⟨?_,(HW.out.2.trans H2.out.2).trans H3.out⟩;unfold xqw lb;rw[HLL.out]
   rfl
def Ij(l:List ByteArray)(w:Ab)(e:Ending)(w':Ab):Prop:=
 ∃v ys,e=.returned v/\Hid (BF w.heap.size w' v l.length ys 1000000/\ys.take l.length=l/\Blw w w')
theorem Pd{α:Type}(f:α->ByteArray)(l:List α)(k:Nat)(h:k<l.length):(l.take (k+1)).map f=(l.take k).map f++[f l[k]]:=by
 rw[List.take_add_one,AF h,Option.toList_some,DL];rfl
theorem Yd{n:List ByteArray}(h:nck n=0):(AN n).1.size<=1020:=by
 unfold AN;rw[if_pos h];split
 ·show 1<=1020;omega
 ·have h1:=Pe n n.length (Ad _);rw[List.take_length]at h1;have h2:=(BI h).1;simp only;omega
theorem Uc(u:Nat):(⟨(Bv u).toArray⟩:ByteArray)=xnw u:=Xo u
theorem Je(n:Nat)(h:n<4294967296):(DR n).length<=10:=by
 have key:∀(k n:Nat),n<10 ^ (k+1)->(DR n).length<=k+1:=by
  intro k;induction k with
  |zero=>intro n hn;rw[DC (by omega)];simp
  |succ k ih=>
   intro n hn;by_cases h:n<10
   ·rw[DC h];simp
   ·rw[Gm h];have:=ih (n / 10) (by rw[Nat.pow_succ]at hn;omega);simp;omega
 exact key 9 n (by omega)
theorem Om(s:ByteArray):(xqw s).size<=4*s.size+2:=by
 have h:=XD (Ai s);have:(xqw s).size=(Fp (Ai s)).length:=by unfold xqw;rw[<- Av,Ed _ (OU _ (MF s))]
 rw[Av]at h;simp only[Fp,AP,Af,CZ]at this;omega
theorem Pm(s:Sl)(xs:List (List ByteArray))(w:Ab)(hr:NRd w s xs)(hp:∀n∈xs,nck n=0)(hn:s.n<=1000000) :
  Ag Aa 183 #[.slice s.a s.n s.c] w (Ij (xs.map (fun n=>(AN n).1)) w):=by
 obtain⟨a,n,c⟩:=s;have HR:Hid (NRd w ⟨a,n,c⟩ xs):=hr;have HLn:Hid (xs.length=n):=hr.len;have HP:Hid (∀n∈xs,nck n=0):=hp;simp only at hn ⊢;clear hr hp;go_enter Tryz.func183,Tryz.ntmps183;go_wp2_with fail;go_loopw [3,10] (fun v x wr=>∃k:Nat,k<=n/\x=.int .i64 k/\Hid (∃ys,BF w.heap.size wr v k ys 1000000/\ys.take k=(xs.take k).map (fun n=>(AN n).1))/\Hid (Blw w wr)) (fun _ x _=>n - (intOf x).toNat)
 case atStart=>exact⟨0,Aw _,rfl,⟨[],BF.nil _ _ _,rfl⟩,Ae _ _⟩
 case round=>
  obtain⟨k,hk,rfl,HW,HB⟩:=hrel;by_cases hlt:k<n
  ·have hlt':(k:Int)<(n:Int):=by omega
   have hkz:k<xs.length:=by rw[HLn.out];exact hlt
   have HT:Hid ((xs.take (k+1)).map (fun n=>(AN n).1)=(xs.take k).map (fun n=>(AN n).1)++[(AN xs[k]).1]):=Pd _ xs k hkz;obtain⟨b,o,hbo,hb,x,hc,hx⟩:=(HR.out.below HB.out).at k hkz;simp only at hbo;subst hbo;have hck:=HP.out _ (AU hkz);have hsz:(AN xs[k]).1.size<=1000000:=by have:=Yd hck;omega
   have K:=Ac (Tj x.a x.n x.c xs[k] wr ⟨hx.rd,hx.len,by have:=(BI hck).1;omega⟩);generalize (AN xs[k]).2=q at*;generalize (AN xs[k]).1=f at*;clear hx hck;go_wp2_with fail;refine K.out.mono ?_;rintro e w2 ⟨rfl,H2⟩;obtain⟨ys,hO,hT⟩:=HW.out;have hnb:Blw w2 (w2.alloc (.cells #[.string f] 9)):=(Ae _ _).alloc (Ad _) _;have HO2:Hid (BF w.heap.size (w2.alloc (.cells #[.string f] 9)) u3 k ys 1000000/\ys.take k=(xs.take k).map (fun n=>(AN n).1)):=⟨(hO.below H2.out).below hnb,hT⟩;have HNB:Hid (Blw w2 (w2.alloc (.cells #[.string f] 9))):=hnb;have HB3:Hid (Blw w w2):=HB.out.trans (H2.out.mono HB.out.size);clear hO hT hnb HW H2 HB;go_wp2_with (at_builtin;refine BA tyT _ rfl _ _ 22 9 Dy rfl w.heap.size _ k ys 1000000 rfl HO2.out.1 (some ⟨w2.heap.size,0,none⟩) 1 1 [f] rfl (EN w2 f) rfl (by intro s hs;simp at hs;subst hs;exact hsz) (by omega) (Aj HB3.out.size HNB.out.size) ?_;intro v' w' ys' hO' hT' hG');have hrow:=HO2.out.1.1.lt;refine⟨⟨k+1,by omega,by go_num,⟨ys',hO'.out,?_⟩,?_⟩,by simp[intOf];omega⟩
   ·rw[hT'.out,HO2.out.2,HT.out]
   ·exact(HB3.out.trans (HNB.out.mono HB3.out.size)).grown hG' (Aj HB3.out.size HNB.out.size) hrow
  ·have hge:¬ (k:Int)<(n:Int):=by omega
   have hkn:k=n:=by omega
   subst hkn;go_wp2_with fail;go_ret;obtain⟨ys,hO,hT⟩:=HW.out;have hx:xs.take k=xs:=Al (by rw[HLn.out];exact Ad _);rw[hx]at hT;have hl:(xs.map (fun n=>(AN n).1)).length=k:=by rw[AS,HLn.out]
   rw[<- hl]at hO hT;exact⟨_,ys,rfl,hO,hT,HB.out⟩
theorem Rx(s:Sl)(xs:List (Nat))(w:Ab)(hr:URd w s xs)  (hn:s.n<=1000000) (hL:Bk w) :
  Ag Aa 184 #[.slice s.a s.n s.c] w (Ij (xs.map xnw) w):=by
 obtain⟨a,n,c⟩:=s;have HR:Hid (URd w ⟨a,n,c⟩ xs):=hr;have HLn:Hid (xs.length=n):=hr.len;have HL:Hid (Bk w):=hL;simp only at hn ⊢;clear hr hL;go_enter Tryz.func184,Tryz.ntmps184;go_wp2_with fail;go_loopw [3,8] (fun v x wr=>∃k:Nat,k<=n/\x=.int .i64 k/\Hid (∃ys,BF w.heap.size wr v k ys 1000000/\ys.take k=(xs.take k).map xnw)/\Hid (Blw w wr)) (fun _ x _=>n - (intOf x).toNat)
 case atStart=>exact⟨0,Aw _,rfl,⟨[],BF.nil _ _ _,rfl⟩,Ae _ _⟩
 case round=>
  obtain⟨k,hk,rfl,HW,HB⟩:=hrel;by_cases hlt:k<n
  ·have hlt':(k:Int)<(n:Int):=by omega
   have hkz:k<xs.length:=by rw[HLn.out];exact hlt
   have HT:Hid ((xs.take (k+1)).map xnw=(xs.take k).map xnw++[(xnw) xs[k]]):=Pd _ xs k hkz;obtain⟨b,o,hbo,hb,hc⟩:=(HR.out.below HB.out).at k hkz;simp only at hbo;subst hbo;have hu:=HR.out.bd _ (AU hkz);generalize xs[k]=u at*;have hsz:(xnw u).size<=1000000:=by have:=Je u (by omega);rw[<- Av,IZ];omega
   have K:=Ac (fun W hW=>sB u (by omega) W hW);rw[Uc u]at K;generalize xnw u=f at*;have hu':(u:Int)<=4294967295:=by omega
   go_wp2_with fail;refine(K.out _ (HL.out.below HB.out)).mono ?_;rintro e w2 ⟨rfl,H2⟩;obtain⟨ys,hO,hT⟩:=HW.out;have hnb:Blw w2 (w2.alloc (.cells #[.string f] 9)):=(Ae _ _).alloc (Ad _) _;have HO2:Hid (BF w.heap.size (w2.alloc (.cells #[.string f] 9)) u3 k ys 1000000/\ys.take k=(xs.take k).map xnw):=⟨(hO.below H2.out).below hnb,hT⟩;have HNB:Hid (Blw w2 (w2.alloc (.cells #[.string f] 9))):=hnb;have HB3:Hid (Blw w w2):=HB.out.trans (H2.out.mono HB.out.size);clear hO hT hnb HW H2 HB;go_wp2_with (at_builtin;refine BA tyT _ rfl _ _ 22 9 Dy rfl w.heap.size _ k ys 1000000 rfl HO2.out.1 (some ⟨w2.heap.size,0,none⟩) 1 1 [f] rfl (EN w2 f) rfl (by intro s hs;simp at hs;subst hs;exact hsz) (by omega) (Aj HB3.out.size HNB.out.size) ?_;intro v' w' ys' hO' hT' hG');have hrow:=HO2.out.1.1.lt;refine⟨⟨k+1,by omega,by go_num,⟨ys',hO'.out,?_⟩,?_⟩,by simp[intOf];omega⟩
   ·rw[hT'.out,HO2.out.2,HT.out]
   ·exact(HB3.out.trans (HNB.out.mono HB3.out.size)).grown hG' (Aj HB3.out.size HNB.out.size) hrow
  ·have hge:¬ (k:Int)<(n:Int):=by omega
   have hkn:k=n:=by omega
   subst hkn;go_wp2_with fail;go_ret;obtain⟨ys,hO,hT⟩:=HW.out;have hx:xs.take k=xs:=Al (by rw[HLn.out];exact Ad _);rw[hx]at hT;have hl:(xs.map xnw).length=k:=by rw[AS,HLn.out]
   rw[<- hl]at hO hT;exact⟨_,ys,rfl,hO,hT,HB.out⟩
theorem fI(s:Sl)(xs:List (ByteArray))(w:Ab)(hr:TRd w s xs)(hp:∀t∈xs,t.size<=200000)(hn:s.n<=1000000) :
  Ag Aa 185 #[.slice s.a s.n s.c] w (Ij (xs.map xqw) w):=by
 obtain⟨a,n,c⟩:=s;have HR:Hid (TRd w ⟨a,n,c⟩ xs):=hr;have HLn:Hid (xs.length=n):=hr.len;have HP:Hid (∀t∈xs,t.size<=200000):=hp;simp only at hn ⊢;clear hr hp;go_enter Tryz.func185,Tryz.ntmps185;go_wp2_with fail;go_loopw [3,8] (fun v x wr=>∃k:Nat,k<=n/\x=.int .i64 k/\Hid (∃ys,BF w.heap.size wr v k ys 1000000/\ys.take k=(xs.take k).map xqw)/\Hid (Blw w wr)) (fun _ x _=>n - (intOf x).toNat)
 case atStart=>exact⟨0,Aw _,rfl,⟨[],BF.nil _ _ _,rfl⟩,Ae _ _⟩
 case round=>
  obtain⟨k,hk,rfl,HW,HB⟩:=hrel;by_cases hlt:k<n
  ·have hlt':(k:Int)<(n:Int):=by omega
   have hkz:k<xs.length:=by rw[HLn.out];exact hlt
   have HT:Hid ((xs.take (k+1)).map xqw=(xs.take k).map xqw++[(xqw) xs[k]]):=Pd _ xs k hkz;obtain⟨b,o,hbo,hb,hc⟩:=(HR.out.below HB.out).rd.at k hkz;simp only at hbo;subst hbo;have hp:=HP.out _ (AU hkz);generalize xs[k]=u at*;have hsz:(xqw u).size<=1000000:=by have:=Om u;omega
   have K:=Ac (SH u wr (by omega));generalize xqw u=f at*;go_wp2_with fail;refine K.out.mono ?_;rintro e w2 ⟨rfl,H2⟩;obtain⟨ys,hO,hT⟩:=HW.out;have hnb:Blw w2 (w2.alloc (.cells #[.string f] 9)):=(Ae _ _).alloc (Ad _) _;have HO2:Hid (BF w.heap.size (w2.alloc (.cells #[.string f] 9)) u3 k ys 1000000/\ys.take k=(xs.take k).map xqw):=⟨(hO.below H2.out).below hnb,hT⟩;have HNB:Hid (Blw w2 (w2.alloc (.cells #[.string f] 9))):=hnb;have HB3:Hid (Blw w w2):=HB.out.trans (H2.out.mono HB.out.size);clear hO hT hnb HW H2 HB;go_wp2_with (at_builtin;refine BA tyT _ rfl _ _ 22 9 Dy rfl w.heap.size _ k ys 1000000 rfl HO2.out.1 (some ⟨w2.heap.size,0,none⟩) 1 1 [f] rfl (EN w2 f) rfl (by intro s hs;simp at hs;subst hs;exact hsz) (by omega) (Aj HB3.out.size HNB.out.size) ?_;intro v' w' ys' hO' hT' hG');have hrow:=HO2.out.1.1.lt;refine⟨⟨k+1,by omega,by go_num,⟨ys',hO'.out,?_⟩,?_⟩,by simp[intOf];omega⟩
   ·rw[hT'.out,HO2.out.2,HT.out]
   ·exact(HB3.out.trans (HNB.out.mono HB3.out.size)).grown hG' (Aj HB3.out.size HNB.out.size) hrow
  ·have hge:¬ (k:Int)<(n:Int):=by omega
   have hkn:k=n:=by omega
   subst hkn;go_wp2_with fail;go_ret;obtain⟨ys,hO,hT⟩:=HW.out;have hx:xs.take k=xs:=Al (by rw[HLn.out];exact Ad _);rw[hx]at hT;have hl:(xs.map xqw).length=k:=by rw[AS,HLn.out]
   rw[<- hl]at hO hT;exact⟨_,ys,rfl,hO,hT,HB.out⟩
theorem dV(d:Int)(h:0<=d/\d<16):dg d=xhd d.toNat:=by
 unfold dg xhd;by_cases h1:d<10
 ·rw[if_pos h1,if_pos (by omega)];omega
 ·rw[if_neg h1,if_neg (by omega)];omega
theorem mT(zs:List Int)(h:∀z∈zs,0<=z/\z<=255):(⟨(KV zs).toArray⟩:ByteArray)=lb (EQ zs):=by
 unfold lb;congr 2
 unfold KV txt EQ;induction zs with
 |nil=>rfl
 |cons z zs ih=>
  have hz:=h z (by simp);simp only[Cn,DL,Bh,Df];rw[ih (fun y hy=>h y (Dw _ hy)),dV (z / 16) (by omega),dV (z % 16) (by omega)]
  rfl
def PD(raw:List Int):List ByteArray:=lb [92,35]::xnw raw.length::(if raw=[] then[] else[lb (EQ raw)])
theorem qO(w:Ab)(a b:ByteArray)(ha:a.size<=1000000)(hb:b.size<=1000000):BF w.heap.size (w.alloc (.cells #[.string a,.string b] 9)) (.slice (some ⟨w.heap.size,0,none⟩) 2 2) 2 [a,b] 1000000:=by
 refine⟨.inr ⟨w.heap.size,rfl,Ad _,Au _ _,by simp[tv],by simp[tv,Gi]⟩,?_⟩;intro s hs;simp at hs;obtain rfl|rfl:=hs
 ·exact ha
 ·exact hb
theorem mH(w:Ab)(a:ByteArray)(ha:a.size<=1000000):BF w.heap.size (w.alloc (.cells #[.string a] 9)) (.slice (some ⟨w.heap.size,0,none⟩) 1 1) 1 [a] 1000000:=by
 refine⟨.inr ⟨w.heap.size,rfl,Ad _,Au _ _,by simp[tv],by simp[tv,Gi]⟩,?_⟩;intro s hs;simp at hs;subst hs;exact ha
theorem Xa(a:Option Addr)(n c:Nat)(zs:List Int)(w:Ab)(hr:Rd w a zs)(hl:zs.length=n)(hn:n<=65535)(hL:Bk w) :
  Ag Aa 187 #[.slice a n c] w (Ij (PD zs) w):=by
 have HR:Hid (Rd w a zs):=hr;have HLn:Hid (zs.length=n):=hl;have K1:=Ac (Ou n (by omega) w hL);rw[Uc n]at K1;have hz1:(xnw n).size<=1000000:=by have:=Je n (by omega);rw[<- Av,IZ];omega
 have HW0:Hid (PD zs=lb [92,35]::xnw n::(if zs=[] then[] else[lb (EQ zs)])):=by show _=_;unfold PD;rw[hl]
 have hz2:(lb (EQ zs)).size<=1000000:=by
  have h1:=MA zs;rw[<- Av,Ed _ (fun c hc=>by have:=Mb zs hr.2 c hc;omega)];omega
 have KX:=Ac (fun W (hW:Rd W a zs)=>qZ a n c zs W hW hl (by omega));rw[mT zs hr.2]at KX;clear hr hL;generalize xnw n=f1 at*;generalize lb (EQ zs)=f2 at*;go_enter Tryz.func187,Tryz.ntmps187;go_wp2_with fail;refine K1.out.mono ?_;rintro e w1 ⟨rfl,H1⟩;have HO:=Ac (qO w1 (lb [92,35]) f1 (by decide) hz1);have HB1:Hid (Blw w (w1.alloc (.cells #[.string ⟨#[92,35]⟩,.string f1] 9))):=H1.out.trans ((Ae _ _).alloc H1.out.size _);have hs1:=H1.out.size;by_cases h0:n=0
 ·subst h0;have e0:zs=[]:=Aq.1 HLn.out;have HW1:Hid (PD zs=[lb [92,35],f1]):=by show _=_;rw[HW0.out,if_pos e0]
  clear K1 KX H1;go_wp2_with fail;go_ret;rw[HW1.out];exact⟨_,[lb [92,35],f1],rfl,HO.out.mono hs1,rfl,HB1.out⟩
 ·have h0':(0:Int)<(n:Int):=by omega
  have e0:zs≠[]:=by intro e;have:=HLn.out;rw[e]at this;exact h0 this.symm
  have HW1:Hid (PD zs=[lb [92,35],f1,f2]):=by show _=_;rw[HW0.out,if_neg e0]
  have e92:(lb [92,35]:ByteArray)=⟨#[92,35]⟩:=rfl;rw[e92]at HO;have HLT:Hid (w1.heap.size<=(w1.alloc (.cells #[.string ⟨#[92,35]⟩,.string f1] 9)).heap.size):=by show _<=_;simp
  clear K1 H1 e0 h0;go_wp2_with fail;generalize (w1.alloc (.cells #[.string ⟨#[92,35]⟩,.string f1] 9))=w2 at*;refine(KX.out _ (HR.out.below HB1.out)).mono ?_;rintro e w3 ⟨rfl,H3⟩;have hnb:Blw w3 (w3.alloc (.cells #[.string f2] 9)):=(Ae _ _).alloc (Ad _) _;have HO2:Hid (BF w1.heap.size (w3.alloc (.cells #[.string f2] 9)) (.slice (some ⟨w1.heap.size,0,none⟩) 2 2) 2 [⟨#[92,35]⟩,f1] 1000000):=(HO.out.below H3.out).below hnb;have HB3:Hid (Blw w (w3.alloc (.cells #[.string f2] 9))):=(HB1.out.trans (H3.out.mono HB1.out.size)).trans (hnb.mono (Aj HB1.out.size H3.out.size));have HLE:Hid (w1.heap.size<=(w3.alloc (.cells #[.string f2] 9)).heap.size):=by
   show _<=_;have:=H3.out.size;have:=HLT.out;simp;omega
  clear hnb HO H3 HB1 KX;go_wp2_with (at_builtin;refine BA tyT _ rfl _ _ 22 9 Dy rfl w1.heap.size _ 2 [⟨#[92,35]⟩,f1] 1000000 rfl HO2.out (some ⟨w3.heap.size,0,none⟩) 1 1 [f2] rfl (EN w3 f2) rfl (by intro s hs;simp at hs;subst hs;exact hz2) (by omega) HLE.out ?_;intro v' w' ys' hO' hT' hG');have hrow:=HO2.out.1.lt;go_ret;rw[HW1.out];refine⟨_,ys',rfl,hO'.out.mono hs1,hT'.out,?_⟩;exact HB3.out.grown hG' HB3.out.size (fun g hg=>Aj hs1 (hrow g hg))
theorem SQ(t:Nat)(ht:t=1∨t=28)(x:DA)(d:Dat)(w:Ab)(h:DRd w x d)(hr:d.raw.length=4∨d.raw.length=16)(hL:Bk w) :
  Ag Aa 152 #[.int .u16 t,.agg #[.slice x.p1.a x.p1.n x.p1.c,.slice x.p2.a x.p2.n x.p2.c,.slice x.p3.a x.p3.n x.p3.c,.slice x.p4.a x.p4.n x.p4.c]] w (Ij ([lb ((Fl d.raw).getD [])]) w):=by
 obtain⟨⟨a1,n1,k1⟩,⟨a2,n2,k2⟩,⟨a3,n3,k3⟩,⟨a4,n4,k4⟩⟩:=x;have hb0:Blw w (w.alloc (.cells #[.slice a1 n1 k1,.slice a2 n2 k2,.slice a3 n3 k3,.slice a4 n4 k4] 41)):=(Ae _ _).alloc (Ad _) _;have H:Hid (Eh (w.alloc (.cells #[.slice a1 n1 k1,.slice a2 n2 k2,.slice a3 n3 k3,.slice a4 n4 k4] 41)) w.heap.size ⟨⟨a1,n1,k1⟩,⟨a2,n2,k2⟩,⟨a3,n3,k3⟩,⟨a4,n4,k4⟩⟩/\DRd (w.alloc (.cells #[.slice a1 n1 k1,.slice a2 n2 k2,.slice a3 n3 k3,.slice a4 n4 k4] 41)) ⟨⟨a1,n1,k1⟩,⟨a2,n2,k2⟩,⟨a3,n3,k3⟩,⟨a4,n4,k4⟩⟩ d/\Blw w (w.alloc (.cells #[.slice a1 n1 k1,.slice a2 n2 k2,.slice a3 n3 k3,.slice a4 n4 k4] 41))/\Bk (w.alloc (.cells #[.slice a1 n1 k1,.slice a2 n2 k2,.slice a3 n3 k3,.slice a4 n4 k4] 41))):=⟨Eh.new w ⟨⟨a1,n1,k1⟩,⟨a2,n2,k2⟩,⟨a3,n3,k3⟩,⟨a4,n4,k4⟩⟩,h.below hb0,hb0,hL.below hb0⟩;clear h hL hb0;simp only;have hr4:n4=4∨n4=16:=by have:=H.out.2.1.h4.len;simp only at this;rw[<- this];exact hr
 have hsz:(lb ((Fl d.raw).getD [])).size<=1000000:=by
  obtain⟨s,hs⟩:=Lj d.raw hr;rw[hs,Option.getD_some,<- Av,(OY s (Sd _ _ hs)).1];unfold Fl at hs;have hbz:=H.out.2.1.h4.rd.2;split at hs
  ·injection hs with hs;subst hs
   have:=Gb 46 (d.raw.map fun c=>DR c.toNat) 3 (by
    intro p hp;obtain⟨z,hz,rfl⟩:=AY.1 hp;have:=hbz z hz;exact Qh _ (by omega))
   rw[AS]at this;omega
  ·split at hs
   ·next h16=>
    injection hs with hs;subst hs
    obtain⟨i1,i2,i3⟩:=Qg d.raw 8 (by omega) hbz;have hc:∀l:List Nat,l.length<=8->(∀n∈l,n<65536)->(Ev l).length<=40:=by
     intro l h1 h2;have:=Gb 58 (l.map Dn) 4 (by
      intro p hp;obtain⟨z,hz,rfl⟩:=AY.1 hp;exact(JW _ (h2 z hz)).2)
     rw[AS]at this;unfold Ev;omega
    unfold xa6;split
    ·have:=hc _ (by omega) i3;omega
    ·have h1:=hc ((Hr d.raw).take (Ei (Hr d.raw)).1) (by simp;omega) (fun n hn=>i3 n (Be hn));have h2:=hc ((Hr d.raw).drop ((Ei (Hr d.raw)).1+(Ei (Hr d.raw)).2)) (by simp;omega) (fun n hn=>i3 n (CT hn));simp only[Af,AP];omega
   ·cases hs
 have K:=Ac (fun W (hd:DRd W ⟨⟨a1,n1,k1⟩,⟨a2,n2,k2⟩,⟨a3,n3,k3⟩,⟨a4,n4,k4⟩⟩ d) (hW:Bk W)=>cK a4 n4 k4 d.raw W hd.h4.rd hd.h4.len hr4 hW);clear hr hr4;obtain⟨f,hf⟩:∃f,lb ((Fl d.raw).getD [])=f:=⟨_,rfl⟩;rw[hf]at K hsz ⊢;clear hf;obtain rfl|rfl:=ht
 all_goals
  go_enter He,Gg;have d0:=H.out.1.1;have d1:=H.out.1.2.1;have d2:=H.out.1.2.2.1;have d3:=H.out.1.2.2.2.1;simp only at d0 d1 d2 d3;go_wp2_with fail;refine(K.out _ H.out.2.1 H.out.2.2.2).mono ?_;rintro e w2 ⟨rfl,H2⟩;have HB2:=Ac (H.out.2.2.1.trans (H2.out.mono H.out.2.2.1.size));have HO:=Ac (mH w2 f hsz);go_wp2_with fail;go_ret;exact⟨_,[f],rfl,HO.out.mono HB2.out.size,rfl,HB2.out.trans ((Ae _ _).alloc HB2.out.size _)⟩
theorem Yh(t:Nat)(ht:t=2∨t=5∨t=12)(x:DA)(d:Dat)(w:Ab)(h:DRd w x d)(hp:∀n∈d.ns,nck n=0)(hn:d.ns.length<=1000)(hL:Bk w) :
  Ag Aa 152 #[.int .u16 t,.agg #[.slice x.p1.a x.p1.n x.p1.c,.slice x.p2.a x.p2.n x.p2.c,.slice x.p3.a x.p3.n x.p3.c,.slice x.p4.a x.p4.n x.p4.c]] w (Ij (d.ns.map (fun n=>(AN n).1)) w):=by
 obtain⟨⟨a1,n1,k1⟩,⟨a2,n2,k2⟩,⟨a3,n3,k3⟩,⟨a4,n4,k4⟩⟩:=x;have hb0:Blw w (w.alloc (.cells #[.slice a1 n1 k1,.slice a2 n2 k2,.slice a3 n3 k3,.slice a4 n4 k4] 41)):=(Ae _ _).alloc (Ad _) _;have H:Hid (Eh (w.alloc (.cells #[.slice a1 n1 k1,.slice a2 n2 k2,.slice a3 n3 k3,.slice a4 n4 k4] 41)) w.heap.size ⟨⟨a1,n1,k1⟩,⟨a2,n2,k2⟩,⟨a3,n3,k3⟩,⟨a4,n4,k4⟩⟩/\DRd (w.alloc (.cells #[.slice a1 n1 k1,.slice a2 n2 k2,.slice a3 n3 k3,.slice a4 n4 k4] 41)) ⟨⟨a1,n1,k1⟩,⟨a2,n2,k2⟩,⟨a3,n3,k3⟩,⟨a4,n4,k4⟩⟩ d/\Blw w (w.alloc (.cells #[.slice a1 n1 k1,.slice a2 n2 k2,.slice a3 n3 k3,.slice a4 n4 k4] 41))/\Bk (w.alloc (.cells #[.slice a1 n1 k1,.slice a2 n2 k2,.slice a3 n3 k3,.slice a4 n4 k4] 41))):=⟨Eh.new w ⟨⟨a1,n1,k1⟩,⟨a2,n2,k2⟩,⟨a3,n3,k3⟩,⟨a4,n4,k4⟩⟩,h.below hb0,hb0,hL.below hb0⟩;clear h hL hb0;simp only;have hn1:n1<=1000000:=by have:=H.out.2.1.h1.len;simp only at this;omega
 have K:=Ac (fun W (hd:DRd W ⟨⟨a1,n1,k1⟩,⟨a2,n2,k2⟩,⟨a3,n3,k3⟩,⟨a4,n4,k4⟩⟩ d)=>Pm ⟨a1,n1,k1⟩ d.ns W hd.h1 hp hn1);clear hp hn;obtain rfl|rfl|rfl:=ht
 all_goals
  go_enter He,Gg;have d0:=H.out.1.1;have d1:=H.out.1.2.1;have d2:=H.out.1.2.2.1;have d3:=H.out.1.2.2.2.1;simp only at d0 d1 d2 d3;go_wp2_with fail;refine(K.out _ H.out.2.1).mono ?_;rintro e w2 ⟨v,ys,rfl,H2⟩;have HB2:=Ac (H.out.2.2.1.trans (H2.out.2.2.mono H.out.2.2.1.size));go_wp2_with fail;go_ret;exact⟨_,ys,rfl,H2.out.1.mono H.out.2.2.1.size,H2.out.2.1,HB2.out⟩
theorem fY(t:Nat)(ht:t=16)(x:DA)(d:Dat)(w:Ab)(h:DRd w x d)(hp:∀s∈d.ts,s.size<=200000)(hn:d.ts.length<=1000000)(hL:Bk w) :
  Ag Aa 152 #[.int .u16 t,.agg #[.slice x.p1.a x.p1.n x.p1.c,.slice x.p2.a x.p2.n x.p2.c,.slice x.p3.a x.p3.n x.p3.c,.slice x.p4.a x.p4.n x.p4.c]] w (Ij (d.ts.map xqw) w):=by
 obtain⟨⟨a1,n1,k1⟩,⟨a2,n2,k2⟩,⟨a3,n3,k3⟩,⟨a4,n4,k4⟩⟩:=x;have hb0:Blw w (w.alloc (.cells #[.slice a1 n1 k1,.slice a2 n2 k2,.slice a3 n3 k3,.slice a4 n4 k4] 41)):=(Ae _ _).alloc (Ad _) _;have H:Hid (Eh (w.alloc (.cells #[.slice a1 n1 k1,.slice a2 n2 k2,.slice a3 n3 k3,.slice a4 n4 k4] 41)) w.heap.size ⟨⟨a1,n1,k1⟩,⟨a2,n2,k2⟩,⟨a3,n3,k3⟩,⟨a4,n4,k4⟩⟩/\DRd (w.alloc (.cells #[.slice a1 n1 k1,.slice a2 n2 k2,.slice a3 n3 k3,.slice a4 n4 k4] 41)) ⟨⟨a1,n1,k1⟩,⟨a2,n2,k2⟩,⟨a3,n3,k3⟩,⟨a4,n4,k4⟩⟩ d/\Blw w (w.alloc (.cells #[.slice a1 n1 k1,.slice a2 n2 k2,.slice a3 n3 k3,.slice a4 n4 k4] 41))/\Bk (w.alloc (.cells #[.slice a1 n1 k1,.slice a2 n2 k2,.slice a3 n3 k3,.slice a4 n4 k4] 41))):=⟨Eh.new w ⟨⟨a1,n1,k1⟩,⟨a2,n2,k2⟩,⟨a3,n3,k3⟩,⟨a4,n4,k4⟩⟩,h.below hb0,hb0,hL.below hb0⟩;clear h hL hb0;simp only;have hn3:n3<=1000000:=by have:=H.out.2.1.h3.len;simp only at this;omega
 have K:=Ac (fun W (hd:DRd W ⟨⟨a1,n1,k1⟩,⟨a2,n2,k2⟩,⟨a3,n3,k3⟩,⟨a4,n4,k4⟩⟩ d)=>fI ⟨a3,n3,k3⟩ d.ts W hd.h3 hp hn3);clear hp hn;subst ht
 all_goals
  go_enter He,Gg;have d0:=H.out.1.1;have d1:=H.out.1.2.1;have d2:=H.out.1.2.2.1;have d3:=H.out.1.2.2.2.1;simp only at d0 d1 d2 d3;go_wp2_with fail;refine(K.out _ H.out.2.1).mono ?_;rintro e w2 ⟨v,ys,rfl,H2⟩;have HB2:=Ac (H.out.2.2.1.trans (H2.out.2.2.mono H.out.2.2.1.size));go_wp2_with fail;go_ret;exact⟨_,ys,rfl,H2.out.1.mono H.out.2.2.1.size,H2.out.2.1,HB2.out⟩
theorem cU(t:Nat)(ht:xkn t=false)(x:DA)(d:Dat)(w:Ab)(h:DRd w x d)(hn:d.raw.length<=65535)(hL:Bk w) :
  Ag Aa 152 #[.int .u16 t,.agg #[.slice x.p1.a x.p1.n x.p1.c,.slice x.p2.a x.p2.n x.p2.c,.slice x.p3.a x.p3.n x.p3.c,.slice x.p4.a x.p4.n x.p4.c]] w (Ij (PD d.raw) w):=by
 obtain⟨⟨a1,n1,k1⟩,⟨a2,n2,k2⟩,⟨a3,n3,k3⟩,⟨a4,n4,k4⟩⟩:=x;have hb0:Blw w (w.alloc (.cells #[.slice a1 n1 k1,.slice a2 n2 k2,.slice a3 n3 k3,.slice a4 n4 k4] 41)):=(Ae _ _).alloc (Ad _) _;have H:Hid (Eh (w.alloc (.cells #[.slice a1 n1 k1,.slice a2 n2 k2,.slice a3 n3 k3,.slice a4 n4 k4] 41)) w.heap.size ⟨⟨a1,n1,k1⟩,⟨a2,n2,k2⟩,⟨a3,n3,k3⟩,⟨a4,n4,k4⟩⟩/\DRd (w.alloc (.cells #[.slice a1 n1 k1,.slice a2 n2 k2,.slice a3 n3 k3,.slice a4 n4 k4] 41)) ⟨⟨a1,n1,k1⟩,⟨a2,n2,k2⟩,⟨a3,n3,k3⟩,⟨a4,n4,k4⟩⟩ d/\Blw w (w.alloc (.cells #[.slice a1 n1 k1,.slice a2 n2 k2,.slice a3 n3 k3,.slice a4 n4 k4] 41))/\Bk (w.alloc (.cells #[.slice a1 n1 k1,.slice a2 n2 k2,.slice a3 n3 k3,.slice a4 n4 k4] 41))):=⟨Eh.new w ⟨⟨a1,n1,k1⟩,⟨a2,n2,k2⟩,⟨a3,n3,k3⟩,⟨a4,n4,k4⟩⟩,h.below hb0,hb0,hL.below hb0⟩;clear h hL hb0;simp only;have hn4:n4<=65535:=by have:=H.out.2.1.h4.len;simp only at this;omega
 have K:=Ac (fun W (hd:DRd W ⟨⟨a1,n1,k1⟩,⟨a2,n2,k2⟩,⟨a3,n3,k3⟩,⟨a4,n4,k4⟩⟩ d) (hW:Bk W)=>Xa a4 n4 k4 d.raw W hd.h4.rd hd.h4.len hn4 hW);clear hn;have b1:((t:Int) == 1)=false:=by (rw[beq_eq_false_iff_ne];intro e;have e2:t=1:=(by omega);rw[e2]at ht;exact absurd ht (by decide))
 have b28:((t:Int) == 28)=false:=by (rw[beq_eq_false_iff_ne];intro e;have e2:t=28:=(by omega);rw[e2]at ht;exact absurd ht (by decide))
 have b2:((t:Int) == 2)=false:=by (rw[beq_eq_false_iff_ne];intro e;have e2:t=2:=(by omega);rw[e2]at ht;exact absurd ht (by decide))
 have b5:((t:Int) == 5)=false:=by (rw[beq_eq_false_iff_ne];intro e;have e2:t=5:=(by omega);rw[e2]at ht;exact absurd ht (by decide))
 have b12:((t:Int) == 12)=false:=by (rw[beq_eq_false_iff_ne];intro e;have e2:t=12:=(by omega);rw[e2]at ht;exact absurd ht (by decide))
 have b6:((t:Int) == 6)=false:=by (rw[beq_eq_false_iff_ne];intro e;have e2:t=6:=(by omega);rw[e2]at ht;exact absurd ht (by decide))
 have b15:((t:Int) == 15)=false:=by (rw[beq_eq_false_iff_ne];intro e;have e2:t=15:=(by omega);rw[e2]at ht;exact absurd ht (by decide))
 have b33:((t:Int) == 33)=false:=by (rw[beq_eq_false_iff_ne];intro e;have e2:t=33:=(by omega);rw[e2]at ht;exact absurd ht (by decide))
 have b16:((t:Int) == 16)=false:=by (rw[beq_eq_false_iff_ne];intro e;have e2:t=16:=(by omega);rw[e2]at ht;exact absurd ht (by decide))
 have b257:((t:Int) == 257)=false:=by (rw[beq_eq_false_iff_ne];intro e;have e2:t=257:=(by omega);rw[e2]at ht;exact absurd ht (by decide))
 clear ht
 all_goals
  go_enter He,Gg;have d0:=H.out.1.1;have d1:=H.out.1.2.1;have d2:=H.out.1.2.2.1;have d3:=H.out.1.2.2.2.1;simp only at d0 d1 d2 d3;go_wp2_with fail;refine(K.out _ H.out.2.1 H.out.2.2.2).mono ?_;rintro e w2 ⟨v,ys,rfl,H2⟩;have HB2:=Ac (H.out.2.2.1.trans (H2.out.2.2.mono H.out.2.2.1.size));go_wp2_with fail;go_ret;exact⟨_,ys,rfl,H2.out.1.mono H.out.2.2.1.size,H2.out.2.1,HB2.out⟩
theorem vC{w:Ab}{ops:Array Oper}{o:Oper}{a:Act}{K:Act->Ab->Prop}{Q:Exit->Act->Ab->Prop}{E:Prop}(hgd:o.guard=none)(s x:Operand)
  (ho:o.op=.call { callee:=.builtin .append,args:=#[s,x],argTypes:=#[22,22] }) (B:Nat) (v:Ao) (n:Nat) (ss l1:List ByteArray) (hs:a.eval s=v) (hown:BF B w v n ss 1000000) (ht:ss.take n=l1)
  (ao:Option Addr) (m c:Nat) (ns:List ByteArray) (hx:a.eval x=.slice ao m c) (hr:RdT w ao ns) (hl:ns.length=m) (hM:∀s∈ns,s.size<=1000000) (hb:n+m<=1000000) (hB:B<=w.heap.size)
  (h:∀v' w' ys,Hid (BF B w' v' (n+m) ys 1000000/\ys.take (n+m)=l1++ns)->Hid (w.grownBy w' v.ownBlock)->K (a.put o.dst v') w') :
  if FQ o (yielded ops a.tmps)=true then Oper.wp Aa o a w K Q else E:=by
 refine FT tyT hgd s x 22 ho B v n (tv ss) hs hown.1 (.slice ao m c) m (tv ns) hx (NE Dy hr (by rw[Jd];exact hl) (XV ns)) (by omega) (by simp only[Gi];omega) hB ?_;intro v' w' xs' h1 h2 h3 h4;obtain⟨ys,rfl,hys⟩:=ZC (M:=1000000) xs' (h4.out (QS 1000000) ⟨⟨#[]⟩,rfl,Aw _⟩ (Th hown.2) (Th hM));refine h v' w' ys ⟨⟨h1.out,hys⟩,?_⟩ h3;have h2':=h2.out;rw[Ld,Ld,<- Pt,ht]at h2';exact Ub h2'
theorem BF.small{B:Nat}{w:Ab}{v:Ao}{n:Nat}{ss l:List ByteArray}{M:Nat}(h:BF B w v n ss M)(ht:ss.take n=l):∀s∈l,s.size<=M:=by
 subst ht;exact fun s hs=>h.2 s (Be hs)
theorem vV{w W w2:Ab}{b:Nat}{x:DA}{d:Dat}(h1:Eh W b x)(h2:DRd W x d)(h3:Blw w W)(h4:Bk W)(h:Below W.drew.heap.size W.drew w2):Eh w2 b x/\DRd w2 x d/\Blw w w2/\Bk w2:=by
 have hb:Blw W w2:=((Ae W.heap.size W).drew).trans h;exact⟨h1.below hb,h2.below hb,h3.trans (hb.mono h3.size),h4.below hb⟩
theorem eB{w W w2 w3:Ab}{v1:Ao}{ao2:Option Addr}{l1 l2 y1 y2:List ByteArray}{c2:Nat}(hs:w.heap.size<=W.heap.size)(h1:BF W.drew.heap.size w2 v1 l1.length y1 1000000)(h2:y1.take l1.length=l1)(h3:Below W.drew.heap.size W.drew w2)
  (h4:BF w2.heap.size w3 (.slice ao2 l2.length c2) l2.length y2 1000000) (h5:y2.take l2.length=l2) (h6:Blw w2 w3):BF w.heap.size w3 v1 l1.length y1 1000000/\y1.take l1.length=l1/\RdT w3 ao2 l2/\(∀s∈l2,s.size<=1000000)/\w.heap.size<=w3.heap.size:=by
 refine⟨(h1.below h6).mono hs,h2,?_,h4.small h5,Aj hs (Aj h3.size h6.size)⟩;have:=h4.rd l2.length;rw[h5]at this;exact this
theorem gZ(t:Nat)(ht:t=6)(x:DA)(d:Dat)(w:Ab)(h:DRd w x d)(hp:∀n∈d.ns,nck n=0)(hn:d.ns.length<=1000)(hu:d.us.length<=1000)(hL:Bk w) :
  Ag Aa 152 #[.int .u16 t,.agg #[.slice x.p1.a x.p1.n x.p1.c,.slice x.p2.a x.p2.n x.p2.c,.slice x.p3.a x.p3.n x.p3.c,.slice x.p4.a x.p4.n x.p4.c]] w (Ij (d.ns.map (fun n=>(AN n).1)++d.us.map xnw) w):=by
 obtain⟨⟨a1,n1,k1⟩,⟨a2,n2,k2⟩,⟨a3,n3,k3⟩,⟨a4,n4,k4⟩⟩:=x;have hb0:Blw w (w.alloc (.cells #[.slice a1 n1 k1,.slice a2 n2 k2,.slice a3 n3 k3,.slice a4 n4 k4] 41)):=(Ae _ _).alloc (Ad _) _;have H:Hid (Eh (w.alloc (.cells #[.slice a1 n1 k1,.slice a2 n2 k2,.slice a3 n3 k3,.slice a4 n4 k4] 41)) w.heap.size ⟨⟨a1,n1,k1⟩,⟨a2,n2,k2⟩,⟨a3,n3,k3⟩,⟨a4,n4,k4⟩⟩/\DRd (w.alloc (.cells #[.slice a1 n1 k1,.slice a2 n2 k2,.slice a3 n3 k3,.slice a4 n4 k4] 41)) ⟨⟨a1,n1,k1⟩,⟨a2,n2,k2⟩,⟨a3,n3,k3⟩,⟨a4,n4,k4⟩⟩ d/\Blw w (w.alloc (.cells #[.slice a1 n1 k1,.slice a2 n2 k2,.slice a3 n3 k3,.slice a4 n4 k4] 41))/\Bk (w.alloc (.cells #[.slice a1 n1 k1,.slice a2 n2 k2,.slice a3 n3 k3,.slice a4 n4 k4] 41))):=⟨Eh.new w ⟨⟨a1,n1,k1⟩,⟨a2,n2,k2⟩,⟨a3,n3,k3⟩,⟨a4,n4,k4⟩⟩,h.below hb0,hb0,hL.below hb0⟩;clear h hL hb0;simp only;have hn1:n1<=1000:=by have:=H.out.2.1.h1.len;simp only at this;omega
 have hn2:n2<=1000:=by have:=H.out.2.1.h2.len;simp only at this;omega
 have HLL:Hid (d.ns.length=n1/\d.us.length=n2):=⟨H.out.2.1.h1.len,H.out.2.1.h2.len⟩;have KN:=Ac (fun W (hd:DRd W ⟨⟨a1,n1,k1⟩,⟨a2,n2,k2⟩,⟨a3,n3,k3⟩,⟨a4,n4,k4⟩⟩ d) (_:Bk W)=>Pm ⟨a1,n1,k1⟩ d.ns W hd.h1 hp (show n1<=1000000 by omega));have KU:=Ac (fun W (hd:DRd W ⟨⟨a1,n1,k1⟩,⟨a2,n2,k2⟩,⟨a3,n3,k3⟩,⟨a4,n4,k4⟩⟩ d) (hW:Bk W)=>Rx ⟨a2,n2,k2⟩ d.us W hd.h2 (show n2<=1000000 by omega) hW);clear hp hn hu;have HSN:Hid ((d.ns.map (fun n=>(AN n).1)).length=n1):=by show _=_;rw[AS];exact HLL.out.1
 have HSU:Hid ((d.us.map xnw).length=n2):=by show _=_;rw[AS];exact HLL.out.2
 generalize d.ns.map (fun n=>(AN n).1)=lN at*;generalize d.us.map xnw=lU at*;subst ht
 all_goals
  go_enter He,Gg;have d0:=H.out.1.1;have d1:=H.out.1.2.1;have d2:=H.out.1.2.2.1;have d3:=H.out.1.2.2.2.1;simp only at d0 d1 d2 d3;go_wp2_with fail;generalize (w.alloc (.cells #[.slice a1 n1 k1,.slice a2 n2 k2,.slice a3 n3 k3,.slice a4 n4 k4] 41))=wa at*
  go_region_law (first
   |(refine vC rfl _ _ rfl w.heap.size _ lN.length y1 lN rfl H4.out.1 H4.out.2.1 ao2 lU.length y2.length lU rfl H4.out.2.2.1 rfl H4.out.2.2.2.1 (by have:=HSN.out;have:=HSU.out;omega) H4.out.2.2.2.2 ?_;intro v' w' ys' hO' hG')
   |(go_simp;go_at_call 183;refine(KN.out _ (H.out.2.1.below (Ae _ _).drew) (H.out.2.2.2.below (Ae _ _).drew)).mono ?_;rintro e w2 ⟨v1,y1,rfl,H2⟩;have HA:=Ac (vV H.out.1 H.out.2.1 H.out.2.2.1 H.out.2.2.2 H2.out.2.2);have e0:=HA.out.1.1;have e1:=HA.out.1.2.1;have e2:=HA.out.1.2.2.1;have e3:=HA.out.1.2.2.2.1;simp only at e0 e1 e2 e3;obtain⟨ao1,rfl,-⟩:=H2.out.1.shape)
   |(go_simp;go_at_call 184;refine(KU.out _ HA.out.2.1 HA.out.2.2.2).mono ?_;rintro e w3 ⟨v2,y2,rfl,H3⟩;obtain⟨ao2,rfl,-⟩:=H3.out.1.shape;have H4:=Ac (eB H.out.2.2.1.size H2.out.1 H2.out.2.1 H2.out.2.2 H3.out.1 H3.out.2.1 H3.out.2.2)))
  all_goals
   have HB3:=Ac (HA.out.2.2.1.trans (H3.out.2.2.mono HA.out.2.2.1.size));have hrow:=H4.out.1.1.lt;go_wp2;go_ret;refine⟨_,ys',rfl,?_,?_,HB3.out.grown hG'.out HB3.out.size hrow⟩
   ·rw[Af];exact hO'.out.1
   ·rw[Af];exact hO'.out.2
theorem YI(t:Nat)(ht:t=15∨t=33)(x:DA)(d:Dat)(w:Ab)(h:DRd w x d)(hp:∀n∈d.ns,nck n=0)(hn:d.ns.length<=1000)(hu:d.us.length<=1000)(hL:Bk w) :
  Ag Aa 152 #[.int .u16 t,.agg #[.slice x.p1.a x.p1.n x.p1.c,.slice x.p2.a x.p2.n x.p2.c,.slice x.p3.a x.p3.n x.p3.c,.slice x.p4.a x.p4.n x.p4.c]] w (Ij (d.us.map xnw++d.ns.map (fun n=>(AN n).1)) w):=by
 obtain⟨⟨a1,n1,k1⟩,⟨a2,n2,k2⟩,⟨a3,n3,k3⟩,⟨a4,n4,k4⟩⟩:=x;have hb0:Blw w (w.alloc (.cells #[.slice a1 n1 k1,.slice a2 n2 k2,.slice a3 n3 k3,.slice a4 n4 k4] 41)):=(Ae _ _).alloc (Ad _) _;have H:Hid (Eh (w.alloc (.cells #[.slice a1 n1 k1,.slice a2 n2 k2,.slice a3 n3 k3,.slice a4 n4 k4] 41)) w.heap.size ⟨⟨a1,n1,k1⟩,⟨a2,n2,k2⟩,⟨a3,n3,k3⟩,⟨a4,n4,k4⟩⟩/\DRd (w.alloc (.cells #[.slice a1 n1 k1,.slice a2 n2 k2,.slice a3 n3 k3,.slice a4 n4 k4] 41)) ⟨⟨a1,n1,k1⟩,⟨a2,n2,k2⟩,⟨a3,n3,k3⟩,⟨a4,n4,k4⟩⟩ d/\Blw w (w.alloc (.cells #[.slice a1 n1 k1,.slice a2 n2 k2,.slice a3 n3 k3,.slice a4 n4 k4] 41))/\Bk (w.alloc (.cells #[.slice a1 n1 k1,.slice a2 n2 k2,.slice a3 n3 k3,.slice a4 n4 k4] 41))):=⟨Eh.new w ⟨⟨a1,n1,k1⟩,⟨a2,n2,k2⟩,⟨a3,n3,k3⟩,⟨a4,n4,k4⟩⟩,h.below hb0,hb0,hL.below hb0⟩;clear h hL hb0;simp only;have hn1:n1<=1000:=by have:=H.out.2.1.h1.len;simp only at this;omega
 have hn2:n2<=1000:=by have:=H.out.2.1.h2.len;simp only at this;omega
 have HLL:Hid (d.ns.length=n1/\d.us.length=n2):=⟨H.out.2.1.h1.len,H.out.2.1.h2.len⟩;have KN:=Ac (fun W (hd:DRd W ⟨⟨a1,n1,k1⟩,⟨a2,n2,k2⟩,⟨a3,n3,k3⟩,⟨a4,n4,k4⟩⟩ d) (_:Bk W)=>Pm ⟨a1,n1,k1⟩ d.ns W hd.h1 hp (show n1<=1000000 by omega));have KU:=Ac (fun W (hd:DRd W ⟨⟨a1,n1,k1⟩,⟨a2,n2,k2⟩,⟨a3,n3,k3⟩,⟨a4,n4,k4⟩⟩ d) (hW:Bk W)=>Rx ⟨a2,n2,k2⟩ d.us W hd.h2 (show n2<=1000000 by omega) hW);clear hp hn hu;have HSN:Hid ((d.ns.map (fun n=>(AN n).1)).length=n1):=by show _=_;rw[AS];exact HLL.out.1
 have HSU:Hid ((d.us.map xnw).length=n2):=by show _=_;rw[AS];exact HLL.out.2
 generalize d.ns.map (fun n=>(AN n).1)=lN at*;generalize d.us.map xnw=lU at*;obtain rfl|rfl:=ht
 all_goals
  go_enter He,Gg;have d0:=H.out.1.1;have d1:=H.out.1.2.1;have d2:=H.out.1.2.2.1;have d3:=H.out.1.2.2.2.1;simp only at d0 d1 d2 d3;go_wp2_with fail;generalize (w.alloc (.cells #[.slice a1 n1 k1,.slice a2 n2 k2,.slice a3 n3 k3,.slice a4 n4 k4] 41))=wa at*
  go_region_law (first
   |(refine vC rfl _ _ rfl w.heap.size _ lU.length y1 lU rfl H4.out.1 H4.out.2.1 ao2 lN.length y2.length lN rfl H4.out.2.2.1 rfl H4.out.2.2.2.1 (by have:=HSN.out;have:=HSU.out;omega) H4.out.2.2.2.2 ?_;intro v' w' ys' hO' hG')
   |(go_simp;go_at_call 184;refine(KU.out _ (H.out.2.1.below (Ae _ _).drew) (H.out.2.2.2.below (Ae _ _).drew)).mono ?_;rintro e w2 ⟨v1,y1,rfl,H2⟩;have HA:=Ac (vV H.out.1 H.out.2.1 H.out.2.2.1 H.out.2.2.2 H2.out.2.2);have e0:=HA.out.1.1;have e1:=HA.out.1.2.1;have e2:=HA.out.1.2.2.1;have e3:=HA.out.1.2.2.2.1;simp only at e0 e1 e2 e3;obtain⟨ao1,rfl,-⟩:=H2.out.1.shape)
   |(go_simp;go_at_call 183;refine(KN.out _ HA.out.2.1 HA.out.2.2.2).mono ?_;rintro e w3 ⟨v2,y2,rfl,H3⟩;obtain⟨ao2,rfl,-⟩:=H3.out.1.shape;have H4:=Ac (eB H.out.2.2.1.size H2.out.1 H2.out.2.1 H2.out.2.2 H3.out.1 H3.out.2.1 H3.out.2.2)))
  all_goals
   have HB3:=Ac (HA.out.2.2.1.trans (H3.out.2.2.mono HA.out.2.2.1.size));have hrow:=H4.out.1.1.lt;go_wp2;go_ret;refine⟨_,ys',rfl,?_,?_,HB3.out.grown hG'.out HB3.out.size hrow⟩
   ·rw[Af];exact hO'.out.1
   ·rw[Af];exact hO'.out.2
theorem nM(w:Ab)(s t:ByteArray):RdT (w.alloc (.cells #[.string s,.string t] 9)) (some ⟨w.heap.size,0,none⟩) [s,t]:=by
 have:=(show Co (w.alloc (.cells (tv [s,t]).toArray 9)) w.heap.size 9 (tv [s,t]) from Au _ _).rd 2;exact this
theorem sV{wa w2 w3:Ab}{v:Ao}{n:Nat}{ys:List ByteArray}(h1:BF wa.drew.heap.size w2 v n ys 1000000)(h2:Blw wa w2)(h3:Blw w2 w3)(a b:ByteArray):BF wa.heap.size (w3.alloc (.cells #[.string a,.string b] 9)) v n ys 1000000/\wa.heap.size<=(w3.alloc (.cells #[.string a,.string b] 9)).heap.size/\Blw wa (w3.alloc (.cells #[.string a,.string b] 9)):=by
 have h4:Blw w3 (w3.alloc (.cells #[.string a,.string b] 9)):=(Ae _ _).alloc (Ad _) _;have h5:Blw wa w3:=h2.trans (h3.mono h2.size);exact⟨(h1.below h3).below h4,Aj h5.size h4.size,h5.trans (h4.mono h5.size)⟩
theorem jV(t:Nat)(ht:t=257)(x:DA)(d:Dat)(w:Ab)(h:DRd w x d)(hu:d.us.length<=1000)(s0 s1:ByteArray)(hts:d.ts=[s0,s1])(hz0:s0.size<=200000)(hz1:s1.size<=200000)(hL:Bk w) :
  Ag Aa 152 #[.int .u16 t,.agg #[.slice x.p1.a x.p1.n x.p1.c,.slice x.p2.a x.p2.n x.p2.c,.slice x.p3.a x.p3.n x.p3.c,.slice x.p4.a x.p4.n x.p4.c]] w (Ij (d.us.map xnw++xtw 257 d.ts) w):=by
 obtain⟨⟨a1,n1,k1⟩,⟨a2,n2,k2⟩,⟨a3,n3,k3⟩,⟨a4,n4,k4⟩⟩:=x;have hb0:Blw w (w.alloc (.cells #[.slice a1 n1 k1,.slice a2 n2 k2,.slice a3 n3 k3,.slice a4 n4 k4] 41)):=(Ae _ _).alloc (Ad _) _;have H:Hid (Eh (w.alloc (.cells #[.slice a1 n1 k1,.slice a2 n2 k2,.slice a3 n3 k3,.slice a4 n4 k4] 41)) w.heap.size ⟨⟨a1,n1,k1⟩,⟨a2,n2,k2⟩,⟨a3,n3,k3⟩,⟨a4,n4,k4⟩⟩/\DRd (w.alloc (.cells #[.slice a1 n1 k1,.slice a2 n2 k2,.slice a3 n3 k3,.slice a4 n4 k4] 41)) ⟨⟨a1,n1,k1⟩,⟨a2,n2,k2⟩,⟨a3,n3,k3⟩,⟨a4,n4,k4⟩⟩ d/\Blw w (w.alloc (.cells #[.slice a1 n1 k1,.slice a2 n2 k2,.slice a3 n3 k3,.slice a4 n4 k4] 41))/\Bk (w.alloc (.cells #[.slice a1 n1 k1,.slice a2 n2 k2,.slice a3 n3 k3,.slice a4 n4 k4] 41))):=⟨Eh.new w ⟨⟨a1,n1,k1⟩,⟨a2,n2,k2⟩,⟨a3,n3,k3⟩,⟨a4,n4,k4⟩⟩,h.below hb0,hb0,hL.below hb0⟩;clear h hL hb0;simp only;have hn2:n2<=1000:=by have:=H.out.2.1.h2.len;simp only at this;omega
 have hn3:n3=2:=by have:=H.out.2.1.h3.len;simp only at this;rw[hts]at this;exact this.symm
 subst hn3;have HT3:=Ac H.out.2.1.h3;rw[hts]at HT3;obtain⟨b3,o3,hbo,hb3,c0⟩:=HT3.out.rd.at 0 (by simp);obtain⟨b3',o3',hbo',hb3',c1⟩:=HT3.out.rd.at 1 (by simp);simp only at hbo hbo';rw[hbo]at hbo';injection hbo' with hbo'
 injection hbo' with e1 e2
 subst e1;subst e2;subst hbo;clear hb3';simp only[List.getElem_cons_zero,List.getElem_cons_succ,Nat.add_zero]at c0 c1;have HSU:Hid ((d.us.map xnw).length=n2):=by show _=_;rw[AS];exact H.out.2.1.h2.len
 have KU:=Ac (fun W (hd:DRd W ⟨⟨a1,n1,k1⟩,⟨a2,n2,k2⟩,⟨some ⟨b3,o3,none⟩,2,k3⟩,⟨a4,n4,k4⟩⟩ d) (hW:Bk W)=>Rx ⟨a2,n2,k2⟩ d.us W hd.h2 (show n2<=1000000 by omega) hW);have KQ:=Ac (fun W=>SH s1 W (by omega));have hq:(xqw s1).size<=1000000:=by have:=Om s1;omega
 have e257:xtw 257 d.ts=[s0,xqw s1]:=by rw[hts];rfl
 rw[e257];clear hu e257 hts HT3;generalize d.us.map xnw=lU at*;generalize xqw s1=q at*;subst ht;have C3:=Ac (⟨c0,c1,hb3⟩:_/\_/\_);go_enter He,Gg;have d0:=H.out.1.1;have d1:=H.out.1.2.1;have d2:=H.out.1.2.2.1;have d3:=H.out.1.2.2.2.1;simp only at d0 d1 d2 d3;go_wp2_with fail;generalize (w.alloc (.cells #[.slice a1 n1 k1,.slice a2 n2 k2,.slice (some ⟨b3,o3,none⟩) 2 k3,.slice a4 n4 k4] 41))=wa at*;have hbx:w.heap.size<wa.heap.size:=H.out.1.2.2.2.2;have HSC:Hid (∀W,Blw wa W->W.cell? ⟨w.heap.size,1,none⟩=some (.slice a2 n2 k2)/\W.cell? ⟨w.heap.size,2,none⟩=some (.slice (some ⟨b3,o3,none⟩) 2 k3)/\W.cell? ⟨b3,o3,none⟩=some (.string s0)/\W.cell? ⟨b3,o3+1,none⟩=some (.string s1)):=fun W hW=>⟨(hW.cell (p:=⟨w.heap.size,1,none⟩) hbx).trans d1,(hW.cell (p:=⟨w.heap.size,2,none⟩) hbx).trans d2,(hW.cell (p:=⟨b3,o3,none⟩) C3.out.2.2).trans C3.out.1,(hW.cell (p:=⟨b3,o3+1,none⟩) C3.out.2.2).trans C3.out.2.1⟩
 have HDD:Hid (∀W,Blw wa W->DRd W ⟨⟨a1,n1,k1⟩,⟨a2,n2,k2⟩,⟨some ⟨b3,o3,none⟩,2,k3⟩,⟨a4,n4,k4⟩⟩ d/\Bk W):=fun W hW=>⟨H.out.2.1.below hW,H.out.2.2.2.below hW⟩
 have HWA:Hid (Blw w wa):=H.out.2.2.1;clear d0 d3 H C3
 go_region_held3 (fun W=>W.cell? ⟨w.heap.size,1,none⟩=some (.slice a2 n2 k2)/\W.cell? ⟨w.heap.size,2,none⟩=some (.slice (some ⟨b3,o3,none⟩) 2 k3)/\W.cell? ⟨b3,o3,none⟩=some (.string s0)/\W.cell? ⟨b3,o3+1,none⟩=some (.string s1)) (exact⟨by go_keep,by go_keep,by go_keep,by go_keep⟩) (first
  |(go_at_call 184;refine(KU.out _ (HDD.out _ (Ae _ _).drew).1 (HDD.out _ (Ae _ _).drew).2).mono ?_;rintro e w2 ⟨v1,y1,rfl,H2⟩;have HB2:Hid (Blw wa w2):=(Ae wa.heap.size wa).drew.trans H2.out.2.2;obtain⟨e1,e2,e3,e4⟩:=HSC.out w2 HB2.out;obtain⟨ao1,rfl,-⟩:=H2.out.1.shape)
  |(go_at_call 186;refine(KQ.out _).mono ?_;rintro e w3 ⟨rfl,H3⟩;have HB3:Hid (Blw wa w3):=HB2.out.trans (H3.out.mono HB2.out.size);obtain⟨f1,f2,f3,f4⟩:=HSC.out w3 HB3.out;have H5:Hid (BF wa.heap.size (w3.alloc (.cells #[.string s0,.string q] 9)) (.slice ao1 lU.length y1.length) lU.length y1 1000000/\wa.heap.size<=(w3.alloc (.cells #[.string s0,.string q] 9)).heap.size/\Blw wa (w3.alloc (.cells #[.string s0,.string q] 9))):=sV H2.out.1 HB2.out H3.out s0 q;obtain⟨i1,i2,i3,i4⟩:=HSC.out _ H5.out.2.2)
  |(refine vC rfl _ _ rfl wa.heap.size _ lU.length y1 lU rfl H5.out.1 H2.out.2.1 (some ⟨w3.heap.size,0,none⟩) 2 2 [s0,q] rfl (nM w3 s0 q) rfl (by intro s hs;simp at hs;obtain rfl|rfl:=hs <;> omega) (by have:=HSU.out;omega) H5.out.2.1 ?_;intro v' w' ys' hO' hG';have HB5:Hid (Blw wa w'):=H5.out.2.2.grown hG'.out H5.out.2.1 H5.out.1.1.lt;obtain⟨j1,j2,j3,j4⟩:=HSC.out w' HB5.out))
 all_goals
  go_wp2;go_ret;refine⟨_,ys',rfl,?_,?_,HWA.out.trans (HB5.out.mono HWA.out.size)⟩
  ·rw[Af];exact hO'.out.1.mono HWA.out.size
  ·rw[Af];exact hO'.out.2
end Go.Proofs.YtoppdmlmhigogaaGreatDoor
