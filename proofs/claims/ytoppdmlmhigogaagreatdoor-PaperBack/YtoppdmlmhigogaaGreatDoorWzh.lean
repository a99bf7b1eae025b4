/- Texts laid together, in parts: Pn Qc Qv Qk Ya Yb Yc Qe Qm Yd Ye Yf. -/
import Derived.Test.YtoppdmlmhigogaaGreatDoorWzg
set_option maxRecDepth 100000
set_option maxHeartbeats 8000000
set_option linter.unusedVariables false
set_option linter.unusedSimpArgs false
open Bool renaming and_eq_true → AA, or_eq_true → Ct
open ByteArray renaming size → LM
open Go renaming World → Ab, Calls → Ag, bodyPost_ret → An, Value → Ao, heap_alloc_new → Au, results → AJ, TypeId → BH, maxLen → Gi
open Go.Lib renaming hid → Ac, byteCells → Ak, byteCells_length → Dr
open Go.Proofs.Tryz renaming prog → Aa, underlying22 → Dy, ntmps217 → Fh, func217 → FR, results216 → Hf, results198 → OF
open Go.Region renaming wanted → FQ
open Go.RowKit.Below renaming refl → Ae, heap_setCell → Ar
open Go.World renaming size_setCell → JE
open List renaming length_append → Af, take_of_length_le → Al, length_eq_zero_iff → Aq, getElem?_eq_getElem → AF, mem_append → AG, all_eq_true → AO, length_cons → AP, length_map → AS, getElem_mem → AU, mem_map → AY, take_append_drop → BE, flatMap_cons → Cn, flatMap_append → Dm
open Nat renaming le_refl → Ad, zero_le → Aw, le_succ_of_le → EJ
open Option renaming bind_some → BL, bind_eq_some_iff → Dg
open Option.some renaming inj → Bf
namespace Go.Proofs.YtoppdmlmhigogaaGreatDoor
open Go.ChangeShapes Go.WideShapes Go.ChangeAt Go.RowKit
theorem eV(t:Nat)(x:DA)(d:Dat)(w:Ab)(h:DRd w x d)(hc:Bw t d=0)(hB:Bd d)(hL:Bk w) :
  Ag Aa 152 #[.int .u16 t,.agg #[.slice x.p1.a x.p1.n x.p1.c,.slice x.p2.a x.p2.n x.p2.c,.slice x.p3.a x.p3.n x.p3.c,.slice x.p4.a x.p4.n x.p4.c]] w (Ij (AZ t d) w):=by
 obtain⟨hm,hf,hn,hz⟩:=Eg hc;have hns:=hB.n;have hus:=hB.u;have hrl:d.raw.length<=65535:=by unfold Jf at hz;omega
 unfold Ir at hf;simp only[AA,decide_eq_true_eq,Ct,AO]at hf;obtain⟨⟨⟨⟨⟨⟨⟨f1,f2⟩,f3⟩,f4⟩,f5⟩,f6⟩,f7⟩,f8⟩:=hf;obtain⟨ht,e⟩|⟨ht,e⟩|⟨ht,e⟩|⟨ht,e⟩|⟨ht,e⟩|⟨ht,e⟩|⟨ht,e⟩|⟨ht,e⟩|⟨ht,e⟩:=Gc t;all_goals rw[e]at f1 f2 f3 f4 f5 f6
 all_goals simp only at f1 f2 f3 f4 f5 f6
 ·have hx:AZ t d=[lb ((Fl d.raw).getD [])]:=by unfold AZ;rw[if_pos (.inl ht)]
  rw[hx];exact SQ t (.inl ht) x d w h (.inl (by omega)) hL
 ·have hx:AZ t d=[lb ((Fl d.raw).getD [])]:=by unfold AZ;rw[if_pos (.inr ht)]
  rw[hx];exact SQ t (.inr ht) x d w h (.inr (by omega)) hL
 ·have e2:d.us=[]:=Aq.1 f2;have e3:d.ts=[]:=Aq.1 (by omega);have hx:AZ t d=d.ns.map (fun n=>(AN n).1):=by
   unfold AZ;rw[if_neg (by omega),if_neg (by obtain rfl|rfl|rfl:=ht <;> decide),if_neg (by omega),e2,e3];unfold xtw;rw[if_neg (by omega)];simp
  rw[hx];exact Yh t ht x d w h hn hns hL
 ·have hx:AZ t d=d.ns.map (fun n=>(AN n).1)++d.us.map xnw:=by
   subst ht;unfold AZ;rw[if_neg (by omega),if_neg (by decide),if_pos rfl]
  rw[hx];exact gZ t ht x d w h hn hns hus hL
 ·have e3:d.ts=[]:=Aq.1 (by omega);have hx:AZ t d=d.us.map xnw++d.ns.map (fun n=>(AN n).1):=by
   subst ht;unfold AZ;rw[if_neg (by omega),if_neg (by decide),if_neg (by omega),e3];unfold xtw;rw[if_neg (by omega)];simp
  rw[hx];exact YI t (.inl ht) x d w h hn hns hus hL
 ·have e3:d.ts=[]:=Aq.1 (by omega);have hx:AZ t d=d.us.map xnw++d.ns.map (fun n=>(AN n).1):=by
   subst ht;unfold AZ;rw[if_neg (by omega),if_neg (by decide),if_neg (by omega),e3];unfold xtw;rw[if_neg (by omega)];simp
  rw[hx];exact YI t (.inr ht) x d w h hn hns hus hL
 ·have e1:d.ns=[]:=Aq.1 f1;have e2:d.us=[]:=Aq.1 f2;have hx:AZ t d=d.ts.map xqw:=by
   subst ht;unfold AZ;rw[if_neg (by omega),if_neg (by decide),if_neg (by omega),e1,e2];unfold xtw;rw[if_neg (by omega)];simp
  have h7:∀s∈d.ts,s.size<=255:=by
   obtain h|h:=f7
   ·exact absurd ht h
   ·exact h
  have hl:d.ts.length<=65535:=by
   have h1:tsz t d.ts<=65535:=by unfold Jf at hz;omega
   unfold tsz at h1;rw[if_pos ht]at h1;have h2:=Ot d.ts;have h3:=Gt d.ts;omega
  rw[hx];exact fY t ht x d w h (fun s hs=>by have:=h7 s hs;omega) (by omega) hL
 ·match hts:d.ts,f3 with
  |[s0,s1],_=>
   have hx:AZ t d=d.us.map xnw++xtw 257 d.ts:=by
    have e1:d.ns=[]:=Aq.1 f1;subst ht;unfold AZ;rw[if_neg (by omega),if_neg (by decide),if_neg (by omega),e1];simp
   have h1:tsz t d.ts<=65535:=by unfold Jf at hz;omega
   unfold tsz at h1;rw[if_neg (by omega),hts]at h1;simp only[Cn,List.flatMap_nil,List.append_nil,Av]at h1;rw[hx];exact jV t ht x d w h hus s0 s1 hts (by omega) (by omega) hL
  |[],f3=>simp at f3
  |[a],f3=>simp at f3
  |a::b::c::r,f3=>simp at f3;omega
 ·obtain⟨h1,h2,h3,h4,h5,h6,h7,h8,h9,h10⟩:=ht;have hk:xkn t=false:=by simp[xkn,h1,h2,h3,h4,h5,h6,h7,h8,h9,h10]
  have hx:AZ t d=PD d.raw:=by
   unfold AZ PD;rw[if_neg (by omega),if_pos hk]
  rw[hx];exact cU t hk x d w h hrl hL
def Gw(t:Nat)(d:Dat):List ByteArray:=if Bw t d=0 then AZ t d else[]
def Gr(t:Nat)(d:Dat):ByteArray:=lb (Dj 32 ((Gw t d).map Ai))
def jG(t:Nat)(d:Dat)(w:Ab)(e:Ending)(w':Ab):Prop:=
 ∃v ys,e=.returned (.tuple #[v,.int .i64 (Bw t d)])/\Hid (BF w.heap.size w' v (Gw t d).length ys 1000000/\ys.take (Gw t d).length=Gw t d/\Blw w w')
theorem dD(t:Nat)(x:DA)(d:Dat)(w:Ab)(h:DRd w x d)(hB:Bd d)(hL:Bk w) :
  Ag Aa 112 #[.int .u16 t,.agg #[.slice x.p1.a x.p1.n x.p1.c,.slice x.p2.a x.p2.n x.p2.c,.slice x.p3.a x.p3.n x.p3.c,.slice x.p4.a x.p4.n x.p4.c]] w (jG t d w):=by
 obtain⟨⟨a1,n1,k1⟩,⟨a2,n2,k2⟩,⟨a3,n3,k3⟩,⟨a4,n4,k4⟩⟩:=x;have hb0:Blw w (w.alloc (.cells #[.slice a1 n1 k1,.slice a2 n2 k2,.slice a3 n3 k3,.slice a4 n4 k4] 41)):=(Ae _ _).alloc (Ad _) _;have H:Hid (Eh (w.alloc (.cells #[.slice a1 n1 k1,.slice a2 n2 k2,.slice a3 n3 k3,.slice a4 n4 k4] 41)) w.heap.size ⟨⟨a1,n1,k1⟩,⟨a2,n2,k2⟩,⟨a3,n3,k3⟩,⟨a4,n4,k4⟩⟩/\DRd (w.alloc (.cells #[.slice a1 n1 k1,.slice a2 n2 k2,.slice a3 n3 k3,.slice a4 n4 k4] 41)) ⟨⟨a1,n1,k1⟩,⟨a2,n2,k2⟩,⟨a3,n3,k3⟩,⟨a4,n4,k4⟩⟩ d/\Blw w (w.alloc (.cells #[.slice a1 n1 k1,.slice a2 n2 k2,.slice a3 n3 k3,.slice a4 n4 k4] 41))/\Bk (w.alloc (.cells #[.slice a1 n1 k1,.slice a2 n2 k2,.slice a3 n3 k3,.slice a4 n4 k4] 41))):=⟨Eh.new w ⟨⟨a1,n1,k1⟩,⟨a2,n2,k2⟩,⟨a3,n3,k3⟩,⟨a4,n4,k4⟩⟩,h.below hb0,hb0,hL.below hb0⟩;have KC:=Ac (fun W (hd:DRd W ⟨⟨a1,n1,k1⟩,⟨a2,n2,k2⟩,⟨a3,n3,k3⟩,⟨a4,n4,k4⟩⟩ d)=>MG t ⟨⟨a1,n1,k1⟩,⟨a2,n2,k2⟩,⟨a3,n3,k3⟩,⟨a4,n4,k4⟩⟩ d W hd hB);have KT:=Ac (fun(hc:Bw t d=0) W (hd:DRd W ⟨⟨a1,n1,k1⟩,⟨a2,n2,k2⟩,⟨a3,n3,k3⟩,⟨a4,n4,k4⟩⟩ d) (hW:Bk W)=>eV t ⟨⟨a1,n1,k1⟩,⟨a2,n2,k2⟩,⟨a3,n3,k3⟩,⟨a4,n4,k4⟩⟩ d W hd hc hB hW);clear h hL hb0 hB;simp only at KC KT ⊢;have HWR:Hid (Gw t d=if Bw t d=0 then AZ t d else[]):=rfl;obtain⟨C,hC⟩:∃C,Bw t d=C:=⟨_,rfl⟩;have HC:Hid (Bw t d=C):=hC;rw[hC]at KC KT HWR;clear hC;go_enter Tryz.func112,Tryz.ntmps112;have d0:=H.out.1.1;have d1:=H.out.1.2.1;have d2:=H.out.1.2.2.1;have d3:=H.out.1.2.2.2.1;simp only at d0 d1 d2 d3
 go_wp2_with fail;generalize (w.alloc (.cells #[.slice a1 n1 k1,.slice a2 n2 k2,.slice a3 n3 k3,.slice a4 n4 k4] 41))=wa at*;refine(KC.out _ H.out.2.1).mono ?_;rintro e w2 ⟨rfl,H2⟩;have HA:=Ac (⟨H.out.1.below H2.out,H.out.2.1.below H2.out,H.out.2.2.1.trans (H2.out.mono H.out.2.2.1.size),H.out.2.2.2.below H2.out⟩:Eh w2 _ _/\DRd w2 _ _/\Blw w w2/\Bk w2);clear d0 d1 d2 d3 H2 H KC;by_cases h0:C=0
 ·subst h0;rw[if_pos rfl]at HWR;have d0:=HA.out.1.1;have d1:=HA.out.1.2.1;have d2:=HA.out.1.2.2.1;have d3:=HA.out.1.2.2.2.1;simp only at d0 d1 d2 d3;go_wp2_with fail;refine(KT.out (by first|rfl|trivial) _ HA.out.2.1 HA.out.2.2.2).mono ?_;rintro e w3 ⟨v,ys,rfl,H3⟩;have HB3:=Ac (HA.out.2.2.1.trans (H3.out.2.2.mono HA.out.2.2.1.size));go_wp2_with fail;go_ret2;refine⟨_,ys,by rw[HC.out];rfl,?_⟩;rw[HWR.out];exact⟨H3.out.1.mono HA.out.2.2.1.size,H3.out.2.1,HB3.out⟩
 ·have h0':(C != 0)=true:=by simp[h0]
  rw[if_neg h0]at HWR;go_wp2_with fail;go_ret2;refine⟨.slice none 0 0,[],by rw[HC.out];rfl,?_⟩;rw[HWR.out];exact⟨BF.nil _ _ _,rfl,HA.out.2.2.1⟩
theorem WP(t:Nat)(x:DA)(d:Dat)(w:Ab)(h:DRd w x d)(hB:Bd d)(hL:Bk w)(hlw:(Gw t d).length<=100000) :
  Ag Aa 80 #[.int .u16 t,.agg #[.slice x.p1.a x.p1.n x.p1.c,.slice x.p2.a x.p2.n x.p2.c,.slice x.p3.a x.p3.n x.p3.c,.slice x.p4.a x.p4.n x.p4.c]] w fun e w'=>e=.returned (.tuple #[.string (Gr t d),.int .i64 (Bw t d)])/\Hid (Blw w w'):=by
 obtain⟨⟨a1,n1,k1⟩,⟨a2,n2,k2⟩,⟨a3,n3,k3⟩,⟨a4,n4,k4⟩⟩:=x;have hb0:Blw w (w.alloc (.cells #[.slice a1 n1 k1,.slice a2 n2 k2,.slice a3 n3 k3,.slice a4 n4 k4] 41)):=(Ae _ _).alloc (Ad _) _;have H:Hid (Eh (w.alloc (.cells #[.slice a1 n1 k1,.slice a2 n2 k2,.slice a3 n3 k3,.slice a4 n4 k4] 41)) w.heap.size ⟨⟨a1,n1,k1⟩,⟨a2,n2,k2⟩,⟨a3,n3,k3⟩,⟨a4,n4,k4⟩⟩/\DRd (w.alloc (.cells #[.slice a1 n1 k1,.slice a2 n2 k2,.slice a3 n3 k3,.slice a4 n4 k4] 41)) ⟨⟨a1,n1,k1⟩,⟨a2,n2,k2⟩,⟨a3,n3,k3⟩,⟨a4,n4,k4⟩⟩ d/\Blw w (w.alloc (.cells #[.slice a1 n1 k1,.slice a2 n2 k2,.slice a3 n3 k3,.slice a4 n4 k4] 41))/\Bk (w.alloc (.cells #[.slice a1 n1 k1,.slice a2 n2 k2,.slice a3 n3 k3,.slice a4 n4 k4] 41))):=⟨Eh.new w ⟨⟨a1,n1,k1⟩,⟨a2,n2,k2⟩,⟨a3,n3,k3⟩,⟨a4,n4,k4⟩⟩,h.below hb0,hb0,hL.below hb0⟩;have KC:=Ac (dD t ⟨⟨a1,n1,k1⟩,⟨a2,n2,k2⟩,⟨a3,n3,k3⟩,⟨a4,n4,k4⟩⟩ d (w.alloc (.cells #[.slice a1 n1 k1,.slice a2 n2 k2,.slice a3 n3 k3,.slice a4 n4 k4] 41)) H.out.2.1 hB H.out.2.2.2);clear h hL hb0 hB;simp only at KC ⊢;have HTR:Hid (Gr t d=lb (Dj 32 ((Gw t d).map Ai))):=rfl;unfold jG at KC;generalize Gw t d=l at*;go_enter Tryz.func80,Tryz.ntmps80;have d0:=H.out.1.1;have d1:=H.out.1.2.1;have d2:=H.out.1.2.2.1;have d3:=H.out.1.2.2.2.1;simp only at d0 d1 d2 d3;go_wp2_with fail;generalize (w.alloc (.cells #[.slice a1 n1 k1,.slice a2 n2 k2,.slice a3 n3 k3,.slice a4 n4 k4] 41))=wa at*;refine KC.out.mono ?_;rintro e w2 ⟨v,ys,rfl,H2⟩;have HB2:=Ac (H.out.2.2.1.trans (H2.out.2.2.mono H.out.2.2.1.size))
 obtain⟨ao,rfl,hnil⟩:=H2.out.1.shape;have KJ:Hid (Ag Aa 113 #[.slice ao l.length ys.length,.string ⟨#[32]⟩] w2 fun e w'=>e=.returned (.string (Gr t d))/\Hid (Blw w2 w')):=by
  have hr:=H2.out.1.rd l.length;rw[H2.out.2.1]at hr;have hs:=H2.out.1.small H2.out.2.1;have hm:=Gb 32 (l.map Ai) 1000000 (by
   intro p hp;obtain⟨s,hs',rfl⟩:=AY.1 hp;rw[Av];exact hs s hs')
  rw[AS]at hm;have hm2:l.length*(1000000+1)<=100000*1000001:=Nat.mul_le_mul_right _ hlw;rw[HTR.out];exact Si 32 ao l.length ys.length l w2 hr rfl H2.out.1.le.1 (by omega) (by show(Dj 32 _).length<=_;omega)
 clear KC H2 hnil d0 d1 d2 d3 HTR;generalize l.length=n at*;generalize ys.length=yl at*;obtain⟨R,hR⟩:∃R,Gr t d=R:=⟨_,rfl⟩;have HRR:Hid (Gr t d=R):=hR;rw[hR]at KJ;clear hR;go_wp2_with fail;refine KJ.out.mono ?_;rintro e w3 ⟨rfl,H3⟩;have HB3:=Ac (HB2.out.trans (H3.out.mono HB2.out.size));go_wp2_with fail;go_ret2;exact⟨by rw[HRR.out];rfl,HB3.out⟩
theorem EI.blk{B:Nat}{w:Ab}{t:BH}{v:Ao}{n:Nat}{xs:List Ao}(h:EI B w t v n xs):∀g,v.ownBlock=some g->Co w g t xs:=by
 intro g hg;obtain⟨rfl,_⟩|⟨g',rfl,_,h3,_⟩:=h
 ·cases hg
 ·have:g'=g:=Bf hg;subst this;exact h3
theorem EI.off{B:Nat}{w w':Ab}{t t':BH}{v:Ao}{n:Nat}{xs:List Ao}(h:EI B w t v n xs){o:Option Nat}(hg:w.grownBy w' o)(ho:∀j,o=some j->∃zs,Co w j t' zs)(hne:t≠t'):EI B w' t v n xs:=
 h.keep fun g e hlt=>hg.block g hlt (fun e'=>by obtain⟨zs,hz⟩:=ho g e'.symm;exact absurd (TR (h.blk g e) hz) hne)
theorem BU.off{B:Nat}{w w':Ab}{t':BH}{s:Sl}{us:List ByteArray}(h:BU B w s us){o:Option Nat}(hg:w.grownBy w' o)(ho:∀j,o=some j->∃zs,Co w j t' zs)(hne:(9:BH)≠t'):BU B w' s us:=by
 obtain⟨ys,⟨h1,h2⟩,h3⟩:=h;exact⟨ys,⟨h1.off hg ho hne,h2⟩,h3⟩
theorem Dk.off{B:Nat}{w w':Ab}{t':BH}{v:Ao}{us:List (List ByteArray)}(h:Dk B w v us){o:Option Nat}(hg:w.grownBy w' o)(ho:∀j,o=some j->∃zs,Co w j t' zs)(hne:(9:BH)≠t'∨us=[])(hne':(23:BH)≠t'):Dk B w' v us:=by
 obtain⟨xs,h1,h2⟩:=h;refine⟨xs,h1.off hg ho hne',fun i hi=>?_⟩;obtain hne|rfl:=hne
 ·obtain⟨s,e1,e2⟩:=h2 i hi;exact⟨s,e1,e2.off hg ho hne⟩
 ·simp at hi
theorem Ea.off{B:Nat}{w w':Ab}{t':BH}{s:Sl}{us:List Nat}(h:Ea B w s us){o:Option Nat}(hg:w.grownBy w' o)(ho:∀j,o=some j->∃zs,Co w j t' zs)(hne:(36:BH)≠t'):Ea B w' s us:=by
 obtain⟨xs,h1,h2⟩:=h;exact⟨xs,h1.off hg ho hne,h2⟩
theorem GO.off{B:Nat}{w w':Ab}{t':BH}{s:Sl}{zs:List Int}(h:GO B w s zs){o:Option Nat}(hg:w.grownBy w' o)(ho:∀j,o=some j->∃zs,Co w j t' zs)(hne:(5:BH)≠t'):GO B w' s zs:=by
 obtain⟨ys,q1,q2⟩:=h;refine⟨ys,?_,q2⟩;obtain q|⟨g,e1,e2,e3,e4⟩:=q1
 ·exact .inl q
 ·refine .inr ⟨g,e1,e2,e3.same (hg.block g e3.lt (fun e=>?_)),e4⟩;obtain⟨zs,hz⟩:=ho g e.symm;have:=hz.symm.trans e3.1;simp at this;exact absurd this.2.symm hne
theorem RX.app2{w0 w w':Ab}{wa:Option Addr}{n c:Nat}{oa:Option Addr}{on oc:Nat}{x:DA}{bad:Bool}{d:Dat}(h:RX w0 w wa n c oa on oc x bad d){o:Option Nat}(hg:w.grownBy w' o)(ho:∀j,o=some j->w0.heap.size+1<=j/\∃zs,Co w j 36 zs)
  (t':Sl) (us':List Nat) (hN:Ea (w0.heap.size+1) w' t' us'):RX w0 (w'.setCell ⟨w0.heap.size,3,none⟩ (.slice t'.a t'.n t'.c)) wa n c oa on oc ⟨x.p1,t',x.p3,x.p4⟩ bad ⟨d.ns,us',d.ts,d.raw⟩:=by
 obtain⟨h1,h2⟩:=h.grown hg (fun j e=>(ho j e).1);have hk:∀j,w0.heap.size+1<=j->j<w'.heap.size->(w'.setCell ⟨w0.heap.size,3,none⟩ (.slice t'.a t'.n t'.c)).heap[j]?=w'.heap[j]?:=fun j hj _=>Ar _ _ _ j (by show j≠w0.heap.size;omega)
 have ho':=fun j e=>(ho j e).2
 exact⟨h1.set3 t',⟨(h.own.1.off hg ho' (.inl (by decide)) (by decide)).keep hk,hN.keep hk,(h.own.2.2.1.off hg ho' (by decide)).keep (fun j a b _=>hk j a b),(h.own.2.2.2.off hg ho' (by decide)).keep hk⟩,h2.setCell (show w0.heap.size<=(⟨w0.heap.size,3,none⟩:Addr).block from Ad _) _⟩
theorem RX.app3{w0 w w':Ab}{wa:Option Addr}{n c:Nat}{oa:Option Addr}{on oc:Nat}{x:DA}{bad:Bool}{d:Dat}(h:RX w0 w wa n c oa on oc x bad d)(hns:d.ns=[]){o:Option Nat}(hg:w.grownBy w' o)(ho:∀j,o=some j->w0.heap.size+1<=j/\∃zs,Co w j 9 zs)
  (t':Sl) (ts':List ByteArray) (hN:BU (w0.heap.size+1) w' t' ts'):RX w0 (w'.setCell ⟨w0.heap.size,4,none⟩ (.slice t'.a t'.n t'.c)) wa n c oa on oc ⟨x.p1,x.p2,t',x.p4⟩ bad ⟨d.ns,d.us,ts',d.raw⟩:=by
 obtain⟨h1,h2⟩:=h.grown hg (fun j e=>(ho j e).1);have hk:∀j,w0.heap.size+1<=j->j<w'.heap.size->(w'.setCell ⟨w0.heap.size,4,none⟩ (.slice t'.a t'.n t'.c)).heap[j]?=w'.heap[j]?:=fun j hj _=>Ar _ _ _ j (by show j≠w0.heap.size;omega)
 have ho':=fun j e=>(ho j e).2
 exact⟨h1.set4 t',⟨(h.own.1.off hg ho' (.inr hns) (by decide)).keep hk,(h.own.2.1.off hg ho' (by decide)).keep hk,hN.keep (fun j a b _=>hk j a b),(h.own.2.2.2.off hg ho' (by decide)).keep hk⟩,h2.setCell (show w0.heap.size<=(⟨w0.heap.size,4,none⟩:Addr).block from Ad _) _⟩
theorem RX.put4{w0 w:Ab}{wa:Option Addr}{n c:Nat}{oa:Option Addr}{on oc:Nat}{x:DA}{bad:Bool}{d:Dat}(h:RX w0 w wa n c oa on oc x bad d)(t':Sl)(zs:List Int)(hN:GO (w0.heap.size+1) w t' zs) :
  RX w0 (w.setCell ⟨w0.heap.size,5,none⟩ (.slice t'.a t'.n t'.c)) wa n c oa on oc ⟨x.p1,x.p2,x.p3,t'⟩ bad ⟨d.ns,d.us,d.ts,zs⟩:=by
 have hk:∀j,w0.heap.size+1<=j->j<w.heap.size->(w.setCell ⟨w0.heap.size,5,none⟩ (.slice t'.a t'.n t'.c)).heap[j]?=w.heap[j]?:=fun j hj _=>Ar _ _ _ j (by show j≠w0.heap.size;omega)
 exact⟨h.blk.set5 t',⟨h.own.1.keep hk,h.own.2.1.keep hk,h.own.2.2.1.keep (fun j a b _=>hk j a b),hN.keep hk⟩,h.bel.setCell (show w0.heap.size<=(⟨w0.heap.size,5,none⟩:Addr).block from Ad _) _⟩
theorem fD{w:Ab}{ops:Array Oper}{o:Oper}{a:Act}{K:Act->Ab->Prop}{Q:Exit->Act->Ab->Prop}{E:Prop}(hgd:o.guard=none)(s x:Operand)
  (ho:o.op=.call { callee:=.builtin .append,args:=#[s,x],argTypes:=#[38,38] }) (B:Nat) (s2:Sl) (us:List Nat) (hs:a.eval s=.slice s2.a s2.n s2.c) (hown:Ea B w s2 us)
  (ao:Addr) (hx:a.eval x=.slice (some ao) 1 1) (u:Nat) (hr:RdV w (some ao) [.int .u32 (u:Int)]) (hu:u<=4294967295) (hn:us.length<=1000) (hB:B<=w.heap.size)
  (h:∀(t':Sl) w',Hid (Ea B w' t' (us++[u]))->Hid (∃o,w.grownBy w' o/\∀j,o=some j->B<=j/\∃zs,Co w j 36 zs)->K (a.put o.dst (.slice t'.a t'.n t'.c)) w') :
  if FQ o (yielded ops a.tmps)=true then Oper.wp Aa o a w K Q else E:=by
 refine mS hgd s x ho B s2 us hs hown ao hx u hr hu hn hB ?_;intro t' w' h1 h2;obtain⟨xs,hx1,_⟩:=hown;exact h t' w' h1 ⟨_,h2.out.1,fun j e=>⟨h2.out.2 j e,xs,hx1.blk j e⟩⟩
theorem Zw{w:Ab}{ops:Array Oper}{o:Oper}{a:Act}{K:Act->Ab->Prop}{Q:Exit->Act->Ab->Prop}{E:Prop}(hgd:o.guard=none)(s x:Operand)
  (ho:o.op=.call { callee:=.builtin .append,args:=#[s,x],argTypes:=#[22,22] }) (B:Nat) (s3:Sl) (ts:List ByteArray) (hs:a.eval s=.slice s3.a s3.n s3.c) (hown:BU B w s3 ts)
  (ao:Addr) (hx:a.eval x=.slice (some ao) 1 1) (u:ByteArray) (hr:RdT w (some ao) [u]) (hu:u.size<=1000000000000) (hn:ts.length<=1000000) (hB:B<=w.heap.size)
  (h:∀(t':Sl) w',Hid (BU B w' t' (ts++[u]))->Hid (∃o,w.grownBy w' o/\∀j,o=some j->B<=j/\∃zs,Co w j 9 zs)->K (a.put o.dst (.slice t'.a t'.n t'.c)) w') :
  if FQ o (yielded ops a.tmps)=true then Oper.wp Aa o a w K Q else E:=by
 obtain⟨ss,⟨q1,q2⟩,q3⟩:=hown;have hM:∀s∈[u],s.size<=1000000000000:=by intro s hs;simp at hs;subst hs;exact hu
 refine FT tyT hgd s x 22 ho B _ ts.length (tv ss) hs q1 _ 1 (tv [u]) hx (NE Dy hr rfl (XV [u])) (by omega) (by simp only[Gi];omega) hB ?_;intro v' w' xs' h1 h2 h3 h4;obtain⟨ys,rfl,hys⟩:=ZC (M:=1000000000000) xs' (h4.out (QS 1000000000000) ⟨⟨#[]⟩,rfl,Aw _⟩ (Th q2) (Th hM));obtain⟨ao',rfl,_⟩:=h1.out.shape;have h2':=h2.out;rw[Ld,Ld,<- Pt,q3]at h2';have h5:=Ub h2';rw[Jd]at h1 ⊢;exact h ⟨ao',ts.length+1,ys.length⟩ w' ⟨ys,⟨by simpa using h1.out,hys⟩,by simpa using h5⟩ ⟨_,h3.out,fun j e=>⟨q1.lt j e,_,q1.blk j e⟩⟩
theorem SB(w0 w:Ab)(wa:Option Addr)(c:Nat)(oa:Option Addr)(on oc:Nat)(x:DA)(bad:Bool)(d:Dat)(h:RX w0 w wa 0 c oa on oc x bad d) :
  Ag Aa 248 #[.pointer (some ⟨w0.heap.size,0,none⟩)] w fun e w'=>e=.returned (.string ⟨#[]⟩)/\Hid (RX w0 w' wa 0 c oa on oc x true d):=by
 have HX:=Ac h;have d0:=h.blk.cells.1;have f6:=h.blk.fz 6;have d6:=h.blk.cells.2.2.2.2.2.2;clear h;go_enter Tryz.func248,Tryz.ntmps248;go_wp2_with fail;go_ret;exact⟨rfl,HX.out.bad true⟩
def DZ(ps:List Wd):List UInt8:=ps.flatMap fun p=>p.1.data.toList
theorem Td(ps:List Wd)(k:Nat)(h:k<ps.length):DZ (ps.take (k+1))=DZ (ps.take k)++ps[k].1.data.toList:=by
 unfold DZ;rw[List.take_add_one,AF h,Option.toList_some,Dm];simp
theorem pH(ps:List Wd)(k:Nat):(DZ (ps.take k)).length<=(DZ ps).length:=by
 have:DZ ps=DZ (ps.take k)++DZ (ps.drop k):=by
  unfold DZ;rw[<- Dm,BE]
 rw[this];simp
theorem aU(a b:List UInt8):Ak (a++b)=Ak a++Ak b:=by simp[Ak]
theorem G2.below{B b:Nat}{w w':Ab}{bs:List Ao}(h:G2 B w b bs)(hb:Blw w w'):G2 B w' b bs:=by
 obtain⟨h1,h2⟩|⟨v,h1,h2,h3,h4⟩:=h
 ·exact .inl ⟨h1.same (hb.block _ h1.lt),h2⟩
 ·exact .inr ⟨v,h1.same (hb.block _ h1.lt),h2.kept (row:=none) ⟨hb.os,hb.tape,hb.output,hb.size,fun k hk _=>hb.block k hk⟩ (by cases hv:v.ownBlock with|none=>exact .inl rfl|some g=>exact .inr (by simp)),h3,h4⟩
theorem Jk.capb{B:Nat}{w:Ab}{ao:Option Addr}{n:Nat}{ys:List Int}(h:Jk B w ao n ys):(n<=ys.length/\ys.length<=9223372036854775807)/\(ao=none->ys.length=0):=by
 obtain⟨rfl,rfl,rfl⟩|⟨g,rfl,_,_,h1,h2⟩:=h
 ·simp
 ·exact⟨⟨h1,by simpa only[Gi] using h2⟩,by simp⟩
theorem RdW.at{w:Ab}{b o:Nat}{p:Wd}{ps:List Wd}(h:RdW w (some ⟨b,o,none⟩) (p::ps))(k:Nat)(hk:k<ps.length):b<w.heap.size/\w.cell? ⟨b,o+2+k*2,none⟩=some (.string ps[k].1)/\w.cell? ⟨b,o+2+k*2+1,none⟩=some (.bool ps[k].2):=by
 obtain h|⟨b',o',e,h2,h3⟩:=h
 ·cases h
 ·injection e with e
  injection e with e1 e2
  subst e1;subst e2;have:=h3 (k+1) (by simp;omega);rw[show o+2*(k+1)=o+2+k*2 by omega]at this;exact⟨h2,this.1,this.2⟩
abbrev FV(w:Ab):Ab:=w.alloc (.cells #[.slice none 0 0,.slice none 0 0,.slice none 0 0,.slice none 0 0] 41)
abbrev Pst:=List Wd × Dat
def tkB:List Wd->Option (ByteArray × List Wd)
 |(s,false)::r=>some (s,r)
 |_=>none
def tkN:List Wd->Option (ByteArray × List Wd)
 |(s,_)::r=>some (s,r)
 |[]=>none
def stp{α:Type}(tk:List Wd->Option (ByteArray × List Wd))(g:ByteArray->Option α)(put:Dat->α->Dat)(p:Pst):Option Pst:=(tk p.1).bind fun q=>(g q.1).map fun v=>(q.2,put p.2 v)
def Np(og:List ByteArray)(s:ByteArray):Option (List ByteArray):=if (Di s og).2=0 then some (Di s og).1 else none
def Kd(s:ByteArray):Option Nat:=FN (Ai s) (2 ^ 32)
def RP(s:ByteArray):Option ByteArray:=(FC (Ai s)).map lb
def GN(og:List ByteArray):Pst->Option Pst:=stp tkB (Np og) fun d v=>⟨d.ns++[v],d.us,d.ts,d.raw⟩
def LG:Pst->Option Pst:=stp tkB Kd fun d v=>⟨d.ns,d.us++[v],d.ts,d.raw⟩
def Hy:Pst->Option Pst:=stp tkN RP fun d v=>⟨d.ns,d.us,d.ts++[v],d.raw⟩
def bB:Pst->Option Pst:=stp tkN some fun d v=>⟨d.ns,d.us,d.ts++[v],d.raw⟩
def Ti:Pst->Option Pst:=stp tkB (fun s=>Ez (Ai s)) fun d v=>⟨d.ns,d.us,d.ts,v⟩
def rep(f:Pst->Option Pst):Nat->Option Pst->Option Pst
 |0,o=>o
 |k+1,o=>(rep f k o).bind f
def Ji(t:Nat)(og:List ByteArray)(ws:List Wd):Option Pst:=
 if t=1∨t=28 then rep Ti 1 (some (ws,Eo))
 else if t=2∨t=5∨t=12 then rep (GN og) 1 (some (ws,Eo))
 else if t=6 then rep LG 5 (rep (GN og) 2 (some (ws,Eo)))
 else if t=15 then rep (GN og) 1 (rep LG 1 (some (ws,Eo)))
 else if t=33 then rep (GN og) 1 (rep LG 3 (some (ws,Eo)))
 else if t=16 then rep Hy (max 1 ws.length) (some (ws,Eo))
 else if t=257 then rep Hy 1 (rep bB 1 (rep LG 1 (some (ws,Eo))))
 else none
instance (l:List Int) (k:Nat):Decidable (okp l k):=by unfold okp;infer_instance
def JZ(t:Nat):List Wd->Option Dat
 |[]=>none
 |p::ps=>(FN (Ai p.1) (2 ^ 32)).bind fun m=>
   if (DZ ps).length<=131070/\(DZ ps).length=2*m/\((List.range m).all fun k=>decide (okp (Ai ⟨(DZ ps).toArray⟩) k))=true then
    (if (Fb t (prs (Ai ⟨(DZ ps).toArray⟩) m)).2=0 then some (Fb t (prs (Ai ⟨(DZ ps).toArray⟩) m)).1 else none) else none
def OD:Wd:=(⟨#[92,35]⟩,false)
instance :DecidableEq Wd:=inferInstance
def Ge(t:Nat)(og:List ByteArray)(ws:List Wd):Option Dat:=
 if ws.head?=some OD then JZ t ws.tail else(Ji t og ws).bind fun p=>if p.1=[] then some p.2 else none
def Jq(t:Nat)(og:List ByteArray)(ws:List Wd):Option Dat:=(Ge t og ws).bind fun d=>if Bw t d=0 then some d else none
def WB(ws:List Wd):Prop:=ws.length<=500/\∀p∈ws,p.1.size<=1000000
structure DB(K:Nat)(z:Bool)(d:Dat):Prop where
 n:d.ns.length<=K
 u:d.us.length<=K
 t:d.ts.length<=K
 z:z=true->d.ns=[]
 nl:∀n∈d.ns,n.length<=1000000
 tl:∀s∈d.ts,s.size<=1000000
 r:d.raw.length<=1000000
theorem DB.nil(K:Nat)(z:Bool):DB K z Eo:=⟨by simp[Eo],by simp[Eo],by simp[Eo],fun _=>rfl,by simp[Eo],by simp[Eo],by simp[Eo]⟩
theorem DB.name{K:Nat}{z:Bool}{d:Dat}(h:DB K z d){n:List ByteArray}(hn:n.length<=1000000):DB (K+1) false ⟨d.ns++[n],d.us,d.ts,d.raw⟩:=
 ⟨by have:=h.n;simp;omega,EJ h.u,EJ h.t,fun h=>by (cases h),fun m hm=>(AG.1 hm).elim (h.nl m) (fun hm=>by simp at hm;subst hm;exact hn),h.tl,h.r⟩
theorem DB.num{K:Nat}{z:Bool}{d:Dat}(h:DB K z d)(n:Nat):DB (K+1) z ⟨d.ns,d.us++[n],d.ts,d.raw⟩:=
 ⟨EJ h.n,by have:=h.u;simp;omega,EJ h.t,h.z,h.nl,h.tl,h.r⟩
theorem DB.text{K:Nat}{z:Bool}{d:Dat}(h:DB K z d){s:ByteArray}(hs:s.size<=1000000):DB (K+1) z ⟨d.ns,d.us,d.ts++[s],d.raw⟩:=
 ⟨EJ h.n,EJ h.u,by have:=h.t;simp;omega,h.z,h.nl,fun m hm=>(AG.1 hm).elim (h.tl m) (fun hm=>by simp at hm;subst hm;exact hs),h.r⟩
theorem DB.addr{K:Nat}{z:Bool}{d:Dat}(h:DB K z d){zs:List Int}(hs:zs.length<=1000000):DB K z ⟨d.ns,d.us,d.ts,zs⟩:=⟨h.n,h.u,h.t,h.z,h.nl,h.tl,hs⟩
theorem EA:nck []=0:=by decide
theorem lX{l:List ByteArray}(h:nck l=0):l.length<=255:=by
 unfold nck at h;split at h
 ·split at h
  ·cases h
  ·rename_i h1 h2
   have:l.length<=nsz l:=by
    clear h h1 h2;induction l with
    |nil=>simp
    |cons a l ih=>simp only[AP,nsz];omega
   omega
 ·cases h
theorem ZW(a b:List ByteArray):nck (GK a b).1=0:=by
 unfold GK;split
 ·split
  ·split
   ·assumption
   ·exact EA
  ·exact EA
 ·exact EA
theorem Xw(s:ByteArray):nck (LW s).1=0:=by
 unfold LW;split
 ·exact EA
 ·split
  ·split
   ·split
    ·assumption
    ·exact EA
   ·exact EA
  ·exact EA
theorem Rp(s:ByteArray)(og:List ByteArray):nck (Di s og).1=0:=by
 unfold Di;split
 ·split
  ·assumption
  ·split
   ·exact EA
   ·split
    ·split
     ·exact Xw s
     ·exact ZW _ _
    ·exact EA
 ·exact EA
theorem Tq(s:ByteArray)(og:List ByteArray):(Di s og).1.length<=1000000:=by have:=lX (Rp s og);omega
theorem QH{l zs:List Int}(h:Ez l=some zs):zs.length<=1000000:=by
 unfold Ez at h;have h6:∀zs,JJ l=some zs->zs.length<=1000000:=by
  intro zs h;unfold JJ at h;split at h
  ·rw[Dg]at h;obtain⟨a,ha,h⟩:=h;rw[Dg]at h;obtain⟨b,hb,h⟩:=h;split at h
   ·injection h with h;subst h;simp;omega
   ·cases h
  ·rw[Dg]at h;obtain⟨a,ha,h⟩:=h;split at h
   ·injection h with h;subst h;omega
   ·cases h
 split at h
 ·rename_i b hb
  injection h with h;subst h
  unfold It at hb;rw[Dg]at hb;obtain⟨a,ha,hb⟩:=hb;split at hb
  ·injection hb with hb;subst hb;simp;omega
  ·cases hb
 ·exact h6 _ h
theorem SN:∀(n:Nat) (l o:List Int),l.length<=n->FC l=some o->o.length<=l.length
 |0,l,o,hl,h=>by
  have:l=[]:=Aq.1 (by omega);subst this;rw[FC.eq_def]at h;simp at h;subst h;simp
 |n+1,l,o,hl,h=>by
  by_cases h0:l=[]
  ·subst h0;rw[FC.eq_def]at h;simp at h;subst h;simp
  ·by_cases h2:(Gv l).2=0
   ·rw[TE l h0 h2]at h;cases h
   ·obtain⟨e1,e2,e3⟩:=SI l h2;rw[e1]at h;cases hx:FC (l.drop (Gv l).2) with
    |none=>rw[hx]at h;cases h
    |some o'=>
     rw[hx]at h;simp at h;subst h;have:=SN n (l.drop (Gv l).2) o' (by simp;omega) hx;simp at this ⊢;omega
theorem eZ(l:List Int):(lb l).size=l.length:=by simp[lb,LM,txt]
theorem Rj(s:ByteArray):(Ga (Ai s)).1.size<=s.size:=by
 unfold Ga;split
 ·rename_i o ho
  have:=SN _ _ _ (Ad _) ho;rw[Av]at this;simpa[eZ] using this
 ·exact Aw _
def RGo(bad:Bool)(ws:List Wd)(d:Dat)(o:Option Pst):Prop:=(bad=false/\o=some (ws,d))∨(bad=true/\o=none)
def RG(w0 w:Ab)(oa:Option Addr)(on oc:Nat)(K:Nat)(z:Bool)(o:Option Pst):Prop:=
 ∃(wa:Option Addr) (c:Nat) (x:DA) (ws:List Wd) (bad:Bool) (d:Dat),RdW w0 wa ws/\ws.length<=c/\c<=9223372036854775807/\RX w0 w wa ws.length c oa on oc x bad d/\WB ws/\DB K z d/\RGo bad ws d o
def TkO(tk:List Wd->Option (ByteArray × List Wd))(ws:List Wd)(bad:Bool)(s:ByteArray)(ws':List Wd)(bad':Bool):Prop:=
 WB ws'/\s.size<=1000000/\((bad'=false/\bad=false/\tk ws=some (s,ws'))∨(bad'=true/\(bad=true∨tk ws=none)))
def TkG(tk:List Wd->Option (ByteArray × List Wd))(w0:Ab)(oa:Option Addr)(on oc:Nat)(x:DA)(d:Dat)(ws:List Wd)(bad:Bool)(e:Ending)(w':Ab):Prop:=
 ∃(s:ByteArray) (wa':Option Addr) (c':Nat) (ws':List Wd) (bad':Bool),e=.returned (.string s)/\Hid (RdW w0 wa' ws'/\ws'.length<=c'/\c'<=9223372036854775807)/\Hid (RX w0 w' wa' ws'.length c' oa on oc x bad' d)/\Hid (TkO tk ws bad s ws' bad')
theorem WB.tail{p:Wd}{r:List Wd}(h:WB (p::r)):WB r:=⟨by have:=h.1;simp at this;omega,fun q hq=>h.2 q (by simp[hq])⟩
theorem kL(w0 w:Ab)(wa:Option Addr)(ws:List Wd)(c:Nat)(oa:Option Addr)(on oc:Nat)(x:DA)(bad:Bool)(d:Dat)(hw:RdW w0 wa ws)(hc:ws.length<=c)(h63:c<=9223372036854775807)(h:RX w0 w wa ws.length c oa on oc x bad d)(hb:WB ws) :
  Ag Aa 248 #[.pointer (some ⟨w0.heap.size,0,none⟩)] w (TkG tkN w0 oa on oc x d ws bad):=by
 cases ws with
 |nil=>
  refine(SB w0 w wa c oa on oc x bad d h).mono ?_;rintro e w' ⟨rfl,H⟩;exact⟨_,wa,c,[],true,rfl,⟨.inl rfl,by simp,h63⟩,H,hb,by decide,.inr ⟨rfl,.inr rfl⟩⟩
 |cons p r=>
  obtain⟨s,q⟩:=p;refine(US w0 w wa s q r c oa on oc x bad d hw hc h63 h).mono ?_;rintro e w' ⟨wa',rfl,H1,H2⟩;have hc':r.length+1<=c:=hc;refine⟨_,wa',c - 1,r,bad,rfl,⟨H1.out,by omega,by omega⟩,H2,hb.tail,hb.2 (s,q) (by simp),?_⟩;cases bad with
  |false=>exact .inl ⟨rfl,rfl,rfl⟩
  |true=>exact .inr ⟨rfl,.inl rfl⟩
theorem dA(w0 w:Ab)(wa:Option Addr)(c:Nat)(oa:Option Addr)(on oc:Nat)(x:DA)(bad:Bool)(d:Dat)(h:RX w0 w wa 0 c oa on oc x bad d) :
  Ag Aa 246 #[.pointer (some ⟨w0.heap.size,0,none⟩)] w fun e w'=>e=.returned (.string ⟨#[]⟩)/\Hid (RX w0 w' wa 0 c oa on oc x true d):=by
 have K:=Ac (SB w0 w wa c oa on oc x bad d h);have d0:=h.blk.cells.1;clear h;go_enter Tryz.func246,Tryz.ntmps246;go_wp2_with fail;refine K.out.mono ?_;rintro e w' ⟨rfl,H2⟩;go_wp2_with fail;go_ret;exact⟨rfl,H2⟩
theorem cF(w0 w:Ab)(wa:Option Addr)(s:ByteArray)(r:List Wd)(c:Nat)(oa:Option Addr)(on oc:Nat)(x:DA)(bad:Bool)(d:Dat)(hw:RdW w0 wa ((s,true)::r))(hc:r.length+1<=c)(h63:c<=9223372036854775807)(h:RX w0 w wa (r.length+1) c oa on oc x bad d) :
  Ag Aa 246 #[.pointer (some ⟨w0.heap.size,0,none⟩)] w (Rl s r w0 c oa on oc x true d):=by
 have K:Hid (∀W,RX w0 W wa (r.length+1) c oa on oc x true d->Ag Aa 248 #[.pointer (some ⟨w0.heap.size,0,none⟩)] W (Rl s r w0 c oa on oc x true d)):=fun W hW=>US w0 W wa s true r c oa on oc x true d hw hc h63 hW
 obtain⟨b,o,rfl,hb,c1,c2,hrr⟩:=hw.head;have HX:=Ac (h.bad true);have d0:=h.blk.cells.1;have d6:=h.blk.cells.2.2.2.2.2.2;have f6:=h.blk.fz 6;have c2':=(h.bel.cell (p:=⟨b,o+1,none⟩) hb).trans c2;clear hw hrr c1 c2 h;obtain⟨n,hn⟩:∃n,r.length=n:=⟨_,rfl⟩;rw[hn]at d0 hc HX K;clear hn;have hn0:(0:Int)<(n:Int)+1:=by omega
 go_enter Tryz.func246,Tryz.ntmps246;go_wp2_with fail;refine(K.out _ HX.out).mono ?_;rintro e w' ⟨wa',rfl,H1,H2⟩;go_wp2_with fail;go_ret;exact⟨wa',rfl,H1,H2⟩
theorem aB(w0 w:Ab)(wa:Option Addr)(s:ByteArray)(r:List Wd)(c:Nat)(oa:Option Addr)(on oc:Nat)(x:DA)(bad:Bool)(d:Dat)(hw:RdW w0 wa ((s,false)::r))(hc:r.length+1<=c)(h63:c<=9223372036854775807)(h:RX w0 w wa (r.length+1) c oa on oc x bad d) :
  Ag Aa 246 #[.pointer (some ⟨w0.heap.size,0,none⟩)] w (Rl s r w0 c oa on oc x bad d):=qG w0 w wa s r c oa on oc x bad d hw hc h63 h
theorem Yb(w0 w:Ab)(wa:Option Addr)(ws:List Wd)(c:Nat)(oa:Option Addr)(on oc:Nat)(x:DA)(bad:Bool)(d:Dat)(hw:RdW w0 wa ws)(hc:ws.length<=c)(h63:c<=9223372036854775807)(h:RX w0 w wa ws.length c oa on oc x bad d)(hb:WB ws) :
  Ag Aa 246 #[.pointer (some ⟨w0.heap.size,0,none⟩)] w (TkG tkB w0 oa on oc x d ws bad):=by
 cases ws with
 |nil=>
  refine(dA w0 w wa c oa on oc x bad d h).mono ?_;rintro e w' ⟨rfl,H⟩;exact⟨_,wa,c,[],true,rfl,⟨.inl rfl,by simp,h63⟩,H,hb,by decide,.inr ⟨rfl,.inr rfl⟩⟩
 |cons p r=>
  obtain⟨s,q⟩:=p;have hc':r.length+1<=c:=hc;cases q with
  |false=>
   refine(aB w0 w wa s r c oa on oc x bad d hw hc h63 h).mono ?_;rintro e w' ⟨wa',rfl,H1,H2⟩;refine⟨_,wa',c - 1,r,bad,rfl,⟨H1.out,by omega,by omega⟩,H2,hb.tail,hb.2 (s,false) (by simp),?_⟩;cases bad with
   |false=>exact .inl ⟨rfl,rfl,rfl⟩
   |true=>exact .inr ⟨rfl,.inl rfl⟩
  |true=>
   refine(cF w0 w wa s r c oa on oc x bad d hw hc h63 h).mono ?_;rintro e w' ⟨wa',rfl,H1,H2⟩;exact⟨_,wa',c - 1,r,true,rfl,⟨H1.out,by omega,by omega⟩,H2,hb.tail,hb.2 (s,true) (by simp),.inr ⟨rfl,.inr rfl⟩⟩
theorem Rh{α:Type}{tk:List Wd->Option (ByteArray × List Wd)}{g:ByteArray->Option α}{put:Dat->α->Dat}{bad bad':Bool}{ws ws':List Wd}{s:ByteArray}{d:Dat}{o:Option Pst}{v:α}(h:RGo bad ws d o)(h2:TkO tk ws bad s ws' bad')(h3:bad'=false)(h4:g s=some v):o.bind (stp tk g put)=some (ws',put d v):=by
 obtain⟨-,-,h2⟩:=h2;obtain⟨a1,a2,a3⟩|⟨a1,-⟩:=h2
 ·obtain⟨b1,b2⟩|⟨b1,b2⟩:=h
  ·subst b2;simp[stp,a3,h4]
  ·rw[a2]at b1;cases b1
 ·rw[h3]at a1;cases a1
theorem QR{α:Type}{tk:List Wd->Option (ByteArray × List Wd)}{g:ByteArray->Option α}{put:Dat->α->Dat}{bad bad':Bool}{ws ws':List Wd}{s:ByteArray}{d:Dat}{o:Option Pst}(h:RGo bad ws d o)(h2:TkO tk ws bad s ws' bad')(h3:bad'=true∨g s=none):o.bind (stp tk g put)=none:=by
 obtain⟨-,-,h2⟩:=h2;obtain⟨b1,b2⟩|⟨b1,b2⟩:=h
 ·subst b2;obtain⟨a1,a2,a3⟩|⟨a1,a2|a2⟩:=h2
  ·obtain h3|h3:=h3
   ·rw[h3]at a1;cases a1
   ·simp[stp,a3,h3]
  ·rw[b1]at a2;cases a2
  ·simp[stp,a2]
 ·subst b2;rfl
def NuP(s:ByteArray)(w:Ab)(e:Ending)(w':Ab):Prop:=
 ∃(n:Nat) (b:Bool),e=.returned (.tuple #[.int .u32 (n:Int),.bool b])/\Hid (n<=4294967295)/\Hid ((b=true->Kd s=some n)/\(b=false->Kd s=none))/\Hid (Blw w w')
theorem cN(s:ByteArray)(hs:s.size<=281474976710656)(h:FN (Ai s) (2 ^ 32)=none)(w:Ab)(hE:Cc w) :
  Ag Aa 226 #[.string s,.int .i64 32] w fun e w'=>∃x:Nat,e=.returned (.tuple #[.int .u32 (x:Int),.bool false])/\Hid (x<=4294967295)/\Hid (Blw w w'):=by
 by_cases hz:1<s.data.toList.length/\(bi s.data.toList).head?=some 48
 ·have h1:1<s.size:=hz.1;have h1':(1:Int)<(s.size:Int):=by omega
  have h0':(0:Int)<(s.size:Int):=by omega
  have h48:(s[0].toNat:Int)=48:=by
   have:=hz.2;rw[<- CR,Kz s (by omega)]at this;injection this
  go_enter Tryz.func226,Tryz.ntmps226;go_wp2_with fail;go_ret2;exact⟨0,rfl,Aw _,Ae _ _⟩
 ·have K:=Ac (UT 32 (.inr rfl) s hs (fun u hu=>by have:=(Qt 32 (YA (.inr rfl)).1 _ u hz).1 hu;rw[<- CR,h]at this;cases this) w hE);by_cases h1:1<s.size
  focus
   have h1':(1:Int)<(s.size:Int):=by omega
   have h0':(0:Int)<(s.size:Int):=by omega
   have h48:((s[0].toNat:Int) == 48)=false:=by
    rw[beq_eq_false_iff_ne];intro e;exact hz ⟨h1,by rw[<- CR,Kz s (by omega),e]⟩
  rotate_left
  focus
   have h1':¬ (1:Int)<(s.size:Int):=by omega
  rotate_left
  all_goals
   go_enter Tryz.func226,Tryz.ntmps226;go_wp2_with fail;refine K.out.mono ?_;rintro e w' ⟨x,N,rfl,hx,H⟩;obtain⟨n,rfl⟩:∃n:Nat,x=(n:Int):=⟨x.toNat,by omega⟩;have HN:Hid (n<=4294967295):=by have:=hx.2;show _<=_;omega
   have hn:n<4294967296:=by have:=HN.out;omega
   go_wp2_with fail;go_quiet (fail);go_wp2_with fail;go_ret2;exact⟨n,rfl,HN.out,H.out.trans ⟨rfl,rfl,rfl,Ad _,fun _ _=>rfl⟩⟩
theorem rE(s:ByteArray)(hs:s.size<=281474976710656)(w:Ab)(hE:Cc w):Ag Aa 226 #[.string s,.int .i64 32] w (NuP s w):=by
 cases h:FN (Ai s) (2 ^ 32) with
 |none=>
  refine(cN s hs h w hE).mono ?_;rintro e w' ⟨x,rfl,h1,h2⟩;exact⟨x,false,rfl,h1,⟨fun h=>by (cases h),fun _=>h⟩,h2⟩
 |some n=>
  have hn:=(Fy h).2;have hp32:(2:Nat) ^ 32=4294967296:=by decide
  refine(YX 32 (.inr rfl) s hs n h w).mono ?_;rintro e w' ⟨rfl,h2⟩;exact⟨n,true,rfl,by show _<=_;omega,⟨fun _=>h,fun h=>by (cases h)⟩,h2⟩
theorem fS(f:Pst->Option Pst)(k:Nat)(o:Option Pst):rep f (k+1) o=(rep f k o).bind f:=rfl
theorem UN(w0 w:Ab)(N K:Nat)(oa:Option Addr)(on oc:Nat)(z:Bool)(o:Option Pst)(hK:K+N<=900)(hE:Cc w0)(h:RG w0 w oa on oc K z o) :
  Ag Aa 231 #[.pointer (some ⟨w0.heap.size,0,none⟩),.int .i64 (N:Int)] w fun e w'=>∃v,e=.returned v/\Hid (RG w0 w' oa on oc (K+N) z (rep LG N o)):=by
 have H0:=Ac h;have HE:=Ac hE;have HKN:=Ac hK;have hN1:N<=1000:=by omega
 go_enter Tryz.func231,Tryz.ntmps231;go_wp2_with fail;go_loopw [7] (fun y wr=>∃k:Nat,k<=N/\y=.int .i64 k/\Hid (RG w0 wr oa on oc (K+k) z (rep LG k o))) (fun y _=>N - (intOf y).toNat)
 case atStart=>exact⟨0,Aw _,rfl,H0.out⟩
 case round=>
  obtain⟨k,hk,rfl,HW⟩:=hrel;by_cases hlt:k<N
  ·have hlt':(k:Int)<(N:Int):=by omega
   have HT:Hid (rep LG (k+1) o=(rep LG k o).bind LG):=rfl;generalize rep LG k o=ok at*;obtain⟨wa',c',x',ws,bad,d,h1,h2,h3,h4,h5,h6,h7⟩:=HW.out;have KB:Hid (∀W,RX w0 W wa' ws.length c' oa on oc x' bad d->Ag Aa 246 #[.pointer (some ⟨w0.heap.size,0,none⟩)] W (TkG tkB w0 oa on oc x' d ws bad)):=fun W hW=>Yb w0 W wa' ws c' oa on oc x' bad d h1 h2 h3 hW h5
   have HX:=Ac h4;have KR:Hid (∀s W,s.size<=1000000->Blw w0 W->Ag Aa 226 #[.string s,.int .i64 32] W (NuP s W)):=fun s W hs hW=>rE s (by omega) W (HE.out.below hW)
   have HD:=Ac h6;have HO:=Ac h7;have HL:Hid (d.us.length<=1000):=by have:=HKN.out;have:=h6.u;show _<=_;omega
   go_wp2_with fail;refine(KB.out _ HX.out).mono ?_;rintro e w1 ⟨s,wb,cb,wsb,bd,rfl,H1,H2,H9⟩;go_wp2_with fail;refine(KR.out s _ H9.out.2.1 H2.out.bel).mono ?_;rintro e w2 ⟨n,nb,rfl,Hn,H8,H3⟩;have HA:=Ac (H2.out.step H3.out);have hn:=Hn.out;have d6:=HA.out.blk.cells.2.2.2.2.2.2;have d2:=HA.out.blk.cells.2.2.2.1;have f6:=HA.out.blk.fz 6;have f2:=HA.out.blk.fz 3;have HS:Hid (∀q,RX w0 ((w2.setCell ⟨w0.heap.size,6,none⟩ (.bool q)).alloc (.cells #[.int .u32 (n:Int)] 36)) wb wsb.length cb oa on oc x' q d):=fun q=>(HA.out.bad q).step (Ah _ _)
   have HO1:Hid (∀q,RdV ((w2.setCell ⟨w0.heap.size,6,none⟩ (.bool q)).alloc (.cells #[.int .u32 (n:Int)] 36)) (some ⟨w2.heap.size,0,none⟩) [.int .u32 (n:Int)]):=fun q=>by
    have:=rS (w2.setCell ⟨w0.heap.size,6,none⟩ (.bool q)) (n:Int);rw[JE]at this;exact this
   have HB:Hid (∀q,w0.heap.size+1<=((w2.setCell ⟨w0.heap.size,6,none⟩ (.bool q)).alloc (.cells #[.int .u32 (n:Int)] 36)).heap.size):=fun q=>(HS.out q).blk.lt
   have HF:Hid (∀(q:Bool),(q=false↔bd=false/\nb=true)->RGo q wsb ⟨d.ns,d.us++[n],d.ts,d.raw⟩ (rep LG (k+1) o)):=fun q hq=>by
    rw[HT.out];cases q with
    |false=>exact .inl ⟨rfl,Rh HO.out H9.out (hq.1 rfl).1 (H8.out.1 (hq.1 rfl).2)⟩
    |true=>
     refine .inr ⟨rfl,QR HO.out H9.out ?_⟩;cases bd with
     |true=>exact .inl rfl
     |false=>
      cases nb with
      |true=>have:=hq.2 ⟨rfl,rfl⟩;cases this
      |false=>exact .inr (H8.out.2 rfl)
   have HDD:=Ac (HD.out.num n);obtain _|_:=bd
   ·obtain _|_:=nb
    ·go_wp2_with (at_builtin;refine NX rfl fun K hK=>?_;refine fD rfl _ _ rfl (w0.heap.size+1) x'.p2 d.us rfl (HS.out true).own.2.1 ⟨w2.heap.size,0,none⟩ rfl n (HO1.out true) (by omega) HL.out (HB.out true) ?_;intro t' w' hO hG;obtain⟨og',hg1,hg2⟩:=hG.out;have HR:=Ac ((HS.out true).app2 hg1 hg2 t' _ hO.out);have hr:=((HS.out true).grown hg1 (fun j e=>(hg2 j e).1)).1;have g2:=hr.cells.2.2.2.1;have gf:=hr.fz 3;refine hK _ _ ?_);exact⟨⟨k+1,by omega,by go_num,wb,cb,⟨x'.p1,t',x'.p3,x'.p4⟩,wsb,true,⟨d.ns,d.us++[n],d.ts,d.raw⟩,H1.out.1,H1.out.2.1,H1.out.2.2,HR.out,H9.out.1,HDD.out,HF.out true (by simp)⟩,by simp[intOf];omega⟩
    ·go_wp2_with (at_builtin;refine NX rfl fun K hK=>?_;refine fD rfl _ _ rfl (w0.heap.size+1) x'.p2 d.us rfl (HS.out false).own.2.1 ⟨w2.heap.size,0,none⟩ rfl n (HO1.out false) (by omega) HL.out (HB.out false) ?_;intro t' w' hO hG;obtain⟨og',hg1,hg2⟩:=hG.out;have HR:=Ac ((HS.out false).app2 hg1 hg2 t' _ hO.out);have hr:=((HS.out false).grown hg1 (fun j e=>(hg2 j e).1)).1;have g2:=hr.cells.2.2.2.1;have gf:=hr.fz 3;refine hK _ _ ?_);exact⟨⟨k+1,by omega,by go_num,wb,cb,⟨x'.p1,t',x'.p3,x'.p4⟩,wsb,false,⟨d.ns,d.us++[n],d.ts,d.raw⟩,H1.out.1,H1.out.2.1,H1.out.2.2,HR.out,H9.out.1,HDD.out,HF.out false (by simp)⟩,by simp[intOf];omega⟩
   ·go_wp2_with (at_builtin;refine NX rfl fun K hK=>?_;refine fD rfl _ _ rfl (w0.heap.size+1) x'.p2 d.us rfl (HS.out true).own.2.1 ⟨w2.heap.size,0,none⟩ rfl n (HO1.out true) (by omega) HL.out (HB.out true) ?_;intro t' w' hO hG;obtain⟨og',hg1,hg2⟩:=hG.out;have HR:=Ac ((HS.out true).app2 hg1 hg2 t' _ hO.out);have hr:=((HS.out true).grown hg1 (fun j e=>(hg2 j e).1)).1;have g2:=hr.cells.2.2.2.1;have gf:=hr.fz 3;refine hK _ _ ?_);exact⟨⟨k+1,by omega,by go_num,wb,cb,⟨x'.p1,t',x'.p3,x'.p4⟩,wsb,true,⟨d.ns,d.us++[n],d.ts,d.raw⟩,H1.out.1,H1.out.2.1,H1.out.2.2,HR.out,H9.out.1,HDD.out,HF.out true (by simp)⟩,by simp[intOf];omega⟩
  ·have hge:¬ (k:Int)<(N:Int):=by omega
   have hkn:k=N:=by omega
   subst hkn;go_wp2_with fail
   go_end0
   exact⟨⟨_,rfl⟩,HW.out⟩
theorem Qw(w0 w:Ab)(N K:Nat)(oa:Option Addr)(on oc:Nat)(og:List ByteArray)(o:Option Pst)(hK:K+N<=900)(hog:Nm w0 oa on og)(h:RG w0 w oa on oc K false o) :
  Ag Aa 230 #[.pointer (some ⟨w0.heap.size,0,none⟩),.int .i64 (N:Int)] w fun e w'=>∃v,e=.returned v/\Hid (RG w0 w' oa on oc (K+N) false (rep (GN og) N o)):=by
 have H0:=Ac h;have HOG:=Ac hog;have HKN:=Ac hK;have hN1:N<=1000:=by omega
 go_enter Tryz.func230,Tryz.ntmps230;go_wp2_with fail;go_loopw [7] (fun y wr=>∃k:Nat,k<=N/\y=.int .i64 k/\Hid (RG w0 wr oa on oc (K+k) false (rep (GN og) k o))) (fun y _=>N - (intOf y).toNat)
 case atStart=>exact⟨0,Aw _,rfl,H0.out⟩
 case round=>
  obtain⟨k,hk,rfl,HW⟩:=hrel;by_cases hlt:k<N
  ·have hlt':(k:Int)<(N:Int):=by omega
   have HT:Hid (rep (GN og) (k+1) o=(rep (GN og) k o).bind (GN og)):=rfl;generalize rep (GN og) k o=ok at*;obtain⟨wa',c',x',ws,bad,d,h1,h2,h3,h4,h5,h6,h7⟩:=HW.out;have KB:Hid (∀W,RX w0 W wa' ws.length c' oa on oc x' bad d->Ag Aa 246 #[.pointer (some ⟨w0.heap.size,0,none⟩)] W (TkG tkB w0 oa on oc x' d ws bad)):=fun W hW=>Yb w0 W wa' ws c' oa on oc x' bad d h1 h2 h3 hW h5
   have HX:=Ac h4;have HXd:=Ac (h4.step (Ae _ _).drew);have KR:Hid (∀s W,s.size<=1000000->Blw w0 W->Ag Aa 23 #[.string s,.slice oa on oc] W (LO (Di s og).1 (Di s og).2 W)):=fun s W hs hW=>Sh s oa on oc og W (by omega) (HOG.out.below hW)
   have HD:=Ac h6;have HO:=Ac h7;have HL:Hid (d.ns.length+1<=1000):=by have:=HKN.out;have:=h6.n;show _<=_;omega
   have o1:=h4.blk.cells.2.1;go_wp2_with fail
   go_region_held3 (fun W=>W.cell? ⟨w0.heap.size,1,none⟩=some (.slice oa on oc)) (go_keep) (first
    |(go_at_call 246;refine(KB.out _ HXd.out).mono ?_;rintro e w1 ⟨s,wb,cb,wsb,bd,rfl,H1,H2,H9⟩;have e1:w1.cell? ⟨w0.heap.size,1,none⟩=some (.slice oa on oc):=H2.out.blk.cells.2.1)
    |(go_at_call 23;refine(KR.out s _ H9.out.2.1 H2.out.bel).mono ?_;rintro e w2 ⟨v2,ys,rfl,H3⟩;have f1:w2.cell? ⟨w0.heap.size,1,none⟩=some (.slice oa on oc):=(H2.out.step H3.out.2.2).blk.cells.2.1))
   all_goals
    obtain⟨ao,rfl,-⟩:=H3.out.1.shape;have HA:=Ac (H2.out.step H3.out.2.2);have HOW:Hid (BU (w0.heap.size+1) w2 ⟨ao,(Di s og).1.length,ys.length⟩ (Di s og).1):=⟨ys,H3.out.1.mono H2.out.blk.lt,H3.out.2.1⟩;have HNL:=Ac (Tq s og);have HG:Hid ((Di s og).2=0->Np og s=some (Di s og).1):=fun e=>by unfold Np;rw[if_pos e]
    have HG2:Hid (¬ (Di s og).2=0->Np og s=none):=fun e=>by unfold Np;rw[if_neg e]
    generalize (Di s og).2=er at*;generalize (Di s og).1=nm at*;have d6:=HA.out.blk.cells.2.2.2.2.2.2;have d2:=HA.out.blk.cells.2.2.1;have f6:=HA.out.blk.fz 6;have f2:=HA.out.blk.fz 2;have HS:Hid (∀q,RX w0 ((w2.setCell ⟨w0.heap.size,6,none⟩ (.bool q)).alloc (.cells #[.slice ao nm.length ys.length] 23)) wb wsb.length cb oa on oc x' q d):=fun q=>(HA.out.bad q).step (Ah _ _)
    have HO1:Hid (∀q,Dk (w0.heap.size+1) ((w2.setCell ⟨w0.heap.size,6,none⟩ (.bool q)).alloc (.cells #[.slice ao nm.length ys.length] 23)) (.slice (some ⟨w2.heap.size,0,none⟩) 1 1) [nm]):=fun q=>by
     have:=gN (w0.heap.size+1) (w2.setCell ⟨w0.heap.size,6,none⟩ (.bool q)) ⟨ao,nm.length,ys.length⟩ nm (HOW.out.keep (fun j hj _ _=>Ar _ _ _ j (by show j≠w0.heap.size;omega))) (by rw[JE];exact HA.out.blk.lt);rw[JE]at this;exact this
    have HB:Hid (∀q,w0.heap.size+1<=((w2.setCell ⟨w0.heap.size,6,none⟩ (.bool q)).alloc (.cells #[.slice ao nm.length ys.length] 23)).heap.size):=fun q=>(HS.out q).blk.lt
    have HF:Hid (∀(q:Bool),(q=false↔bd=false/\er=0)->RGo q wsb ⟨d.ns++[nm],d.us,d.ts,d.raw⟩ (rep (GN og) (k+1) o)):=fun q hq=>by
     rw[HT.out];cases q with
     |false=>exact .inl ⟨rfl,Rh HO.out H9.out (hq.1 rfl).1 (HG.out (hq.1 rfl).2)⟩
     |true=>
      refine .inr ⟨rfl,QR HO.out H9.out ?_⟩;cases bd with
      |true=>exact .inl rfl
      |false=>
       by_cases he:er=0
       ·have:=hq.2 ⟨rfl,he⟩;cases this
       ·exact .inr (HG2.out he)
    have HDD:=Ac (HD.out.name HNL.out);obtain _|_:=bd
    ·by_cases her:er=0
     ·subst her;go_wp2_with (at_builtin;refine NX rfl fun K hK=>?_;refine Vr rfl _ _ rfl (w0.heap.size+1) x'.p1 ⟨some ⟨w2.heap.size,0,none⟩,1,1⟩ d.ns [nm] rfl rfl (HS.out false).own.1 (HO1.out false) HL.out (HB.out false) ?_;intro t' w' hO hG;obtain⟨og',hg1,hg2⟩:=hG.out;have HR:=Ac ((HS.out false).app1 hg1 hg2 t' _ hO.out);have hr:=((HS.out false).grown hg1 (fun j e=>(hg2 j e).1)).1;have g2:=hr.cells.2.2.1;have gf:=hr.fz 2;refine hK _ _ ?_);exact⟨⟨k+1,by omega,by go_num,wb,cb,⟨t',x'.p2,x'.p3,x'.p4⟩,wsb,false,⟨d.ns++[nm],d.us,d.ts,d.raw⟩,H1.out.1,H1.out.2.1,H1.out.2.2,HR.out,H9.out.1,HDD.out,HF.out false (by simp)⟩,by simp[intOf];omega⟩
     ·have her2:(er == 0)=false:=by simpa using her
      have her3:(er != 0)=true:=by simpa using her
      go_wp2_with (at_builtin;refine NX rfl fun K hK=>?_;refine Vr rfl _ _ rfl (w0.heap.size+1) x'.p1 ⟨some ⟨w2.heap.size,0,none⟩,1,1⟩ d.ns [nm] rfl rfl (HS.out true).own.1 (HO1.out true) HL.out (HB.out true) ?_;intro t' w' hO hG;obtain⟨og',hg1,hg2⟩:=hG.out;have HR:=Ac ((HS.out true).app1 hg1 hg2 t' _ hO.out);have hr:=((HS.out true).grown hg1 (fun j e=>(hg2 j e).1)).1;have g2:=hr.cells.2.2.1;have gf:=hr.fz 2;refine hK _ _ ?_);exact⟨⟨k+1,by omega,by go_num,wb,cb,⟨t',x'.p2,x'.p3,x'.p4⟩,wsb,true,⟨d.ns++[nm],d.us,d.ts,d.raw⟩,H1.out.1,H1.out.2.1,H1.out.2.2,HR.out,H9.out.1,HDD.out,HF.out true (by simp[her])⟩,by simp[intOf];omega⟩
    ·go_wp2_with (at_builtin;refine NX rfl fun K hK=>?_;refine Vr rfl _ _ rfl (w0.heap.size+1) x'.p1 ⟨some ⟨w2.heap.size,0,none⟩,1,1⟩ d.ns [nm] rfl rfl (HS.out true).own.1 (HO1.out true) HL.out (HB.out true) ?_;intro t' w' hO hG;obtain⟨og',hg1,hg2⟩:=hG.out;have HR:=Ac ((HS.out true).app1 hg1 hg2 t' _ hO.out);have hr:=((HS.out true).grown hg1 (fun j e=>(hg2 j e).1)).1;have g2:=hr.cells.2.2.1;have gf:=hr.fz 2;refine hK _ _ ?_);exact⟨⟨k+1,by omega,by go_num,wb,cb,⟨t',x'.p2,x'.p3,x'.p4⟩,wsb,true,⟨d.ns++[nm],d.us,d.ts,d.raw⟩,H1.out.1,H1.out.2.1,H1.out.2.2,HR.out,H9.out.1,HDD.out,HF.out true (by simp)⟩,by simp[intOf];omega⟩
  ·have hge:¬ (k:Int)<(N:Int):=by omega
   have hkn:k=N:=by omega
   subst hkn;go_wp2_with fail
   go_end0
   exact⟨⟨_,rfl⟩,HW.out⟩
theorem Zn(w0 w:Ab)(N K:Nat)(oa:Option Addr)(on oc:Nat)(o:Option Pst)(hK:K+N<=900)(hE:Cc w0)(h:RG w0 w oa on oc K true o) :
  Ag Aa 232 #[.pointer (some ⟨w0.heap.size,0,none⟩),.int .i64 (N:Int)] w fun e w'=>∃v,e=.returned v/\Hid (RG w0 w' oa on oc (K+N) true (rep Hy N o)):=by
 have H0:Hid (RG w0 w oa on oc K true o):=h;have HE:Hid (Cc w0):=hE;have HKN:Hid (K+N<=900):=hK;have hN1:N<=1000:=by omega
 clear h hE hK;go_enter Tryz.func232,Tryz.ntmps232;go_wp2_with fail;go_loopw [7] (fun y wr=>∃k:Nat,k<=N/\y=.int .i64 k/\Hid (RG w0 wr oa on oc (K+k) true (rep Hy k o))) (fun y _=>N - (intOf y).toNat)
 case atStart=>exact⟨0,Aw _,rfl,H0.out⟩
 case round=>
  obtain⟨k,hk,rfl,HW⟩:=hrel;by_cases hlt:k<N
  ·have hlt':(k:Int)<(N:Int):=by omega
   have HT:Hid (rep Hy (k+1) o=(rep Hy k o).bind Hy):=rfl;generalize rep Hy k o=ok at*;obtain⟨wa',c',x',ws,bad,d,h1,h2,h3,h4,h5,h6,h7⟩:=HW.out;have KB:Hid (∀W,RX w0 W wa' ws.length c' oa on oc x' bad d->Ag Aa 248 #[.pointer (some ⟨w0.heap.size,0,none⟩)] W (TkG tkN w0 oa on oc x' d ws bad)):=fun W hW=>kL w0 W wa' ws c' oa on oc x' bad d h1 h2 h3 hW h5
   have HX:Hid (RX w0 wr wa' ws.length c' oa on oc x' bad d):=h4;have KR:Hid (∀s W,s.size<=1000000->Blw w0 W->Ag Aa 247 #[.string s] W fun e w'=>e=.returned (.tuple #[.string (Ga (Ai s)).1,.int .i64 (Ga (Ai s)).2])/\Hid (Blw W w')):=fun s W hs hW=>Xz s W (by omega) (HE.out.below hW)
   have HD:Hid (DB (K+k) true d):=h6;have HO:Hid (RGo bad ws d ok):=h7;have HL:Hid (d.ts.length<=1000000):=by have:=HKN.out;have:=h6.t;show _<=_;omega
   have HNS:Hid (d.ns=[]):=h6.z rfl;clear h1 h2 h3 h4 h5 h6 h7 HW H0;go_wp2_with fail;refine(KB.out _ HX.out).mono ?_;rintro e w1 ⟨s,wb,cb,wsb,bd,rfl,H1,H2,H9⟩;have HSZ:Hid ((Ga (Ai s)).1.size<=1000000):=by
    have h1:=Rj s;have h2:=H9.out.2.1;show _<=_;omega
   have HG:Hid (((Ga (Ai s)).2=0/\RP s=some (Ga (Ai s)).1)∨((Ga (Ai s)).2=7/\RP s=none)):=by
    unfold RP Ga;cases FC (Ai s) with
    |none=>exact .inr ⟨rfl,rfl⟩
    |some l=>exact .inl ⟨rfl,rfl⟩
   have KR2:=Ac (fun W hW=>KR.out s W H9.out.2.1 hW);clear KR;generalize (Ga (Ai s)).2=er at*;generalize (Ga (Ai s)).1=nm at*;go_wp2_with fail;refine(KR2.out _ H2.out.bel).mono ?_;rintro e w2 ⟨rfl,H3⟩;have HA:Hid (RX w0 w2 wb wsb.length cb oa on oc x' bd d):=H2.out.step H3.out;clear KB KR2 HX H2 H3;have d6:w2.cell? ⟨w0.heap.size,6,none⟩=some (.bool bd):=HA.out.blk.cells.2.2.2.2.2.2;have d2:w2.cell? ⟨w0.heap.size,4,none⟩=some (.slice x'.p3.a x'.p3.n x'.p3.c):=HA.out.blk.cells.2.2.2.2.1;have f6:=HA.out.blk.fz 6;have f2:=HA.out.blk.fz 4;have HS:Hid (∀q,RX w0 ((w2.setCell ⟨w0.heap.size,6,none⟩ (.bool q)).alloc (.cells #[.string nm] 9)) wb wsb.length cb oa on oc x' q d):=fun q=>(HA.out.bad q).step (Ah _ _)
   have HO1:Hid (∀q,RdT ((w2.setCell ⟨w0.heap.size,6,none⟩ (.bool q)).alloc (.cells #[.string nm] 9)) (some ⟨w2.heap.size,0,none⟩) [nm]):=fun q=>by
    have:=EN (w2.setCell ⟨w0.heap.size,6,none⟩ (.bool q)) nm;rw[JE]at this;exact this
   have HB:Hid (∀q,w0.heap.size+1<=((w2.setCell ⟨w0.heap.size,6,none⟩ (.bool q)).alloc (.cells #[.string nm] 9)).heap.size):=fun q=>(HS.out q).blk.lt
   have HM:Hid (nm.size<=1000000000000):=by have:=HSZ.out;show _<=_;omega
   have HF:Hid (∀(q:Bool),(q=false↔bd=false/\er=0)->RGo q wsb ⟨d.ns,d.us,d.ts++[nm],d.raw⟩ (rep Hy (k+1) o)):=fun q hq=>by
    rw[HT.out];cases q with
    |false=>
     refine .inl ⟨rfl,Rh HO.out H9.out (hq.1 rfl).1 ?_⟩;obtain⟨_,h⟩|⟨h,_⟩:=HG.out
     ·exact h
     ·have:=(hq.1 rfl).2;rw[h]at this;cases this
    |true=>
     refine .inr ⟨rfl,QR HO.out H9.out ?_⟩;cases bd with
     |true=>exact .inl rfl
     |false=>
      obtain⟨h,_⟩|⟨_,h⟩:=HG.out
      ·have:=hq.2 ⟨rfl,h⟩;cases this
      ·exact .inr h
   have HDD:Hid (DB (K+(k+1)) true ⟨d.ns,d.us,d.ts++[nm],d.raw⟩):=HD.out.text HSZ.out;obtain _|_:=bd
   ·by_cases her:er=0
    ·subst her;clear HG;go_wp2_with (at_builtin;refine NX rfl fun K hK=>?_;refine Zw rfl _ _ rfl (w0.heap.size+1) x'.p3 d.ts rfl (HS.out false).own.2.2.1 ⟨w2.heap.size,0,none⟩ rfl nm (HO1.out false) HM.out HL.out (HB.out false) ?_;intro t' w' hO hG;obtain⟨og',hg1,hg2⟩:=hG.out;have HR:=Ac ((HS.out false).app3 HNS.out hg1 hg2 t' _ hO.out);have hr:=((HS.out false).grown hg1 (fun j e=>(hg2 j e).1)).1;have g2:=hr.cells.2.2.2.2.1;have gf:=hr.fz 4;refine hK _ _ ?_);exact⟨⟨k+1,by omega,by go_num,wb,cb,⟨x'.p1,x'.p2,t',x'.p4⟩,wsb,false,⟨d.ns,d.us,d.ts++[nm],d.raw⟩,H1.out.1,H1.out.2.1,H1.out.2.2,HR.out,H9.out.1,HDD.out,HF.out false (by simp)⟩,by simp[intOf];omega⟩
    ·have her2:(er == 0)=false:=by simpa using her
     have her3:(er != 0)=true:=by simpa using her
     clear HG;go_wp2_with (at_builtin;refine NX rfl fun K hK=>?_;refine Zw rfl _ _ rfl (w0.heap.size+1) x'.p3 d.ts rfl (HS.out true).own.2.2.1 ⟨w2.heap.size,0,none⟩ rfl nm (HO1.out true) HM.out HL.out (HB.out true) ?_;intro t' w' hO hG;obtain⟨og',hg1,hg2⟩:=hG.out;have HR:=Ac ((HS.out true).app3 HNS.out hg1 hg2 t' _ hO.out);have hr:=((HS.out true).grown hg1 (fun j e=>(hg2 j e).1)).1;have g2:=hr.cells.2.2.2.2.1;have gf:=hr.fz 4;refine hK _ _ ?_);exact⟨⟨k+1,by omega,by go_num,wb,cb,⟨x'.p1,x'.p2,t',x'.p4⟩,wsb,true,⟨d.ns,d.us,d.ts++[nm],d.raw⟩,H1.out.1,H1.out.2.1,H1.out.2.2,HR.out,H9.out.1,HDD.out,HF.out true (by simp[her])⟩,by simp[intOf];omega⟩
   ·clear HG;go_wp2_with (at_builtin;refine NX rfl fun K hK=>?_;refine Zw rfl _ _ rfl (w0.heap.size+1) x'.p3 d.ts rfl (HS.out true).own.2.2.1 ⟨w2.heap.size,0,none⟩ rfl nm (HO1.out true) HM.out HL.out (HB.out true) ?_;intro t' w' hO hG;obtain⟨og',hg1,hg2⟩:=hG.out;have HR:=Ac ((HS.out true).app3 HNS.out hg1 hg2 t' _ hO.out);have hr:=((HS.out true).grown hg1 (fun j e=>(hg2 j e).1)).1;have g2:=hr.cells.2.2.2.2.1;have gf:=hr.fz 4;refine hK _ _ ?_);exact⟨⟨k+1,by omega,by go_num,wb,cb,⟨x'.p1,x'.p2,t',x'.p4⟩,wsb,true,⟨d.ns,d.us,d.ts++[nm],d.raw⟩,H1.out.1,H1.out.2.1,H1.out.2.2,HR.out,H9.out.1,HDD.out,HF.out true (by simp)⟩,by simp[intOf];omega⟩
  ·have hge:¬ (k:Int)<(N:Int):=by omega
   have hkn:k=N:=by omega
   subst hkn;go_wp2_with fail
   go_end0
   exact⟨⟨_,rfl⟩,HW.out⟩
theorem wB(w0 w:Ab)(K:Nat)(oa:Option Addr)(on oc:Nat)(o:Option Pst)(hK:K+1<=900)(h:RG w0 w oa on oc K true o) :
  Ag Aa 233 #[.pointer (some ⟨w0.heap.size,0,none⟩)] w fun e w'=>∃v,e=.returned v/\Hid (RG w0 w' oa on oc (K+1) true (rep bB 1 o)):=by
 obtain⟨wa,c,x,ws,bad,d,h1,h2,h3,h4,h5,h6,h7⟩:=h;have KN:Hid (∀W,RX w0 W wa ws.length c oa on oc x bad d->Ag Aa 248 #[.pointer (some ⟨w0.heap.size,0,none⟩)] W (TkG tkN w0 oa on oc x d ws bad)):=fun W hW=>kL w0 W wa ws c oa on oc x bad d h1 h2 h3 hW h5
 have HXd:Hid (RX w0 w.drew wa ws.length c oa on oc x bad d):=h4.step (Ae _ _).drew;have d4:w.cell? ⟨w0.heap.size,4,none⟩=some (.slice x.p3.a x.p3.n x.p3.c):=h4.blk.cells.2.2.2.2.1;have HNS:Hid (d.ns=[]/\d.ts.length<=1000000):=⟨h6.z rfl,by have:=h6.t;omega⟩;have HD:Hid (DB K true d):=h6;have HO:Hid (RGo bad ws d o):=h7;clear h1 h2 h3 h4 h5 h6 h7;go_enter Tryz.func233,Tryz.ntmps233
 go_region_law (first
  |(go_simp;go_at_call 248;refine(KN.out _ HXd.out).mono ?_;rintro e w1 ⟨s,wb,cb,wsb,bd,rfl,H1,H2,H9⟩;have e4:w1.cell? ⟨w0.heap.size,4,none⟩=some (.slice x.p3.a x.p3.n x.p3.c):=H2.out.blk.cells.2.2.2.2.1;have HS:Hid (RX w0 (w1.alloc (.cells #[.string s] 9)) wb wsb.length cb oa on oc x bd d):=H2.out.step (Ah _ _);have i4:(w1.alloc (.cells #[.string s] 9)).cell? ⟨w0.heap.size,4,none⟩=some (.slice x.p3.a x.p3.n x.p3.c):=HS.out.blk.cells.2.2.2.2.1)
  |(refine Zw rfl _ _ rfl (w0.heap.size+1) x.p3 d.ts rfl HS.out.own.2.2.1 ⟨w1.heap.size,0,none⟩ rfl s (EN w1 s) (by have:=H9.out.2.1;omega) HNS.out.2 HS.out.blk.lt ?_;intro t' w' hO hG;obtain⟨og',hg1,hg2⟩:=hG.out;have HR:=Ac (HS.out.app3 HNS.out.1 hg1 hg2 t' _ hO.out);have hr:=(HS.out.grown hg1 (fun j e=>(hg2 j e).1)).1;have g4:=hr.cells.2.2.2.2.1;have gf:=hr.fz 4))
 all_goals
  go_wp2_with fail
  go_end0
  refine⟨_,rfl,wb,cb,⟨x.p1,x.p2,t',x.p4⟩,wsb,bd,⟨d.ns,d.us,d.ts++[s],d.raw⟩,H1.out.1,H1.out.2.1,H1.out.2.2,HR.out,H9.out.1,?_,?_⟩
  ·exact HD.out.text H9.out.2.1
  ·cases bd with
   |false=>exact .inl ⟨rfl,Rh HO.out H9.out rfl rfl⟩
   |true=>exact .inr ⟨rfl,QR HO.out H9.out (.inl rfl)⟩
theorem uZ(w0 w:Ab)(K:Nat)(oa:Option Addr)(on oc:Nat)(z:Bool)(o:Option Pst)(hE:Cc w0)(h:RG w0 w oa on oc K z o) :
  Ag Aa 229 #[.pointer (some ⟨w0.heap.size,0,none⟩)] w fun e w'=>∃v,e=.returned v/\Hid (RG w0 w' oa on oc K z (rep Ti 1 o)):=by
 obtain⟨wa,c,x,ws,bad,d,h1,h2,h3,h4,h5,h6,h7⟩:=h;have KB:=Ac (Yb w0 w wa ws c oa on oc x bad d h1 h2 h3 h4 h5);have KP:Hid (∀s W,s.size<=1000000->Blw w0 W->Ag Aa 245 #[.string s] W (lK (Ez (Ai s)) W)):=fun s W hs hW=>bZ s W (by omega) (hE.below hW)
 have HD:Hid (DB K z d):=h6;have HO:Hid (RGo bad ws d o):=h7;clear h1 h2 h3 h4 h5 h6 h7 hE;go_enter Tryz.func229,Tryz.ntmps229;go_wp2_with fail;refine KB.out.mono ?_;rintro e w1 ⟨s,wb,cb,wsb,bd,rfl,H1,H2,H9⟩;go_wp2_with fail;refine(KP.out s _ H9.out.2.1 H2.out.bel).mono ?_;intro e w2 hP;have HZ:Hid (∃(zs:List Int) (er:Int) (v:Ao),e=.returned (.tuple #[v,.int .i64 er])/\zs.length<=1000000/\((er=0/\Ez (Ai s)=some zs)∨(er=7/\Ez (Ai s)=none))/\(∃ao:Option Addr,∃c:Nat,v=.slice ao zs.length c/\GO w1.heap.size w2 ⟨ao,zs.length,c⟩ zs)/\Blw w1 w2):=by
  cases hx:Ez (Ai s) with
  |none=>
   obtain⟨rfl,H3⟩:=hP.2 hx;exact⟨[],7,_,rfl,by simp,.inr ⟨rfl,rfl⟩,⟨none,0,rfl,[],.inl ⟨rfl,rfl,rfl⟩,rfl⟩,H3.out⟩
  |some zs=>
   obtain⟨v,ys,rfl,H3⟩:=hP.1 zs hx;obtain⟨ao,rfl,hoa⟩:=H3.out.1.addr;exact⟨zs,0,_,rfl,QH hx,.inl ⟨rfl,rfl⟩,⟨ao,ys.length,rfl,ys,H3.out.1,H3.out.2.1⟩,H3.out.2.2⟩
 obtain⟨zs,er,v,rfl,hzl,hx,⟨ao,cc,rfl,hbo⟩,hbb⟩:=HZ.out;have HG:Hid ((er=0/\Ez (Ai s)=some zs)∨(er=7/\Ez (Ai s)=none)):=hx;have HDA:Hid (DB K z ⟨d.ns,d.us,d.ts,zs⟩):=HD.out.addr hzl;have HA:Hid (RX w0 w2 wb wsb.length cb oa on oc x bd d):=H2.out.step hbb;have HOW:Hid (GO (w0.heap.size+1) w2 ⟨ao,zs.length,cc⟩ zs):=by
  obtain⟨ys,q1,q2⟩:=hbo;exact⟨ys,q1.mono H2.out.blk.lt,q2⟩
 clear KB KP H2 hP HZ hx hbo hbb hzl;have d6:w2.cell? ⟨w0.heap.size,6,none⟩=some (.bool bd):=HA.out.blk.cells.2.2.2.2.2.2;have d5:w2.cell? ⟨w0.heap.size,5,none⟩=some (.slice x.p4.a x.p4.n x.p4.c):=HA.out.blk.cells.2.2.2.2.2.1;have f6:=HA.out.blk.fz 6;have f5:=HA.out.blk.fz 5;have HR:Hid (∀q,RX w0 ((w2.setCell ⟨w0.heap.size,6,none⟩ (.bool q)).setCell ⟨w0.heap.size,5,none⟩ (.slice ao zs.length cc)) wb wsb.length cb oa on oc ⟨x.p1,x.p2,x.p3,⟨ao,zs.length,cc⟩⟩ q ⟨d.ns,d.us,d.ts,zs⟩):=fun q=>(HA.out.bad q).put4 ⟨ao,zs.length,cc⟩ zs (HOW.out.keep (fun j hj _=>Ar _ _ _ j (by show j≠w0.heap.size;omega)))
 have HF:Hid (∀(q:Bool),(q=false↔bd=false/\er=0)->RGo q wsb ⟨d.ns,d.us,d.ts,zs⟩ (rep Ti 1 o)):=fun q hq=>by
  cases q with
  |false=>
   refine .inl ⟨rfl,Rh HO.out H9.out (hq.1 rfl).1 ?_⟩;obtain⟨_,h⟩|⟨h,_⟩:=HG.out
   ·exact h
   ·have:=(hq.1 rfl).2;rw[h]at this;cases this
  |true=>
   refine .inr ⟨rfl,QR HO.out H9.out ?_⟩;cases bd with
   |true=>exact .inl rfl
   |false=>
    obtain⟨h,_⟩|⟨_,h⟩:=HG.out
    ·have:=hq.2 ⟨rfl,h⟩;cases this
    ·exact .inr h
 clear HG;obtain _|_:=bd
 ·by_cases her:er=0
  ·subst her;go_wp2_with fail
   go_end0
   exact⟨_,rfl,wb,cb,_,wsb,false,⟨d.ns,d.us,d.ts,zs⟩,H1.out.1,H1.out.2.1,H1.out.2.2,HR.out false,H9.out.1,HDA.out,HF.out false (by simp)⟩
  ·have her2:(er == 0)=false:=by simpa using her
   have her3:(er != 0)=true:=by simpa using her
   go_wp2_with fail
   go_end0
   exact⟨_,rfl,wb,cb,_,wsb,true,⟨d.ns,d.us,d.ts,zs⟩,H1.out.1,H1.out.2.1,H1.out.2.2,HR.out true,H9.out.1,HDA.out,HF.out true (by simp[her])⟩
 ·go_wp2_with fail
  go_end0
  exact⟨_,rfl,wb,cb,_,wsb,true,⟨d.ns,d.us,d.ts,zs⟩,H1.out.1,H1.out.2.1,H1.out.2.2,HR.out true,H9.out.1,HDA.out,HF.out true (by simp)⟩
theorem fL(t:Nat)(w:Ab):Ag Aa 197 #[.int .u16 t] w fun e w'=>e=.returned (.bool (Gz t))/\w'=w:=by
 have HS:Hid (∀W,Ag Aa 62 #[.int .u16 t] W fun e w'=>e=.returned (.bool (decide (t≠0) && decide (t≠41) && (decide (t<128) || decide (255<t))))/\w'=W):=by
  intro W;go_enter Tryz.func62,Tryz.ntmps62;by_cases h0:t=0
  ·subst h0;go_wp2_with fail;go_ret;exact⟨Cl (by decide),rfl⟩
  ·by_cases h1:t=41
   ·subst h1;go_wp2_with fail;go_ret;exact⟨Cl (by decide),rfl⟩
   ·have q0:((t:Int) == 0)=false:=by simp;omega
    have q1:((t:Int) == 41)=false:=by simp;omega
    go_wp2_with fail;refine(Pc t _).mono ?_;rintro e W ⟨rfl,rfl⟩;go_wp2_with fail;go_ret;refine⟨Cl ?_,rfl⟩;simp[h0,h1];by_cases h2:t<128
    ·simp[h2];omega
    ·by_cases h3:255<t
     ·simp[h3];omega
     ·simp[h2,h3];omega
 go_enter Tryz.func197,Tryz.ntmps197;by_cases h1:t=41
 ·subst h1;go_wp2_with fail;refine(HS.out _).mono ?_;rintro e W ⟨rfl,rfl⟩;go_wp2_with fail;go_ret;exact⟨rfl,rfl⟩
 ·have q1:((t:Int) == 41)=false:=by simp;omega
  go_wp2_with fail;refine(HS.out _).mono ?_;rintro e W ⟨rfl,rfl⟩;have hm:(decide (t≠0) && decide (t≠41) && (decide (t<128) || decide (255<t)))=Gz t:=by simp[Gz,h1]
  rw[hm];cases hmt:Gz t
  all_goals
   go_wp2_with fail;go_ret;exact⟨by rw[hmt];rfl,rfl⟩
theorem fl2(D:Int->Int)(zs:List Int)(k:Nat)(h:k<zs.length):(zs.flatMap fun z=>[D (z / 16),D (z % 16)]).getD (2*k) 0=D (zs[k] / 16)/\(zs.flatMap fun z=>[D (z / 16),D (z % 16)]).getD (2*k+1) 0=D (zs[k] % 16):=by
 induction zs generalizing k with
 |nil=>simp at h
 |cons z zs ih=>
  cases k with
  |zero=>simp[Cn]
  |succ k=>
   have:=ih k (by simpa using h);rw[Cn,show 2*(k+1)=(2*k+1)+1 by omega,show(2*k+1)+1+1=(2*k+1+1)+1 by omega];simpa[List.getD_cons_succ] using this
theorem qV(D:Int->Int)(hD:∀v,0<=v/\v<16->wv (D v)=v)(zs:List Int)(hz:∀z∈zs,0<=z/\z<=255) :
  (∀k,k<zs.length->okp (zs.flatMap fun z=>[D (z / 16),D (z % 16)]) k)/\prs (zs.flatMap fun z=>[D (z / 16),D (z % 16)]) zs.length=zs:=by
 have key:∀k (h:k<zs.length),wv ((zs.flatMap fun z=>[D (z / 16),D (z % 16)]).getD (2*k) 0)=zs[k] / 16/\wv ((zs.flatMap fun z=>[D (z / 16),D (z % 16)]).getD (2*k+1) 0)=zs[k] % 16:=by
  intro k h;have hb:=hz _ (AU h);obtain⟨h1,h2⟩:=fl2 D zs k h;rw[h1,h2];exact⟨hD _ (by omega),hD _ (by omega)⟩
 refine⟨fun k h=>?_,?_⟩
 ·have hb:=hz _ (AU h);obtain⟨h1,h2⟩:=key k h;unfold okp;rw[h1,h2];omega
 ·apply List.ext_getElem (by rw[ZG])
  intro k h1 h2;obtain⟨g1,g2⟩:=key k h2;simp only[prs,List.getElem_map,List.getElem_range,pv];rw[g1,g2];omega
theorem nB(zs:List Int)(hz:∀z∈zs,0<=z/\z<=255):(∀k,k<zs.length->okp (EQ zs) k)/\prs (EQ zs) zs.length=zs:=by
 have h1:=qV (fun v=>xhd v.toNat) (fun v hv=>by rw[<- dV v hv];exact xF v hv) zs hz;exact h1
theorem Qx{ps:List Wd}{Lh:ByteArray}(h:(⟨(DZ ps).toArray⟩:ByteArray)=Lh):(DZ ps).length=Lh.size:=by subst h;simp[LM]
theorem tU{t:Nat}{num:ByteArray}{qn:Bool}{ps:List Wd}(h:Kd num=none):JZ t ((num,qn)::ps)=none:=by
 unfold Kd at h;simp[JZ,h]
theorem vT{t:Nat}{num:ByteArray}{qn:Bool}{ps:List Wd}{n l:Nat}{Lh:ByteArray}(h:Kd num=some n)(hL:(⟨(DZ ps).toArray⟩:ByteArray)=Lh)(h2:Lh.size=2*l)(h3:¬ n=l):JZ t ((num,qn)::ps)=none:=by
 unfold Kd at h;have hs:=Qx hL;simp only[JZ,h,BL];rw[if_neg];rintro⟨a1,a2,a3⟩;omega
theorem tL{t:Nat}{num:ByteArray}{qn:Bool}{ps:List Wd}{n:Nat}{Lh:ByteArray}(h:Kd num=some n)(hL:(⟨(DZ ps).toArray⟩:ByteArray)=Lh)(h2:¬ (Lh.size<=131070/\∃m,Lh.size=2*m/\∀k,k<m->okp (Ai Lh) k)):JZ t ((num,qn)::ps)=none:=by
 unfold Kd at h;have hs:=Qx hL;simp only[JZ,h,BL];rw[if_neg];rintro⟨a1,a2,a3⟩;refine h2 ⟨by omega,n,by omega,fun k hk=>?_⟩;rw[AO]at a3;have:=a3 k (List.mem_range.2 hk);rw[hL]at this;simpa using this
theorem xM{t:Nat}{num:ByteArray}{qn:Bool}{ps:List Wd}{n:Nat}{Lh:ByteArray}(h:Kd num=some n)(hL:(⟨(DZ ps).toArray⟩:ByteArray)=Lh)(h1:Lh.size<=131070)(h2:Lh.size=2*n)(h3:∀k,k<n->okp (Ai Lh) k) :
  JZ t ((num,qn)::ps)=if (Fb t (prs (Ai Lh) n)).2=0 then some (Fb t (prs (Ai Lh) n)).1 else none:=by
 unfold Kd at h;have hs:=Qx hL;simp only[JZ,h,BL,hL];rw[if_pos];refine⟨by omega,by omega,?_⟩;rw[AO];intro k hk;simpa using h3 k (List.mem_range.1 hk)
def UxP(s:ByteArray)(w:Ab)(e:Ending)(w':Ab):Prop:=
 ∃(ao:Option Addr) (n c:Nat) (er:Int),e=.returned (.tuple #[.slice ao n c,.int .i64 er])/\Hid ((er=0/\s.size<=131070/\s.size=2*n/\(∀k,k<n->okp (Ai s) k)/\∃ys,Jk w.heap.size w' ao n ys/\c=ys.length/\ys.take n=prs (Ai s) n)∨(er≠0/\¬ (s.size<=131070/\∃m,s.size=2*m/\∀k,k<m->okp (Ai s) k)))/\Hid (Blw w w')
theorem yW(s:ByteArray)(w:Ab)(hs:s.size<=9223372036854775807):Ag Aa 227 #[.string s] w (UxP s w):=by
 by_cases h:s.size<=131070
 ·by_cases ho:s.size % 2=1
  ·refine(bE s w h ho).mono ?_;rintro e w' ⟨rfl,rfl⟩;exact⟨_,_,_,_,rfl,.inr ⟨by decide,fun⟨_,m,hm,_⟩=>by omega⟩,Ae _ _⟩
  ·refine(Xf s (s.size / 2) w (by omega) h).mono ?_;rintro e w' (⟨⟨k,hk,hno⟩,rfl,hb⟩|⟨hok,ao,ys,rfl,h1,h2,h3⟩)
   ·refine⟨_,_,_,_,rfl,.inr ⟨by decide,fun⟨_,m,hm,hall⟩=>hno (hall k (by omega))⟩,hb⟩
   ·exact⟨ao,_,_,_,rfl,.inl ⟨rfl,h,by omega,hok,ys,h1,rfl,h2⟩,h3⟩
 ·refine(Xh s w (by omega) hs).mono ?_;rintro e w' ⟨rfl,rfl⟩;exact⟨_,_,_,_,rfl,.inr ⟨by decide,fun⟨h',_⟩=>h h'⟩,Ae _ _⟩
def HsP(o:Option Dat)(w:Ab)(e:Ending)(w':Ab):Prop:=
 ∃(x:DA) (b:Bool),e=.returned (.tuple #[.agg #[.slice x.p1.a x.p1.n x.p1.c,.slice x.p2.a x.p2.n x.p2.c,.slice x.p3.a x.p3.n x.p3.c,.slice x.p4.a x.p4.n x.p4.c],.bool b])/\Hid (Blw w w'/\(b=true->∃d,o=some d/\Dd w.heap.size w' x d)/\(b=false->o=none))
theorem uD(t:Nat)(b o:Nat)(num:ByteArray)(qn:Bool)(ps:List Wd)(c:Nat)(w:Ab)(hw:RdW w (some ⟨b,o,none⟩) ((num,qn)::ps))(hc:ps.length+1<=c)(h63:c<=9223372036854775807)(hns:num.size<=1000000)(hs:(DZ ps).length<=1000000000)(hE:Cc w) :
  Ag Aa 216 #[.int .u16 (t:Int),.slice (some ⟨b,o,none⟩) (ps.length+1) c] w (HsP (JZ t ((num,qn)::ps)) w):=by
 obtain⟨b',o',e',hb,c1,c2,-⟩:=hw.head;injection e' with e'
 injection e' with e1 e2
 subst e1;subst e2;have HW:Hid (RdW w (some ⟨b,o,none⟩) ((num,qn)::ps)):=hw;have HZ:Hid (Blw w (FV w)/\BD (FV w) w.heap.size Bo):=⟨Ah _ _,Au _ _⟩;have hs0:(FV w).heap.size=w.heap.size+1:=by simp[FV]
 have HG0:Hid (G2 (w.heap.size+1) ((FV w).alloc (.cells #[.pointer none,.slice none 0 0] 65)) (w.heap.size+1) []/\Below (w.heap.size+1) (FV w) ((FV w).alloc (.cells #[.pointer none,.slice none 0 0] 65))):=by
  have h1:BB ((FV w).alloc (.cells #[.pointer none,.slice none 0 0] 65)) (FV w).heap.size (.pointer none) (.slice none 0 0):=Au _ _;have h2:Below (FV w).heap.size (FV w) _:=Ah (FV w) (.cells #[.pointer none,.slice none 0 0] 65);rw[hs0]at h1 h2;exact⟨.inl ⟨h1,rfl⟩,h2⟩
 have KN:Hid (∀W,Blw w W->Ag Aa 226 #[.string num,.int .i64 32] W (NuP num W)):=fun W hW=>rE num (by omega) W (hE.below hW)
 have HLh0:∃Lh:ByteArray,(⟨(DZ ps).toArray⟩:ByteArray)=Lh:=⟨_,rfl⟩;obtain⟨Lh,hLh⟩:=HLh0;have HLh:Hid ((⟨(DZ ps).toArray⟩:ByteArray)=Lh):=hLh;have KU:Hid (∀W,Ag Aa 227 #[.string Lh] W (UxP Lh W)):=fun W=>yW Lh W (by have:=Qx hLh;omega)
 have HS:Hid ((DZ ps).length<=1000000000):=hs;clear hw hs hE hLh;obtain⟨N,hN⟩:∃N,ps.length=N:=⟨_,rfl⟩;have HN:Hid (ps.length=N):=hN;rw[hN]at hc ⊢;clear hN;by_cases hc1:c=1
 case' pos=>
  have hN0:N=0:=by omega
  subst hc1;subst hN0;go_enter Tryz.func216,Tryz.ntmps216;go_wp2_with fail;go_loopw [21] (fun y wr=>∃k:Nat,k<=0/\y=.int .i64 k/\Hid (G2 (w.heap.size+1) wr (w.heap.size+1) (Ak (DZ (ps.take k)))/\Below (w.heap.size+1) (FV w) wr)) (fun y _=>0 - (intOf y).toNat)
  case atStart=>exact⟨0,Aw _,rfl,HG0.out⟩
  case' round=>
   obtain⟨k,hk,rfl,HR⟩:=hrel;have HBW:Hid (Blw w wr):=HZ.out.1.trans (HR.out.2.mono (by omega));by_cases hlt:k<0
   ·exact absurd hlt (by omega)
   have hge:¬ (k:Int)<(0:Int):=by omega
   have hkn:k=0:=by omega
   subst hkn;have hall:ps.take 0=ps:=Al (by rw[HN.out];exact Ad _);have HG:Hid (G2 (w.heap.size+1) wr (w.heap.size+1) (Ak (DZ ps))/\Below (w.heap.size+1) (FV w) wr):=by rw[hall]at HR;exact HR
   have q1:wr.cell? ⟨b,o,none⟩=some (.string num):=(HBW.out.cell (p:=⟨b,o,none⟩) hb).trans c1;have HBWx:Hid (Blw w wr):=HBW
 case' neg=>
  have hc1':¬ c - 1=0:=by omega
  have hc2:¬ (c:Int) - 1=0:=by omega
  go_enter Tryz.func216,Tryz.ntmps216;go_wp2_with fail;go_loopw [21] (fun y wr=>∃k:Nat,k<=N/\y=.int .i64 k/\Hid (G2 (w.heap.size+1) wr (w.heap.size+1) (Ak (DZ (ps.take k)))/\Below (w.heap.size+1) (FV w) wr)) (fun y _=>N - (intOf y).toNat)
  case atStart=>exact⟨0,Aw _,rfl,HG0.out⟩
  case' round=>
   obtain⟨k,hk,rfl,HR⟩:=hrel;have HBW:Hid (Blw w wr):=HZ.out.1.trans (HR.out.2.mono (by omega));by_cases hlt:k<N
   ·have hlt':(k:Int)<(N:Int):=by omega
    have hkp:k<ps.length:=by rw[HN.out];exact hlt
    obtain⟨-,r1,r2⟩:=HW.out.at k hkp;have q1:wr.cell? ⟨b,o+2+k*2,none⟩=some (.string ps[k].1):=(HBW.out.cell (p:=⟨b,o+2+k*2,none⟩) hb).trans r1;have q2:wr.cell? ⟨b,o+2+k*2+1,none⟩=some (.bool ps[k].2):=(HBW.out.cell (p:=⟨b,o+2+k*2+1,none⟩) hb).trans r2;have HT:=Ac (Td ps k hkp);have HL:Hid ((Ak (DZ (ps.take k))).length+ps[k].1.size<=140737488355328):=by
     show _<=_;have h1:=pH ps (k+1);rw[Td ps k hkp,Af]at h1;have h2:=HS.out;rw[Dr];have h3:ps[k].1.data.toList.length=ps[k].1.size:=rfl;omega
    clear r1 r2;generalize ps[k].1=s at*;generalize ps[k].2=q at*;go_wp2_with fail;have hnb:Blw wr (wr.alloc (.cells #[.string s,.bool q] 167)):=Ah _ _;have hbz:w.heap.size+1<=wr.heap.size:=by have:=HR.out.2.size;rw[hs0]at this;exact this
    have KW:=Ac (xI (w.heap.size+1) (w.heap.size+1) (Ak (DZ (ps.take k))) s (wr.alloc (.cells #[.string s,.bool q] 167)) (HR.out.1.below hnb) (Ad _) HL.out);refine KW.out.mono ?_;rintro e w2 ⟨rfl,H2⟩;go_wp2_with fail;refine⟨⟨k+1,by omega,by go_num,?_,?_⟩,by simp[intOf];omega⟩
    ·rw[HT.out,aU];exact .inr H2.out.1
    ·exact(HR.out.2.trans (hnb.mono hbz)).trans H2.out.2
   have hge:¬ (k:Int)<(N:Int):=by omega
   have hkn:k=N:=by omega
   subst hkn;have hall:ps.take k=ps:=Al (by rw[HN.out];exact Ad _);have HG:Hid (G2 (w.heap.size+1) wr (w.heap.size+1) (Ak (DZ ps))/\Below (w.heap.size+1) (FV w) wr):=by rw[hall]at HR;exact HR
   have q1:wr.cell? ⟨b,o,none⟩=some (.string num):=(HBW.out.cell (p:=⟨b,o,none⟩) hb).trans c1;have HBWx:Hid (Blw w wr):=HBW
 all_goals
  clear HR hall HBW;go_wp2_with fail;refine(KN.out _ HBWx.out).mono ?_;rintro e w2 ⟨n,nb,rfl,Hn,H8,H2⟩;have hn:=Hn.out;have HG2:Hid (G2 (w.heap.size+1) w2 (w.heap.size+1) (Ak (DZ ps))/\Below (w.heap.size+1) (FV w) w2):=⟨HG.out.1.below H2.out,HG.out.2.trans (H2.out.mono (by have:=HG.out.2.size;rw[hs0]at this;exact this))⟩;have KS:Hid (Ag Aa 31 #[.pointer (some ⟨w.heap.size+1,0,none⟩)] w2 fun e w'=>e=.returned (.string Lh)/\Hid (Below (w.heap.size+1) w2 w')):=by
   have:=RK (w.heap.size+1) (w.heap.size+1) (DZ ps) w2 HG2.out.1 (by have:=HS.out;omega);rw[HLh.out]at this;exact this
  clear HG H2 HBWx;go_wp2_with fail;refine KS.out.mono ?_;rintro e w3 ⟨rfl,H3⟩;have HB3:Hid (Below (w.heap.size+1) (FV w) w3):=HG2.out.2.trans H3.out;clear KS H3 HG2;go_wp2_with fail;refine(KU.out _).mono ?_;rintro e w4 ⟨ao,l,cl,er,rfl,H4,H5⟩;have HB4:Hid (Below (w.heap.size+1) (FV w) w4):=HB3.out.trans (H5.out.mono (by have:=HB3.out.size;rw[hs0]at this;exact this));have hs4:w.heap.size+1<=w4.heap.size:=by have:=HB4.out.size;rw[hs0]at this;exact this
  have HRB:Hid (BD w4 w.heap.size Bo):=(HB4.out.block _ (by omega)).trans HZ.out.2;have HBW6:Hid (Blw w w4):=HZ.out.1.trans (HB4.out.mono (by omega));clear HB3 KU KN H5;obtain _|_:=nb
  ·have er0:=HRB.out.box.1;have er1:=HRB.out.box.2.1;have er2:=HRB.out.box.2.2.1;have er3:=HRB.out.box.2.2.2.1;have ez0:=HRB.out.fz 0;have ez1:=HRB.out.fz 1;have ez2:=HRB.out.fz 2;have ez3:=HRB.out.fz 3;simp only at er0 er1 er2 er3;clear H4;go_wp2_with fail;generalize hG:(((WZ3 w4 w.heap.size).setCell ⟨w.heap.size,3,none⟩ (.slice none 0 0)))=W9 at*;have HX:Hid (BD W9 w.heap.size Bo/\Blw w W9):=by subst hG;exact ret4 HRB.out HBW6.out (Ad _) Bo
   clear hG;have z0:=HX.out.1.box.1;have z1:=HX.out.1.box.2.1;have z2:=HX.out.1.box.2.2.1;have z3:=HX.out.1.box.2.2.2.1;exact An (v:=.tuple #[.agg #[.slice none 0 0,.slice none 0 0,.slice none 0 0,.slice none 0 0],.bool false]) (by simp[AJ,Hf,go_sem,z0,z1,z2,z3]) rfl ⟨Bo,false,rfl,⟨HX.out.2,fun h=>by (cases h),fun _=>tU (H8.out.2 (by simp))⟩⟩
  ·by_cases her:er=0
   ·subst her;have HQ:Hid (Lh.size<=131070/\Lh.size=2*l/\(∀k,k<l->okp (Ai Lh) k)/\∃ys,Jk w3.heap.size w4 ao l ys/\cl=ys.length/\ys.take l=prs (Ai Lh) l):=by
     obtain⟨_,h⟩|⟨h,_⟩:=H4.out
     ·exact h
     ·exact absurd rfl h
    clear H4;by_cases hnl:n=l
    ·subst hnl;obtain⟨ys,g1,g2,g3⟩:=HQ.out.2.2.2;subst g2;have KR:Hid (Ag Aa 228 #[.int .u16 t,.slice ao n ys.length] w4 (RdP (Fb t (prs (Ai Lh) n)) w4)):=by
      have hr:=g1.rdTake n;rw[g3]at hr;exact aO t ao n ys.length (prs (Ai Lh) n) w4 hr (ZG _ _) (Jk.capb g1).1 (Jk.capb g1).2
     have HY:Hid (∀r:Dat × Int,r=Fb t (prs (Ai Lh) n)->JZ t ((num,qn)::ps)=if r.2=0 then some r.1 else none):=fun r hr=>by
      subst hr;exact xM (H8.out.1 (by simp)) HLh.out HQ.out.1 HQ.out.2.1 HQ.out.2.2.1
     have hl1:n<=65535:=by have:=HQ.out.1;have:=HQ.out.2.1;omega
     generalize Fb t (prs (Ai Lh) n)=rr at*;clear g1 g3 HQ;go_wp2_with fail;refine KR.out.mono ?_;rintro e w6 ⟨x,rfl,H6⟩;have HB6:Hid (Below (w.heap.size+1) (FV w) w6):=HB4.out.trans (H6.out.2.mono hs4);have hs6:w.heap.size+1<=w6.heap.size:=by have:=HB6.out.size;rw[hs0]at this;exact this
     have HRB6:Hid (BD w6 w.heap.size Bo):=(HB6.out.block _ (by omega)).trans HZ.out.2;have HO:Hid (Dd w4.heap.size w6 x rr.1):=H6.out.1;have HBW7:Hid (Blw w w6):=HZ.out.1.trans (HB6.out.mono (by omega));have HYY:=Ac (HY.out rr rfl);have er0:=HRB6.out.box.1;have er1:=HRB6.out.box.2.1;have er2:=HRB6.out.box.2.2.1;have er3:=HRB6.out.box.2.2.2.1;have ez0:=HRB6.out.fz 0;have ez1:=HRB6.out.fz 1;have ez2:=HRB6.out.fz 2;have ez3:=HRB6.out.fz 3;simp only at er0 er1 er2 er3;have hne1:¬ w.heap.size=w6.heap.size:=by omega
     have hne2:¬ w6.heap.size=w.heap.size:=by omega
     have hlt6:w.heap.size<w6.heap.size:=by omega
     clear KR H6 HB4 HB6 HY HRB HBW6;generalize rr.2=r2 at*;generalize rr.1=r1 at*;by_cases hr2:r2=0
     ·subst hr2;go_wp2_with fail;have HX:Hid (BD (((WD3 w6 w.heap.size x).setCell ⟨w.heap.size,3,none⟩ (.slice x.p4.a x.p4.n x.p4.c))) w.heap.size x/\Blw w (((WD3 w6 w.heap.size x).setCell ⟨w.heap.size,3,none⟩ (.slice x.p4.a x.p4.n x.p4.c)))):=ret4 HRB6.out HBW7.out (Ad _) x;have HX2:Hid (Dd w.heap.size (((WD3 w6 w.heap.size x).setCell ⟨w.heap.size,3,none⟩ (.slice x.p4.a x.p4.n x.p4.c))) x r1):=HO.out.ret4 (by omega) (by omega);generalize hG:((((WD3 w6 w.heap.size x).setCell ⟨w.heap.size,3,none⟩ (.slice x.p4.a x.p4.n x.p4.c))).alloc (cDx x))=W9 at*;have HY:Hid (BD W9 w.heap.size x/\Dd w.heap.size W9 x r1/\Blw w W9):=by subst hG;exact⟨((Ah (((WD3 w6 w.heap.size x).setCell ⟨w.heap.size,3,none⟩ (.slice x.p4.a x.p4.n x.p4.c))) (cDx x)).block _ HX.out.1.lt).trans HX.out.1,HX2.out.stays (Ah (((WD3 w6 w.heap.size x).setCell ⟨w.heap.size,3,none⟩ (.slice x.p4.a x.p4.n x.p4.c))) (cDx x)),HX.out.2.trans ((Ah (((WD3 w6 w.heap.size x).setCell ⟨w.heap.size,3,none⟩ (.slice x.p4.a x.p4.n x.p4.c))) (cDx x)).mono HX.out.2.size)⟩
      clear hG;have z0:=HY.out.1.box.1;have z1:=HY.out.1.box.2.1;have z2:=HY.out.1.box.2.2.1;have z3:=HY.out.1.box.2.2.2.1;exact An (v:=.tuple #[.agg #[.slice x.p1.a x.p1.n x.p1.c,.slice x.p2.a x.p2.n x.p2.c,.slice x.p3.a x.p3.n x.p3.c,.slice x.p4.a x.p4.n x.p4.c],.bool true]) (by simp[AJ,Hf,go_sem,z0,z1,z2,z3]) rfl ⟨x,true,rfl,⟨HY.out.2.2,fun _=>⟨r1,HYY.out,HY.out.2.1⟩,fun h=>by (cases h)⟩⟩
     ·have hr3:(r2 == 0)=false:=by simpa using hr2
      go_wp2_with fail;have HX:Hid (BD (((WD3 w6 w.heap.size x).setCell ⟨w.heap.size,3,none⟩ (.slice x.p4.a x.p4.n x.p4.c))) w.heap.size x/\Blw w (((WD3 w6 w.heap.size x).setCell ⟨w.heap.size,3,none⟩ (.slice x.p4.a x.p4.n x.p4.c)))):=ret4 HRB6.out HBW7.out (Ad _) x;generalize hG:((((WD3 w6 w.heap.size x).setCell ⟨w.heap.size,3,none⟩ (.slice x.p4.a x.p4.n x.p4.c))).alloc (cDx x))=W9 at*;have HY:Hid (BD W9 w.heap.size x/\Blw w W9):=by subst hG;exact⟨((Ah (((WD3 w6 w.heap.size x).setCell ⟨w.heap.size,3,none⟩ (.slice x.p4.a x.p4.n x.p4.c))) (cDx x)).block _ HX.out.1.lt).trans HX.out.1,HX.out.2.trans ((Ah (((WD3 w6 w.heap.size x).setCell ⟨w.heap.size,3,none⟩ (.slice x.p4.a x.p4.n x.p4.c))) (cDx x)).mono HX.out.2.size)⟩
      clear hG;have z0:=HY.out.1.box.1;have z1:=HY.out.1.box.2.1;have z2:=HY.out.1.box.2.2.1;have z3:=HY.out.1.box.2.2.2.1;exact An (v:=.tuple #[.agg #[.slice x.p1.a x.p1.n x.p1.c,.slice x.p2.a x.p2.n x.p2.c,.slice x.p3.a x.p3.n x.p3.c,.slice x.p4.a x.p4.n x.p4.c],.bool false]) (by simp[AJ,Hf,go_sem,z0,z1,z2,z3]) rfl ⟨x,false,rfl,⟨HY.out.2,fun h=>by (cases h),fun _=>by rw[HYY.out,if_neg hr2]⟩⟩
    ·have hnl1:((n:Int) != (l:Int))=true:=by rw[bne_iff_ne];omega
     have hnl2:((n:Int) == (l:Int))=false:=by rw[beq_eq_false_iff_ne];omega
     have hl1:l<=65535:=by have:=HQ.out.1;have:=HQ.out.2.1;omega
     have er0:=HRB.out.box.1;have er1:=HRB.out.box.2.1;have er2:=HRB.out.box.2.2.1;have er3:=HRB.out.box.2.2.2.1;have ez0:=HRB.out.fz 0;have ez1:=HRB.out.fz 1;have ez2:=HRB.out.fz 2;have ez3:=HRB.out.fz 3;simp only at er0 er1 er2 er3;go_wp2_with fail;generalize hG:(((WZ3 w4 w.heap.size).setCell ⟨w.heap.size,3,none⟩ (.slice none 0 0)))=W9 at*;have HX:Hid (BD W9 w.heap.size Bo/\Blw w W9):=by subst hG;exact ret4 HRB.out HBW6.out (Ad _) Bo
     clear hG;have z0:=HX.out.1.box.1;have z1:=HX.out.1.box.2.1;have z2:=HX.out.1.box.2.2.1;have z3:=HX.out.1.box.2.2.2.1;exact An (v:=.tuple #[.agg #[.slice none 0 0,.slice none 0 0,.slice none 0 0,.slice none 0 0],.bool false]) (by simp[AJ,Hf,go_sem,z0,z1,z2,z3]) rfl ⟨Bo,false,rfl,⟨HX.out.2,fun h=>by (cases h),fun _=>vT (H8.out.1 (by simp)) HLh.out HQ.out.2.1 hnl⟩⟩
   ·have her2:(er == 0)=false:=by simpa using her
    have her3:(er != 0)=true:=by simpa using her
    have HQ:Hid (¬ (Lh.size<=131070/\∃m,Lh.size=2*m/\∀k,k<m->okp (Ai Lh) k)):=by
     obtain⟨h,_⟩|⟨_,h⟩:=H4.out
     ·exact absurd h her
     ·exact h
    have er0:=HRB.out.box.1;have er1:=HRB.out.box.2.1;have er2:=HRB.out.box.2.2.1;have er3:=HRB.out.box.2.2.2.1;have ez0:=HRB.out.fz 0;have ez1:=HRB.out.fz 1;have ez2:=HRB.out.fz 2;have ez3:=HRB.out.fz 3;simp only at er0 er1 er2 er3;clear H4;go_wp2_with fail;generalize hG:(((WZ3 w4 w.heap.size).setCell ⟨w.heap.size,3,none⟩ (.slice none 0 0)))=W9 at*;have HX:Hid (BD W9 w.heap.size Bo/\Blw w W9):=by subst hG;exact ret4 HRB.out HBW6.out (Ad _) Bo
    clear hG;have z0:=HX.out.1.box.1;have z1:=HX.out.1.box.2.1;have z2:=HX.out.1.box.2.2.1;have z3:=HX.out.1.box.2.2.2.1;exact An (v:=.tuple #[.agg #[.slice none 0 0,.slice none 0 0,.slice none 0 0,.slice none 0 0],.bool false]) (by simp[AJ,Hf,go_sem,z0,z1,z2,z3]) rfl ⟨Bo,false,rfl,⟨HX.out.2,fun h=>by (cases h),fun _=>tL (H8.out.1 (by simp)) HLh.out HQ.out⟩⟩
def RdG(t:Nat)(w0:Ab)(wa:Option Addr)(ws:List Wd)(c:Nat)(oa:Option Addr)(on oc:Nat)(og:List ByteArray):Prop:=
 ∀w,RX w0 w wa ws.length c oa on oc Bo false ⟨[],[],[],[]⟩->Ag Aa 217 #[.pointer (some ⟨w0.heap.size,0,none⟩),.int .u16 (t:Int)] w fun e w'=>∃v,e=.returned v/\Hid (∃K z,K<=900/\RG w0 w' oa on oc K z (Ji t og ws))
theorem IW{w0 w:Ab}{wa:Option Addr}{ws:List Wd}{c:Nat}{oa:Option Addr}{on oc:Nat}(hw:RdW w0 wa ws)(hc:ws.length<=c)(h63:c<=9223372036854775807)(hb:WB ws)(h:RX w0 w wa ws.length c oa on oc Bo false ⟨[],[],[],[]⟩)(K:Nat)(z:Bool):RG w0 w oa on oc K z (some (ws,Eo)):=
 ⟨wa,c,Bo,ws,false,Eo,hw,hc,h63,h,hb,DB.nil K z,.inl ⟨rfl,rfl⟩⟩
theorem fA(t:Nat)(ht:t=1∨t=28)(w0:Ab)(wa:Option Addr)(ws:List Wd)(c:Nat)(oa:Option Addr)(on oc:Nat)(og:List ByteArray)(hE:Cc w0)(hog:Nm w0 oa on og)(hw:RdW w0 wa ws)(hc:ws.length<=c)(h63:c<=9223372036854775807)(hb:WB ws):RdG t w0 wa ws c oa on oc og:=by
 intro w h;have K1:=Ac (uZ w0 w 0 oa on oc true _ hE (IW hw hc h63 hb h 0 true));clear hE hog hw hc h63 hb h;obtain rfl|rfl:=ht
 all_goals
  go_enter FR,Fh;go_wp2_with fail;refine K1.out.mono ?_;rintro e w1 ⟨v1,rfl,H1⟩;go_wp2_with fail
  go_end0
  exact⟨_,rfl,_,_,(by omega),H1.out⟩
theorem fNS(t:Nat)(ht:t=2∨t=5∨t=12)(w0:Ab)(wa:Option Addr)(ws:List Wd)(c:Nat)(oa:Option Addr)(on oc:Nat)(og:List ByteArray)(hE:Cc w0)(hog:Nm w0 oa on og)(hw:RdW w0 wa ws)(hc:ws.length<=c)(h63:c<=9223372036854775807)(hb:WB ws):RdG t w0 wa ws c oa on oc og:=by
 intro w h;have K1:=Ac (Qw w0 w 1 0 oa on oc og _ (by omega) hog (IW hw hc h63 hb h 0 false));clear hE hog hw hc h63 hb h;obtain rfl|rfl|rfl:=ht
 all_goals
  go_enter FR,Fh;go_wp2_with fail;refine K1.out.mono ?_;rintro e w1 ⟨v1,rfl,H1⟩;go_wp2_with fail
  go_end0
  exact⟨_,rfl,_,_,(by omega),H1.out⟩
theorem xY(t:Nat)(ht:t=6)(w0:Ab)(wa:Option Addr)(ws:List Wd)(c:Nat)(oa:Option Addr)(on oc:Nat)(og:List ByteArray)(hE:Cc w0)(hog:Nm w0 oa on og)(hw:RdW w0 wa ws)(hc:ws.length<=c)(h63:c<=9223372036854775807)(hb:WB ws):RdG t w0 wa ws c oa on oc og:=by
 intro w h;have K1:=Ac (Qw w0 w 2 0 oa on oc og _ (by omega) hog (IW hw hc h63 hb h 0 false));have K2:Hid (∀W o,RG w0 W oa on oc (0+2) false o->Ag Aa 231 #[.pointer (some ⟨w0.heap.size,0,none⟩),.int .i64 5] W fun e w'=>∃v,e=.returned v/\Hid (RG w0 w' oa on oc (0+2+5) false (rep LG 5 o))):=fun W o hW=>UN w0 W 5 (0+2) oa on oc false o (by omega) hE hW
 clear hE hog hw hc h63 hb h;subst ht;go_enter FR,Fh;go_wp2_with fail;refine K1.out.mono ?_;rintro e w1 ⟨v1,rfl,H1⟩;go_wp2_with fail;refine(K2.out _ _ H1.out).mono ?_;rintro e w2 ⟨v2,rfl,H2⟩;go_wp2_with fail
 go_end0
 exact⟨_,rfl,_,_,(by omega),H2.out⟩
theorem fMX(t:Nat)(ht:t=15)(w0:Ab)(wa:Option Addr)(ws:List Wd)(c:Nat)(oa:Option Addr)(on oc:Nat)(og:List ByteArray)(hE:Cc w0)(hog:Nm w0 oa on og)(hw:RdW w0 wa ws)(hc:ws.length<=c)(h63:c<=9223372036854775807)(hb:WB ws):RdG t w0 wa ws c oa on oc og:=by
 intro w h;have K1:=Ac (UN w0 w 1 0 oa on oc false _ (by omega) hE (IW hw hc h63 hb h 0 false));have K2:Hid (∀W o,RG w0 W oa on oc (0+1) false o->Ag Aa 230 #[.pointer (some ⟨w0.heap.size,0,none⟩),.int .i64 1] W fun e w'=>∃v,e=.returned v/\Hid (RG w0 w' oa on oc (0+1+1) false (rep (GN og) 1 o))):=fun W o hW=>Qw w0 W 1 (0+1) oa on oc og o (by omega) hog hW
 clear hE hog hw hc h63 hb h;subst ht;go_enter FR,Fh;go_wp2_with fail;refine K1.out.mono ?_;rintro e w1 ⟨v1,rfl,H1⟩;go_wp2_with fail;refine(K2.out _ _ H1.out).mono ?_;rintro e w2 ⟨v2,rfl,H2⟩;go_wp2_with fail
 go_end0
 exact⟨_,rfl,_,_,(by omega),H2.out⟩
theorem xS(t:Nat)(ht:t=33)(w0:Ab)(wa:Option Addr)(ws:List Wd)(c:Nat)(oa:Option Addr)(on oc:Nat)(og:List ByteArray)(hE:Cc w0)(hog:Nm w0 oa on og)(hw:RdW w0 wa ws)(hc:ws.length<=c)(h63:c<=9223372036854775807)(hb:WB ws):RdG t w0 wa ws c oa on oc og:=by
 intro w h;have K1:=Ac (UN w0 w 3 0 oa on oc false _ (by omega) hE (IW hw hc h63 hb h 0 false));have K2:Hid (∀W o,RG w0 W oa on oc (0+3) false o->Ag Aa 230 #[.pointer (some ⟨w0.heap.size,0,none⟩),.int .i64 1] W fun e w'=>∃v,e=.returned v/\Hid (RG w0 w' oa on oc (0+3+1) false (rep (GN og) 1 o))):=fun W o hW=>Qw w0 W 1 (0+3) oa on oc og o (by omega) hog hW
 clear hE hog hw hc h63 hb h;subst ht;go_enter FR,Fh;go_wp2_with fail;refine K1.out.mono ?_;rintro e w1 ⟨v1,rfl,H1⟩;go_wp2_with fail;refine(K2.out _ _ H1.out).mono ?_;rintro e w2 ⟨v2,rfl,H2⟩;go_wp2_with fail
 go_end0
 exact⟨_,rfl,_,_,(by omega),H2.out⟩
theorem yJ(t:Nat)(ht:t=257)(w0:Ab)(wa:Option Addr)(ws:List Wd)(c:Nat)(oa:Option Addr)(on oc:Nat)(og:List ByteArray)(hE:Cc w0)(hog:Nm w0 oa on og)(hw:RdW w0 wa ws)(hc:ws.length<=c)(h63:c<=9223372036854775807)(hb:WB ws):RdG t w0 wa ws c oa on oc og:=by
 intro w h;have K1:=Ac (UN w0 w 1 0 oa on oc true _ (by omega) hE (IW hw hc h63 hb h 0 true));have K2:Hid (∀W o,RG w0 W oa on oc (0+1) true o->Ag Aa 233 #[.pointer (some ⟨w0.heap.size,0,none⟩)] W fun e w'=>∃v,e=.returned v/\Hid (RG w0 w' oa on oc (0+1+1) true (rep bB 1 o))):=fun W o hW=>wB w0 W (0+1) oa on oc o (by omega) hW
 have K3:Hid (∀W o,RG w0 W oa on oc (0+1+1) true o->Ag Aa 232 #[.pointer (some ⟨w0.heap.size,0,none⟩),.int .i64 1] W fun e w'=>∃v,e=.returned v/\Hid (RG w0 w' oa on oc (0+1+1+1) true (rep Hy 1 o))):=fun W o hW=>Zn w0 W 1 (0+1+1) oa on oc o (by omega) hE hW
 clear hE hog hw hc h63 hb h;subst ht;go_enter FR,Fh;go_wp2_with fail;refine K1.out.mono ?_;rintro e w1 ⟨v1,rfl,H1⟩;go_wp2_with fail;refine(K2.out _ _ H1.out).mono ?_;rintro e w2 ⟨v2,rfl,H2⟩;go_wp2_with fail;refine(K3.out _ _ H2.out).mono ?_;rintro e w3 ⟨v3,rfl,H3⟩;go_wp2_with fail
 go_end0
 exact⟨_,rfl,_,_,(by omega),H3.out⟩
theorem yP(w0:Ab)(wa:Option Addr)(ws:List Wd)(c:Nat)(oa:Option Addr)(on oc:Nat)(og:List ByteArray)(hE:Cc w0)(hw:RdW w0 wa ws)(hc:ws.length<=c)(h63:c<=9223372036854775807)(hb:WB ws):RdG 16 w0 wa ws c oa on oc og:=by
 intro w h;have HF:Hid (Ji 16 og ws=rep Hy (max 1 ws.length) (some (ws,Eo))):=rfl;rw[HF.out];have K1:=Ac (Zn w0 w (max 1 ws.length) 0 oa on oc _ (by have:=hb.1;omega) hE (IW hw hc h63 hb h 0 true));have d0:=h.blk.cells.1;have hN:=hb.1;obtain⟨M,hM⟩:∃M,max 1 ws.length=M:=⟨_,rfl⟩;rw[hM]at K1 ⊢;obtain⟨L,hL⟩:∃L,ws.length=L:=⟨_,rfl⟩;rw[hL]at hM hN d0;have hmax:max (1:Int) (L:Int)=(M:Int):=by omega
 have HM:Hid (M<=900):=by show _<=_;omega
 clear hE hw hc h63 hb h HF hL hM;go_enter FR,Fh;go_wp2_with fail;refine K1.out.mono ?_;rintro e w1 ⟨v1,rfl,H1⟩;go_wp2_with fail
 go_end0
 exact⟨_,rfl,_,_,(by have:=HM.out;omega),H1.out⟩
def knT(t:Nat):Prop:=t=1∨t=28∨t=2∨t=5∨t=12∨t=6∨t=15∨t=33∨t=16∨t=257
theorem sH(t:Nat)(ht:¬ knT t)(w0:Ab)(wa:Option Addr)(ws:List Wd)(c:Nat)(oa:Option Addr)(on oc:Nat)(og:List ByteArray)(hw:RdW w0 wa ws)(hc:ws.length<=c)(h63:c<=9223372036854775807)(hb:WB ws):RdG t w0 wa ws c oa on oc og:=by
 intro w h;unfold knT at ht;have HF:Hid (Ji t og ws=none):=by
  show _=_;unfold Ji;rw[if_neg (by omega),if_neg (by omega),if_neg (by omega),if_neg (by omega),if_neg (by omega),if_neg (by omega),if_neg (by omega)]
 have HR:Hid (∀W,RX w0 W wa ws.length c oa on oc Bo true ⟨[],[],[],[]⟩->RG w0 W oa on oc 0 true none):=fun W hW=>⟨wa,c,Bo,ws,true,Eo,hw,hc,h63,hW,hb,DB.nil 0 true,.inr ⟨rfl,rfl⟩⟩
 rw[HF.out];have q1:((t:Int) == 1)=false:=by rw[beq_eq_false_iff_ne];omega
 have q28:((t:Int) == 28)=false:=by rw[beq_eq_false_iff_ne];omega
 have q2:((t:Int) == 2)=false:=by rw[beq_eq_false_iff_ne];omega
 have q5:((t:Int) == 5)=false:=by rw[beq_eq_false_iff_ne];omega
 have q12:((t:Int) == 12)=false:=by rw[beq_eq_false_iff_ne];omega
 have q6:((t:Int) == 6)=false:=by rw[beq_eq_false_iff_ne];omega
 have q15:((t:Int) == 15)=false:=by rw[beq_eq_false_iff_ne];omega
 have q33:((t:Int) == 33)=false:=by rw[beq_eq_false_iff_ne];omega
 have q16:((t:Int) == 16)=false:=by rw[beq_eq_false_iff_ne];omega
 have q257:((t:Int) == 257)=false:=by rw[beq_eq_false_iff_ne];omega
 have HX:=Ac (h.bad true);have f6:=h.blk.fz 6;have d6:=h.blk.cells.2.2.2.2.2.2;clear h hw hc h63 hb ht HF;go_enter FR,Fh;go_wp2_with fail
 go_end0
 exact⟨_,rfl,0,true,(by omega),HR.out _ HX.out⟩
theorem gA(t:Nat)(w0:Ab)(wa:Option Addr)(ws:List Wd)(c:Nat)(oa:Option Addr)(on oc:Nat)(og:List ByteArray)(hE:Cc w0)(hog:Nm w0 oa on og)(hw:RdW w0 wa ws)(hc:ws.length<=c)(h63:c<=9223372036854775807)(hb:WB ws):RdG t w0 wa ws c oa on oc og:=by
 by_cases h:knT t
 ·obtain h|h|h|h|h|h|h|h|h|h:=h
  ·exact fA t (.inl h) w0 wa ws c oa on oc og hE hog hw hc h63 hb
  ·exact fA t (.inr h) w0 wa ws c oa on oc og hE hog hw hc h63 hb
  ·exact fNS t (.inl h) w0 wa ws c oa on oc og hE hog hw hc h63 hb
  ·exact fNS t (.inr (.inl h)) w0 wa ws c oa on oc og hE hog hw hc h63 hb
  ·exact fNS t (.inr (.inr h)) w0 wa ws c oa on oc og hE hog hw hc h63 hb
  ·exact xY t h w0 wa ws c oa on oc og hE hog hw hc h63 hb
  ·exact fMX t h w0 wa ws c oa on oc og hE hog hw hc h63 hb
  ·exact xS t h w0 wa ws c oa on oc og hE hog hw hc h63 hb
  ·subst h;exact yP w0 wa ws c oa on oc og hE hw hc h63 hb
  ·exact yJ t h w0 wa ws c oa on oc og hE hog hw hc h63 hb
 ·exact sH t h w0 wa ws c oa on oc og hw hc h63 hb
theorem wX{t:Nat}{og:List ByteArray}{ws wsb:List Wd}{B:Nat}{W:Ab}{x:DA}{d:Dat}(hw:Ge t og ws=(Ji t og ws).bind fun p=>if p.1=[] then some p.2 else none)(h:RGo false wsb d (Ji t og ws))(hl:wsb.length=0)(ho:Dd B W x d):∃d,Ge t og ws=some d/\Dd B W x d:=by
 obtain⟨_,h⟩|⟨h,_⟩:=h
 ·have:wsb=[]:=Aq.1 hl;subst this;exact⟨d,by rw[hw,h];rfl,ho⟩
 ·cases h
theorem tC{t:Nat}{og:List ByteArray}{ws wsb:List Wd}{d:Dat}(hw:Ge t og ws=(Ji t og ws).bind fun p=>if p.1=[] then some p.2 else none)(h:RGo false wsb d (Ji t og ws))(hl:¬ wsb.length=0):Ge t og ws=none:=by
 obtain⟨_,h⟩|⟨h,_⟩:=h
 ·rw[hw,h];simp only[BL];rw[if_neg (fun e=>hl (by rw[e];rfl))]
 ·cases h
theorem vG{t:Nat}{og:List ByteArray}{ws wsb:List Wd}{d:Dat}(hw:Ge t og ws=(Ji t og ws).bind fun p=>if p.1=[] then some p.2 else none)(h:RGo true wsb d (Ji t og ws)):Ge t og ws=none:=by
 obtain⟨h,_⟩|⟨_,h⟩:=h
 ·cases h
 ·rw[hw,h];rfl
theorem mO(t:Nat)(a:Option Addr)(ws:List Wd)(c:Nat)(oa:Option Addr)(on oc:Nat)(og:List ByteArray)(w:Ab)(hne:ws.head?≠some OD)(hw:RdW w a ws)(h:∀w0,Blw w w0->RdG t w0 a ws c oa on oc og) :
  Ag Aa 198 #[.int .u16 (t:Int),.slice a ws.length c,.slice oa on oc] w (HsP (Ge t og ws) w):=by
 have HZ:Hid (Blw w (w.alloc (.cells #[.slice none 0 0,.slice none 0 0,.slice none 0 0,.slice none 0 0] 41))/\BD (w.alloc (.cells #[.slice none 0 0,.slice none 0 0,.slice none 0 0,.slice none 0 0] 41)) w.heap.size Bo):=⟨Ah _ _,Au _ _⟩;have hsz0:(w.alloc (.cells #[.slice none 0 0,.slice none 0 0,.slice none 0 0,.slice none 0 0] 41)).heap.size=w.heap.size+1:=by simp
 have K:=Ac (h _ HZ.out.1 _ (gB (w.alloc (.cells #[.slice none 0 0,.slice none 0 0,.slice none 0 0,.slice none 0 0] 41)) a ws.length c oa on oc));rw[hsz0]at K;have HW:Hid (Ge t og ws=(Ji t og ws).bind fun p=>if p.1=[] then some p.2 else none):=by show _=_;unfold Ge;rw[if_neg hne]
 clear h;have hcase:ws=[]∨∃s q r b o,ws=(s,q)::r/\a=some ⟨b,o,none⟩/\b<w.heap.size/\w.cell? ⟨b,o,none⟩=some (.string s)/\w.cell? ⟨b,o+1,none⟩=some (.bool q)/\((s.toList=[92,35]/\q=true)∨(s.toList == [92,35])=false):=by
  cases ws with
  |nil=>exact .inl rfl
  |cons y r=>
   obtain⟨s,q⟩:=y;obtain⟨b,o,e,hb,c1,c2,hrr⟩:=hw.head;refine .inr ⟨s,q,r,b,o,rfl,e,hb,c1,c2,?_⟩;by_cases hq:s.toList=[92,35]
   ·refine .inl ⟨hq,?_⟩;cases q with
    |true=>rfl
    |false=>
     exfalso
     apply hne
     have:s=⟨#[92,35]⟩:=by
      have h2:s.data.toList=[92,35]:=by rw[<- Lib.toList_data];exact hq
      cases s with|mk da=>simp at h2;rw[show da=#[92,35] from by rw[<- Array.toArray_toList (xs:=da),h2]]
     rw[this];rfl
   ·right;simpa using hq
 clear hne hw;obtain⟨ws9,hws9⟩:∃ws9,ws9=ws:=⟨_,rfl⟩;rw[<- hws9]at K HW ⊢;generalize hlen:ws9.length=len at K ⊢;obtain rfl|⟨s,q,r,b,o,rfl,rfl,hbs,c1,c2,hs|hs⟩:=hcase
 focus
  have hl:len=0:=by rw[<- hlen,hws9];rfl
  subst hl;clear hlen hws9
 rotate_left
 focus
  obtain⟨hs,rfl⟩:=hs;have hl0:(0:Int)<(len:Int):=by have:len=r.length+1:=(by rw[<- hlen,hws9];rfl);omega
  clear hlen hws9
 rotate_left
 focus
  have hl0:(0:Int)<(len:Int):=by have:len=r.length+1:=(by rw[<- hlen,hws9];rfl);omega
  clear hlen hws9
 all_goals
  go_enter Tryz.func198,Tryz.ntmps198;go_wp2_with fail;refine K.out.mono ?_;rintro e w1 ⟨v,rfl,H2⟩;obtain⟨K7,z7,hk9,wa,c',x,wsb,bd,d,h1,h2,h3,h4,h5,h6,h7⟩:=H2.out;obtain⟨⟨d0,d2,d3,d4,d5,d6⟩,k1,k2,k3⟩:=fJ h4;have HK:Hid (BD w1 w.heap.size Bo/\Blw w w1/\Dd (w.heap.size+2) w1 x d):=⟨k1,k2,k3⟩;have HO:Hid (RGo bd wsb d (Ji t og ws9)):=h7;have er0:=k1.box.1;have er1:=k1.box.2.1;have er2:=k1.box.2.2.1;have er3:=k1.box.2.2.2.1;have ez0:=k1.fz 0;have ez1:=k1.fz 1;have ez2:=k1.fz 2;have ez3:=k1.fz 3;simp only at er0 er1 er2 er3;have hne1:¬ w.heap.size=w.heap.size+1:=by omega
  clear k1 k2 k3 h1 h2 h3 h4 h5 h6 h7 H2 K HZ hsz0 hk9;obtain _|_:=bd
  ·obtain⟨L,hL⟩:∃L,wsb.length=L:=⟨_,rfl⟩;have HL:Hid (wsb.length=L):=hL;rw[hL]at d0;clear hL;by_cases hL0:L=0
   ·subst hL0;go_wp2_with fail
    go_region_held3 (fun W=>W.cell? ⟨w.heap.size+1,0,none⟩=some (.slice wa 0 c')/\W.cell? ⟨w.heap.size+1,2,none⟩=some (.slice x.p1.a x.p1.n x.p1.c)/\W.cell? ⟨w.heap.size+1,3,none⟩=some (.slice x.p2.a x.p2.n x.p2.c)/\W.cell? ⟨w.heap.size+1,4,none⟩=some (.slice x.p3.a x.p3.n x.p3.c)/\W.cell? ⟨w.heap.size+1,5,none⟩=some (.slice x.p4.a x.p4.n x.p4.c)/\W.cell? ⟨w.heap.size+1,6,none⟩=some (.bool false)) (exact⟨by go_keep,by go_keep,by go_keep,by go_keep,by go_keep,by go_keep⟩) (fail)
    all_goals
     go_wp2_with fail;generalize hG:(((WD3 w1 w.heap.size x).setCell ⟨w.heap.size,3,none⟩ (.slice x.p4.a x.p4.n x.p4.c)).drew)=W9 at*;have HX:Hid (BD W9 w.heap.size x/\Dd w.heap.size W9 x d/\Blw w W9):=by subst hG;exact⟨HK.out.1.four x,(HK.out.2.2.ret4 (by omega) (by omega)).stays (Ae _ _).drew,(ret4 HK.out.1 HK.out.2.1 (Ad _) x).2.drew⟩
     clear hG;have z0:=HX.out.1.box.1;have z1:=HX.out.1.box.2.1;have z2:=HX.out.1.box.2.2.1;have z3:=HX.out.1.box.2.2.2.1;exact An (v:=.tuple #[.agg #[.slice x.p1.a x.p1.n x.p1.c,.slice x.p2.a x.p2.n x.p2.c,.slice x.p3.a x.p3.n x.p3.c,.slice x.p4.a x.p4.n x.p4.c],.bool true]) (by simp[AJ,OF,go_sem,z0,z1,z2,z3]) rfl ⟨x,true,rfl,⟨HX.out.2.2,fun _=>wX HW.out HO.out HL.out HX.out.2.1,fun h=>by (cases h)⟩⟩
   ·have hL1:((L:Int) == 0)=false:=by rw[beq_eq_false_iff_ne];omega
    go_wp2_with fail
    go_region_held3 (fun W=>W.cell? ⟨w.heap.size+1,0,none⟩=some (.slice wa L c')/\W.cell? ⟨w.heap.size+1,2,none⟩=some (.slice x.p1.a x.p1.n x.p1.c)/\W.cell? ⟨w.heap.size+1,3,none⟩=some (.slice x.p2.a x.p2.n x.p2.c)/\W.cell? ⟨w.heap.size+1,4,none⟩=some (.slice x.p3.a x.p3.n x.p3.c)/\W.cell? ⟨w.heap.size+1,5,none⟩=some (.slice x.p4.a x.p4.n x.p4.c)/\W.cell? ⟨w.heap.size+1,6,none⟩=some (.bool false)) (exact⟨by go_keep,by go_keep,by go_keep,by go_keep,by go_keep,by go_keep⟩) (fail)
    all_goals
     go_wp2_with fail;generalize hG:(((WD3 w1 w.heap.size x).setCell ⟨w.heap.size,3,none⟩ (.slice x.p4.a x.p4.n x.p4.c)).drew)=W9 at*;have HX:Hid (BD W9 w.heap.size x/\Dd w.heap.size W9 x d/\Blw w W9):=by subst hG;exact⟨HK.out.1.four x,(HK.out.2.2.ret4 (by omega) (by omega)).stays (Ae _ _).drew,(ret4 HK.out.1 HK.out.2.1 (Ad _) x).2.drew⟩
     clear hG;have z0:=HX.out.1.box.1;have z1:=HX.out.1.box.2.1;have z2:=HX.out.1.box.2.2.1;have z3:=HX.out.1.box.2.2.2.1;exact An (v:=.tuple #[.agg #[.slice x.p1.a x.p1.n x.p1.c,.slice x.p2.a x.p2.n x.p2.c,.slice x.p3.a x.p3.n x.p3.c,.slice x.p4.a x.p4.n x.p4.c],.bool false]) (by simp[AJ,OF,go_sem,z0,z1,z2,z3]) rfl ⟨x,false,rfl,⟨HX.out.2.2,fun h=>by (cases h),fun _=>tC HW.out HO.out (by rw[HL.out];exact hL0)⟩⟩
  ·go_wp2_with fail;first|(go_region_law (fail))|fail
   all_goals
    go_wp2_with fail;generalize hG:(((WD3 w1 w.heap.size x).setCell ⟨w.heap.size,3,none⟩ (.slice x.p4.a x.p4.n x.p4.c)).drew)=W9 at*;have HX:Hid (BD W9 w.heap.size x/\Dd w.heap.size W9 x d/\Blw w W9):=by subst hG;exact⟨HK.out.1.four x,(HK.out.2.2.ret4 (by omega) (by omega)).stays (Ae _ _).drew,(ret4 HK.out.1 HK.out.2.1 (Ad _) x).2.drew⟩
    clear hG;have z0:=HX.out.1.box.1;have z1:=HX.out.1.box.2.1;have z2:=HX.out.1.box.2.2.1;have z3:=HX.out.1.box.2.2.2.1;exact An (v:=.tuple #[.agg #[.slice x.p1.a x.p1.n x.p1.c,.slice x.p2.a x.p2.n x.p2.c,.slice x.p3.a x.p3.n x.p3.c,.slice x.p4.a x.p4.n x.p4.c],.bool false]) (by simp[AJ,OF,go_sem,z0,z1,z2,z3]) rfl ⟨x,false,rfl,⟨HX.out.2.2,fun h=>by (cases h),fun _=>vG HW.out HO.out⟩⟩
end Go.Proofs.YtoppdmlmhigogaaGreatDoor
