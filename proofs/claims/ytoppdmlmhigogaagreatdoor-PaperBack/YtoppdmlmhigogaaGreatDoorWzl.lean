/- Texts laid together, in parts: Rk Nwd Cw Ed Ee Ea Shp Ec Ef Eg Vw Jz Eh Ei El. -/
import Derived.Test.YtoppdmlmhigogaaGreatDoorWzk
import Derived.Shelf.Strings.Prefix
import Derived.Test.YtoppdmlmhigogaaGreatDoorProg
import Derived.Deep.RegionHeld3
import Derived.Deep.CutBlock
import Derived.Lib.Hide
set_option maxRecDepth 100000
set_option maxHeartbeats 8000000
set_option linter.unusedVariables false
set_option linter.unusedSimpArgs false
open Array renaming getElem?_eq_some_iff → As
open Bool renaming false_eq_true → Bi, true_and → OE
open Classical renaming not_not → Cw
open Go renaming World → Ab, Calls → Ag, Value → Ao, heap_alloc_new → Au, TypeId → BH, maxLen → Gi
open Go.Addr renaming add → Kk
open Go.IntKind renaming wrap_i64 → BZ, i64 → CV, u64 → LL, wrap_u64 → MN
open Go.Lib renaming hid → Ac, byteCells → Ak, decDigits → Bv, byteCells_length → Dr, trimSuffix → NV
open Go.Proofs.Tryz renaming prog → Aa, underlying9 → AK, underlying3 → AW, zeroValue3 → Bp, zeroValue9 → Bq, underlying4 → Br, zeroValue4 → BC, sizeOf3 → BW, sizeOf9 → BX, sizeOf4 → Ci, isAgg3 → Cq, isAgg9 → Cr, isAgg4 → CI, ntmps39 → Hi, func39 → IK
open Go.RowKit.Below renaming refl → Ae, heap_setCell → Ar, heap_alloc → EP
open Go.Shelf renaming Ren → BK
open Go.Value renaming ownBlock → Bm
open Go.World renaming cell? → Az, size_alloc → Bj, setCell → Dq, frozen? → Dv
open List renaming length_append → Af, take_of_length_le → Al, length_eq_zero_iff → Aq, cons_append → Ay, eq_nil_of_length_eq_zero → AC, getElem?_eq_getElem → AF, mem_append → AG, take_succ_eq_append_getElem → AH, all_eq_true → AO, length_cons → AP, nil_append → AQ, append_assoc → AR, getElem_mem → AU, mem_singleton → Bc, map_cons → Bh, take_append_drop → BE, length_take → CC, length_nil → CZ, map_nil → Df, drop_eq_getElem_cons → El, length → FH
open Nat renaming le_refl → Ad, le_trans → Aj, lt_of_lt_of_le → Ap, zero_le → Aw, le_succ_of_le → EJ, zero_add → Fg
open Option renaming map_eq_some_iff → Ju
namespace Go.Proofs.YtoppdmlmhigogaaGreatDoor
open Go.ChangeShapes Go.WideShapes Go.ChangeAt Go.RowKit
theorem Nd{B e k n:Nat}{v:Ao}{xs:List Ao}{w w':Ab}(h:w.ownsRow B e k v n xs)(hb:Blw w w'):w'.ownsRow B e k v n xs:=
 h.kept (row:=none) ⟨hb.os,hb.tape,hb.output,hb.size,fun j hj _=>hb.block j hj⟩ (by cases v.ownBlock with|none=>exact .inl rfl|some j=>exact .inr (by simp))
theorem Vt{B B' e k n:Nat}{v:Ao}{xs:List Ao}{w:Ab}(h:w.ownsRow B e k v n xs)(hB:B'<=B):w.ownsRow B' e k v n xs:=
 ⟨h.1,h.2.elim .inl (fun⟨g,cap,cur,e,hb,r⟩=>.inr ⟨g,cap,cur,e,Aj hB hb,r⟩)⟩
structure RA where
 o:Sl
 d:DA
def AV(x:RA)(r:Rec):List Ao:=[.slice x.o.a x.o.n x.o.c,.int .u16 r.t,.int .u16 r.cl,.int .u32 r.tt,.slice x.d.p1.a x.d.p1.n x.d.p1.c,.slice x.d.p2.a x.d.p2.n x.d.p2.c,.slice x.d.p3.a x.d.p3.n x.d.p3.c,.slice x.d.p4.a x.d.p4.n x.d.p4.c]
def Dl(ps:List (RA × Rec)):List Ao:=ps.flatMap fun p=>AV p.1 p.2
theorem Tf(ps:List (RA × Rec))(k:Nat)(h:k<ps.length)(j:Nat)(hj:j<8):(Dl ps)[k*8+j]?=(AV ps[k].1 ps[k].2)[j]?:=by
 induction ps generalizing k with
 |nil=>simp at h
 |cons p ws ih=>
  have hc:Dl (p::ws)=AV p.1 p.2++Dl ws:=by simp[Dl]
  have h8:(AV p.1 p.2).length=8:=rfl;rw[hc];cases k with
  |zero=>rw[List.getElem?_append_left (by rw[h8];omega)];simp
  |succ k=>
   have:=ih k (by simpa using h);rw[List.getElem?_append_right (by rw[h8];omega),h8,show(k+1)*8+j - 8=k*8+j by omega,this];simp
theorem Yj(a b:List (RA × Rec)):Dl (a++b)=Dl a++Dl b:=by simp[Dl]
theorem Xi(xs:List (RA × Rec)):∀u∈Dl xs,u.oneCell'=true:=by
 intro u hu;simp only[Dl,List.mem_flatMap]at hu;obtain⟨p,_,hu⟩:=hu;simp[AV]at hu;obtain rfl|rfl|rfl|rfl|rfl|rfl|rfl|rfl:=hu <;> rfl
def RRd(w:Ab)(x:RA)(r:Rec):Prop:=TRd w x.o r.ow/\DRd w x.d r.d
theorem RRd.below{w w':Ab}{x:RA}{r:Rec}(h:RRd w x r)(hb:Blw w w'):RRd w' x r:=⟨h.1.below hb,h.2.below hb⟩
def iE(B:Nat)(w:Ab)(x:RA)(r:Rec):Prop:=BU B w x.o r.ow/\Dd B w x.d r.d
def RdR(w:Ab)(a:Option Addr)(rs:List Rec):Prop:=
 rs=[]∨∃b o,a=some ⟨b,o,none⟩/\b<w.heap.size/\∀i (h:i<rs.length),∃x:RA,(∀j (hj:j<8),w.cell? ⟨b,o+i*8+j,none⟩=(AV x rs[i])[j]?)/\RRd w x rs[i]
theorem RdR.below{w w':Ab}{a:Option Addr}{rs:List Rec}(h:RdR w a rs)(hb:Blw w w'):RdR w' a rs:=by
 obtain h|⟨b,o,h1,h2,h3⟩:=h
 ·exact .inl h
 ·refine .inr ⟨b,o,h1,Ap h2 hb.size,fun i hi=>?_⟩;obtain⟨x,e1,e5⟩:=h3 i hi;exact⟨x,fun j hj=>(hb.cell (p:=⟨b,o+i*8+j,none⟩) h2).trans (e1 j hj),e5.below hb⟩
theorem RdR.at{w:Ab}{a:Option Addr}{rs:List Rec}(h:RdR w a rs)(i:Nat)(hi:i<rs.length):∃b o,a=some ⟨b,o,none⟩/\b<w.heap.size/\∃x:RA,(∀j (hj:j<8),w.cell? ⟨b,o+i*8+j,none⟩=(AV x rs[i])[j]?)/\RRd w x rs[i]:=by
 obtain h|⟨b,o,h1,h2,h3⟩:=h
 ·subst h;simp at hi
 ·exact⟨b,o,h1,h2,h3 i hi⟩
def RfR(B:Nat)(w:Ab)(g:Option Nat)(x:RA)(r:Rec):Prop:=
 ∀w':Ab,w.heap.size<=w'.heap.size->(∀j,j<w.heap.size->B<=j->some j≠g->w'.heap[j]?=w.heap[j]?)->RRd w' x r
theorem RfR.of{B B':Nat}{w:Ab}{g:Option Nat}{x:RA}{r:Rec}(h:iE B' w x r)(hB:B<=B')(hg:∀k,g=some k->k<B'):RfR B w g x r:=by
 intro w' hs hb;have hk:∀j,B'<=j->j<w.heap.size->w'.heap[j]?=w.heap[j]?:=fun j h1 h2=>hb j h2 (by omega) (fun e=>by have:=hg j e.symm;omega)
 exact⟨(h.1.keep (fun j h1 h2 _=>hk j h1 h2)).rd,(h.2.keep hk).rd⟩
theorem RfR.go{B:Nat}{w w':Ab}{g g':Option Nat}{x:RA}{r:Rec}(h:RfR B w g x r)(hs:w.heap.size<=w'.heap.size)(hb:∀j,j<w.heap.size->B<=j->some j≠g->w'.heap[j]?=w.heap[j]?)(hg:∀j,j<w.heap.size->some j≠g->some j≠g'):RfR B w' g' x r:=by
 intro w2 hs2 hb2;exact h w2 (Aj hs hs2) (fun j h1 h2 h3=>(hb2 j (by omega) h2 (hg j h1 h3)).trans (hb j h1 h2 h3))
def OwR(B:Nat)(w:Ab)(v:Ao)(rs:List Rec):Prop:=
 ∃ps:List (RA × Rec),ps.map (·.2)=rs/\w.ownsRow B 43 8 v ps.length (Dl ps)/\∀p∈ps,RfR B w v.ownBlock p.1 p.2
theorem OwR.stays{B:Nat}{w w':Ab}{v:Ao}{rs:List Rec}(h:OwR B w v rs)(hb:Blw w w'):OwR B w' v rs:=by
 obtain⟨ps,h1,h2,h3⟩:=h;exact⟨ps,h1,Nd h2 hb,fun p hp=>(h3 p hp).go hb.size (fun j hj _ _=>hb.block j hj) (fun j _ h=>h)⟩
theorem OwR.mono{B B':Nat}{w:Ab}{v:Ao}{rs:List Rec}(h:OwR B w v rs)(hB:B'<=B):OwR B' w v rs:=by
 obtain⟨ps,h1,h2,h3⟩:=h;exact⟨ps,h1,Vt h2 hB,fun p hp w' hs hb=>h3 p hp w' hs (fun j e1 e2 e3=>hb j e1 (by omega) e3)⟩
theorem OwR.rd{B:Nat}{w:Ab}{v:Ao}{rs:List Rec}(h:OwR B w v rs):∃a c,v=.slice a rs.length c/\RdR w a rs/\rs.length<=c/\c<=9223372036854775807/\(a=none->c=0):=by
 obtain⟨ps,rfl,h2,h3⟩:=h;have hpl:(ps.map (·.2)).length=ps.length:=by simp
 rw[hpl];obtain⟨rfl,h0⟩|⟨g,cap,cur,rfl,hb,hg,k1,k2,k3,k4⟩:=h2.2
 ·have:ps=[]:=Aq.1 h0;subst this;exact⟨none,0,rfl,.inl rfl,by simp,by omega,fun _=>rfl⟩
 ·refine⟨_,cap,rfl,.inr ⟨g,0,rfl,(As.1 hg).1,fun i hi=>?_⟩,k1,by simpa only[Gi] using k2,by simp⟩;have hi':i<ps.length:=by simpa using hi
  have ad:∀j,(⟨g,0,none⟩:Addr).add j=⟨g,0+j,none⟩:=fun j=>by unfold Kk;split <;> simp_all
  have hgi:(ps.map (·.2))[i]=ps[i].2:=by simp
  refine⟨ps[i].1,fun j hj=>?_,?_⟩
  ·rw[hgi];have e1:=Tf ps i hi' j hj;have hlt:j<(AV ps[i].1 ps[i].2).length:=hj;rw[AF hlt]at e1 ⊢;have:=h2.cells (g:=g) rfl _ _ e1;rw[ad]at this;rw[Nat.add_assoc];exact this
  ·rw[hgi];exact h3 ps[i] (AU _) w (Ad _) (fun _ _ _ _=>rfl)
theorem wR:(Aa.info? 43).map (fun i=>(i.zero,i.size,i.bytes))=some (some (.agg #[.slice none 0 0,.int .u16 0,.int .u16 0,.int .u32 0,.slice none 0 0,.slice none 0 0,.slice none 0 0,.slice none 0 0]),8,128):=by kernel_rfl
theorem uA:∃i,Aa.info? 43=some i/\i.zero=some (.agg #[.slice none 0 0,.int .u16 0,.int .u16 0,.int .u32 0,.slice none 0 0,.slice none 0 0,.slice none 0 0,.slice none 0 0])/\i.size=8/\i.bytes=128:=by
 obtain⟨i,h1,h2⟩:=Ju.1 wR;simp only[Prod.mk.injEq]at h2;exact⟨i,h1,h2.1,h2.2.1,h2.2.2⟩
theorem nG(w:Ab)(x:RA)(r:Rec):∀j u,(Dl [(x,r)])[j]?=some u->(w.alloc (.cells (AV x r).toArray 43)).cell? ((⟨w.heap.size,0,none⟩:Addr).add j)=some u:=by
 intro j u hu;have ad:(⟨w.heap.size,0,none⟩:Addr).add j=⟨w.heap.size,j,none⟩:=by unfold Kk;split <;> simp_all
 rw[ad];unfold Az;rw[Au];have:Dl [(x,r)]=AV x r:=by simp[Dl]
 rw[this]at hu;simpa using hu
structure Nw(w:Ab)(a:Option Addr)(n:Nat)(ss:List ByteArray):Prop where
 rd:RdT w a ss
 len:ss.length=n
 n3:n<=1000
 z63:∀s∈ss,s.size<=9223372036854775807
theorem Nw.below{w w':Ab}{a:Option Addr}{n:Nat}{ss:List ByteArray}(h:Nw w a n ss)(hb:Blw w w'):Nw w' a n ss:=⟨h.rd.below hb,h.len,h.n3,h.z63⟩
theorem YS:∀ss:List ByteArray,Ex ss->nsz ss<=1+64*ss.length
 |[],_=>by simp[nsz]
 |s::r,h=>by
  have h1:=(Lb (h s (by simp))).2;have h2:=YS r (fun x hx=>h x (by simp[hx]));simp only[nsz,AP];omega
theorem Nw.nm{w:Ab}{a:Option Addr}{n:Nat}{ss:List ByteArray}(h:Nw w a n ss)(hk:nck ss=0):Nm w a n ss:=⟨h.rd,h.len,by have:=(BI hk).1;omega⟩
theorem TV{w:Ab}{a:Option Addr}{n:Nat}{ss:List ByteArray}(c:Nat)(h:Nw w a n ss):Ag Aa 19 #[.slice a n c] w fun e w'=>e=.returned (.int .i64 (nck ss))/\w'=w:=
 PM a n c ss w h.rd h.len (fun ho=>by have:=YS ss ho;have:=h.len;have:=h.n3;omega) (by have:=h.n3;omega) h.z63
theorem Tz(s pre:ByteArray)(Cg:Int)(ps:GE)(n:Nat)(hn:n<65536)(hpre:pre.size<=100)(w:Ab)(hK:KOk s ps)(hL:Bk w) :
  Ag Aa 115 #[.agg #[.string s,.string pre,.int .i64 Cg],.int .i64 n] w fun e w'=>e=.returned (.string ⟨(Fc ps pre.data.toList n).toArray⟩)/\Hid (Blw w w'):=by
 have HL:Hid (Bk w):=hL;have HK:Hid (KOk s ps):=hK;have HX:Hid (Box (w.alloc (.cells #[.string s,.string pre,.int .i64 Cg] 159)) w.heap.size s pre Cg):=Box.new w s pre Cg;have HB:Hid (Blw w (w.alloc (.cells #[.string s,.string pre,.int .i64 Cg] 159))):=(Ae _ _).alloc (Ad _) _;clear hL hK;go_enter Tryz.func115,Tryz.ntmps115;go_wp2_with fail;generalize (w.alloc (.cells #[.string s,.string pre,.int .i64 Cg] 159))=W1 at*;refine(Ou n (by omega) W1 (HL.out.below HB.out)).mono ?_;rintro e W2 ⟨rfl,H2⟩;have HX2:Hid (Box W2 w.heap.size s pre Cg):=HX.out.below H2.out;have HB2:Hid (Blw w W2):=HB.out.trans (H2.out.mono HB.out.size);have c0:=HX2.out.1;clear HX HB H2;go_wp2_with fail;refine(RQ s ps W2 HK.out (HL.out.below HB2.out)).mono ?_;rintro e W3 ⟨rfl,H3⟩;have HX3:Hid (Box W3 w.heap.size s pre Cg):=HX2.out.below H3.out.1;have HB3:Hid (Blw w W3):=HB2.out.trans (H3.out.1.mono HB2.out.size);have HC:Hid (∀j p,ps[j]?=some p->W3.cell? ⟨W2.heap.size,2*j,none⟩=some (.string ⟨p.1.toArray⟩)/\W3.cell? ⟨W2.heap.size,2*j+1,none⟩=some (.string ⟨(Bv p.2).toArray⟩)):=H3.out.2;have hN:=HK.out.2.2.2.1;obtain⟨N,eN⟩:∃N,ps.length=N:=⟨_,rfl⟩;have HN:Hid (ps.length=N):=eN;rw[eN]at hN ⊢;clear c0 HX2 HB2 H3 eN HK;generalize W2.heap.size=g at*;go_wp2_with fail;go_loopw [7] (fun x wr=>wr=W3/\∃j:Nat,j<=N/\x=.int .i64 ((2*j+1:Nat):Int)/\Hid (∀p∈ps.take j,(p.2 == n)=false)) (fun x _=>2*N+1 - (intOf x).toNat)
 case atStart=>exact⟨rfl,0,Aw _,rfl,by intro p hp;simp at hp⟩
 case round=>
  obtain⟨rfl,j,hj,rfl,HF⟩:=hrel;obtain⟨i,ei⟩:∃i:Nat,2*j+1=i:=⟨_,rfl⟩;by_cases hlt:j<N
  ·obtain⟨p,hp⟩:∃p,ps[j]?=some p:=⟨_,AF (by rw[HN.out];exact hlt)⟩;obtain⟨c1,c2⟩:=HC.out j p hp;rw[ei]at c2 ⊢;have hb1:(i:Int)<((2*N:Nat):Int):=by omega
   have hs1:CV.wrap ((i:Int) - 1)=((2*j:Nat):Int):=by rw[BZ];omega
   have hs2:(((2*j:Nat):Int))<((2*N:Nat):Int):=by omega
   have HS:Hid (((p.2 == n)=true->ps.find? (fun q=>q.2 == n)=some p)/\((p.2 == n)=false->∀q∈ps.take (j+1),(q.2 == n)=false)):=TH (fun(q:List UInt8 × Nat)=>q.2 == n) ps j HF.out p hp;obtain⟨m,hm⟩:∃m,2*j=m:=⟨_,rfl⟩;rw[hm]at c1 hs1 hs2;by_cases he:p.2=n
   ·have hq:((Bv p.2) == (Bv n))=true:=by rw[he];simp
    go_wp2_with fail;go_ret;refine⟨?_,HB3.out⟩;have:=HS.out.1 (by simp[he]);simp[Fc,this]
   ·have hq:((Bv p.2) == (Bv n))=false:=by
     cases h:(Bv p.2) == (Bv n) with
     |false=>rfl
     |true=>exact absurd (mP (eq_of_beq h)) he
    have HS2:Hid (∀q∈ps.take (j+1),(q.2 == n)=false):=HS.out.2 (by simp[he]);clear c1 hs1 hs2 HS he;go_wp2_with fail;refine⟨⟨by first|rfl|trivial,j+1,by omega,?_,HS2⟩,?_⟩
    ·rw[<- ei];go_num
    ·simp[intOf];omega
  ·have hjN:j=N:=by omega
   have hb1:¬ (i:Int)<((2*N:Nat):Int):=by omega
   have HT:Hid (ps.find? (fun(q:List UInt8 × Nat)=>q.2 == n)=none):=VO (fun(q:List UInt8 × Nat)=>q.2 == n) ps j HF.out (by rw[HN.out];omega);have c1:=HX3.out.2.1;rw[ei];clear HF HC;have hcat:¬ 9223372036854775807<pre.size+(Bv n).length:=by
    have:=Ol n (by omega);omega
   go_wp2_with fail;go_ret;refine⟨?_,HB3.out⟩;have:=HT.out;rw[qK];simp[Fc,this]
theorem bU(n:Nat)(hn:n<65536)(w:Ab)(hL:Bk w):Ag Aa 81 #[.int .u16 n] w fun e w'=>e=.returned (.string ⟨(Fc Fj FW.data.toList n).toArray⟩)/\Hid (Blw w w'):=by
 have HL:Hid (Bk w):=hL;clear hL;go_enter Tryz.func81,Tryz.ntmps81;go_wp2_with fail;refine(TM w).mono ?_;rintro e W1 ⟨rfl,H1⟩;have hw:CV.wrap (n:Int)=(n:Int):=by rw[BZ];omega
 go_wp2_with fail;refine(Tz Ph FW _ Fj n hn (by decide +kernel) W1 Zs (HL.out.below H1.out)).mono ?_;rintro e W2 ⟨rfl,H2⟩;go_wp2_with fail;go_ret;exact⟨rfl,H1.out.trans (H2.out.mono H1.out.size)⟩
theorem Xe(n:Nat)(hn:n<65536)(w:Ab)(hL:Bk w):Ag Aa 111 #[.int .u16 n] w fun e w'=>e=.returned (.string ⟨(Fc CO Cm.data.toList n).toArray⟩)/\Hid (Blw w w'):=by
 have HL:Hid (Bk w):=hL;clear hL;go_enter Tryz.func111,Tryz.ntmps111;go_wp2_with fail;refine(PJ w).mono ?_;rintro e W1 ⟨rfl,H1⟩;have hw:CV.wrap (n:Int)=(n:Int):=by rw[BZ];omega
 go_wp2_with fail;refine(Tz Ki Cm _ CO n hn (by decide +kernel) W1 Ts (HL.out.below H1.out)).mono ?_;rintro e W2 ⟨rfl,H2⟩;go_wp2_with fail;go_ret;exact⟨rfl,H1.out.trans (H2.out.mono H1.out.size)⟩
theorem AX{W:Ab}{D i:Nat}{cs:Array Ao}{ty:BH}{v:Ao}(hD:W.heap[D]?=some (.cells cs ty))(hv:cs[i]?=some v):W.cell? ⟨D,i,none⟩=some v:=by
 simp[Az,hD,hv]
theorem PE(x:RA)(r:Rec)(w:Ab)(h:RRd w x r)(hn:x.o.n<=1000)(hB:Bd r.d) :
  Ag Aa 29 #[.agg (AV x r).toArray] w fun e w'=>e=.returned (.int .i64 (Dc r))/\Hid (Blw w w'):=by
 obtain⟨⟨oa,on,oc⟩,⟨⟨a1,n1,k1⟩,⟨a2,n2,k2⟩,⟨a3,n3,k3⟩,⟨a4,n4,k4⟩⟩⟩:=x;obtain⟨ow,t,cl,tt,d⟩:=r;have hw:Nw w oa on ow:=⟨h.1.rd,h.1.len,hn,h.1.z63⟩;have hb0:=Ah w (.cells #[.slice oa on oc,.int .u16 (t:Int),.int .u16 (cl:Int),.int .u32 (tt:Int),.slice a1 n1 k1,.slice a2 n2 k2,.slice a3 n3 k3,.slice a4 n4 k4] 43);have KN:=Ac (TV oc (hw.below hb0));have KS:=Ac (fun W=>RD (t:Int) W);have KC:=Ac (MG t ⟨⟨a1,n1,k1⟩,⟨a2,n2,k2⟩,⟨a3,n3,k3⟩,⟨a4,n4,k4⟩⟩ d _ (h.2.below hb0) hB);have HB0:=Ac hb0;have HC3:Hid (∀W,Below (w.alloc (.cells #[.slice oa on oc,.int .u16 (t:Int),.int .u16 (cl:Int),.int .u32 (tt:Int),.slice a1 n1 k1,.slice a2 n2 k2,.slice a3 n3 k3,.slice a4 n4 k4] 43)).heap.size (w.alloc (.cells #[.slice oa on oc,.int .u16 (t:Int),.int .u16 (cl:Int),.int .u32 (tt:Int),.slice a1 n1 k1,.slice a2 n2 k2,.slice a3 n3 k3,.slice a4 n4 k4] 43)) W->W.cell? ⟨w.heap.size,3,none⟩=some (.int .u32 (tt:Int))/\w.heap.size<W.heap.size):=fun W hW=>by
  have h1:(w.alloc (.cells #[.slice oa on oc,.int .u16 (t:Int),.int .u16 (cl:Int),.int .u32 (tt:Int),.slice a1 n1 k1,.slice a2 n2 k2,.slice a3 n3 k3,.slice a4 n4 k4] 43)).heap[w.heap.size]?=some (.cells #[.slice oa on oc,.int .u16 (t:Int),.int .u16 (cl:Int),.int .u32 (tt:Int),.slice a1 n1 k1,.slice a2 n2 k2,.slice a3 n3 k3,.slice a4 n4 k4] 43):=Au _ _;have h2:=(hW.block w.heap.size (by simp)).trans h1;exact⟨AX h2 rfl,(As.1 h2).1⟩
 have HR:Hid (Dc ⟨ow,t,cl,tt,d⟩=if nck ow≠0 then nck ow else if DP t=false then 6 else if Bw t d≠0 then Bw t d else if 2147483647<tt then 2 else 0):=rfl;show Ag Aa 29 #[.agg #[.slice oa on oc,.int .u16 (t:Int),.int .u16 (cl:Int),.int .u32 (tt:Int),.slice a1 n1 k1,.slice a2 n2 k2,.slice a3 n3 k3,.slice a4 n4 k4]] w fun e w'=>e=.returned (.int .i64 (Dc ⟨ow,t,cl,tt,d⟩))/\Hid (Blw w w')
 rw[HR.out];clear h hb0 HR hw hn hB;simp only at KC;generalize Bw t d=q at*;generalize DP (t:Int)=sb at*;generalize nck ow=k at*;by_cases hk:k=0
 ·subst hk;rw[if_neg (fun e=>e rfl)];cases sb with
  |false=>
   rw[if_pos rfl];clear KC HC3;go_enter Tryz.func29,Tryz.ntmps29;go_wp2_with fail;refine KN.out.mono ?_;rintro e w1 ⟨rfl,rfl⟩;go_wp2_with fail;refine(KS.out _).mono ?_;rintro e w1 ⟨rfl,rfl⟩;go_wp2_with fail;go_ret;exact⟨rfl,HB0.out⟩
  |true=>
   rw[if_neg (by decide)];by_cases hq:q=0
   focus
    subst hq;rw[if_neg (fun e=>e rfl)];by_cases ht:2147483647<tt
    focus
     rw[if_pos ht];have ht':(2147483647:Int)<(tt:Int):=by omega
    rotate_left
    focus
     rw[if_neg ht];have ht':¬ (2147483647:Int)<(tt:Int):=by omega
    rotate_left
    all_goals
     go_enter Tryz.func29,Tryz.ntmps29;go_wp2_with fail;refine KN.out.mono ?_;rintro e w1 ⟨rfl,rfl⟩;go_wp2_with fail;refine(KS.out _).mono ?_;rintro e w1 ⟨rfl,rfl⟩;go_wp2_with fail;refine KC.out.mono ?_;rintro e w2 ⟨rfl,H2⟩;obtain⟨c3,l3⟩:=HC3.out _ H2.out
   rotate_left 2
   focus
    rw[if_pos hq];have hq':(q != 0)=true:=bne_iff_ne.2 hq;clear HC3;go_enter Tryz.func29,Tryz.ntmps29;go_wp2_with fail;refine KN.out.mono ?_;rintro e w1 ⟨rfl,rfl⟩;go_wp2_with fail;refine(KS.out _).mono ?_;rintro e w1 ⟨rfl,rfl⟩;go_wp2_with fail;refine KC.out.mono ?_;rintro e w2 ⟨rfl,H2⟩
   rotate_left
   all_goals
    have HB:=Ac (HB0.out.trans (H2.out.mono HB0.out.size));go_wp2_with fail;go_ret;exact⟨rfl,HB.out⟩
 ·rw[if_pos hk];have hq':(k != 0)=true:=bne_iff_ne.2 hk;clear KC KS HC3;go_enter Tryz.func29,Tryz.ntmps29;go_wp2_with fail;refine KN.out.mono ?_;rintro e w1 ⟨rfl,rfl⟩;go_wp2_with fail;go_ret;exact⟨rfl,HB0.out⟩
theorem UU(n:Nat)(hn:n<65536)(w:Ab)(hL:Bk w):Ag Aa 79 #[.int .u16 (n:Int)] w fun e w'=>e=.returned (.string (clT n))/\Hid (Blw w w'):=by
 by_cases h:n=255
 ·subst h;have hR:clT 255=⟨#[67,76,65,83,83,50,53,53]⟩:=by
   unfold clT;rw[if_pos rfl];decide +kernel
  rw[hR];clear hL;go_enter Tryz.func79,Tryz.ntmps79;go_wp2_with fail;go_ret;exact⟨rfl,Ae _ _⟩
 ·have hR:clT n=⟨(Fc CO Cm.data.toList n).toArray⟩:=by unfold clT;rw[if_neg h]
  rw[hR];have KC:=Ac (Xe n hn w hL);generalize Fc CO Cm.data.toList n=T at*;have h':((n:Int) == 255)=false:=by simp;omega
  clear hL;go_enter Tryz.func79,Tryz.ntmps79;go_wp2_with fail;refine KC.out.mono ?_;rintro e w1 ⟨rfl,H1⟩;go_wp2_with fail;go_ret;exact⟨rfl,H1.out⟩
theorem YP(a b:List Int):lb (a++b)=lb a++lb b:=by
 apply ByteArray.ext
 simp[lb,txt]
theorem rT:∀l:List ByteArray,(lb (Dj 32 (l.map Ai))).data.toList=Qa l
 |[]=>rfl
 |[a]=>by show(lb (Ai a)).data.toList=_;rw[Qu];rfl
 |a::b::r=>by
  have ih:=rT (b::r);have e:Dj 32 ((a::b::r).map Ai)=Ai a++([32]++Dj 32 ((b::r).map Ai)):=rfl;rw[e,YP,YP,Qu];simp only[ByteArray.data_append,Array.toList_append,ih]
  rfl
theorem oB{t:Nat}{d:Dat}(hc:Bw t d=0):(Gr t d).data.toList=Qa (AZ t d):=by
 unfold Gr Gw;rw[if_pos hc,rT]
def Lc(o:ByteArray)(cls:Bool)(r:Rec):List UInt8:=o.data.toList++32::((tlT r.tt).data.toList++32::((if cls=true then(clT r.cl).data.toList++[32] else[])++PS r))
structure PlS(w0 w:Ab)(b:Nat)(C:Array Ao)(W:Ab)(l:List UInt8):Prop where
 g:G2 w0.heap.size W b (Ak l)
 lo:Below w0.heap.size w W
 of:GQ b w W
 bx:W.heap[w.heap.size]?=some (.cells C 43)
 hs:w0.heap.size<=W.heap.size
theorem PlS.go{w0 w W W':Ab}{b:Nat}{C:Array Ao}{l:List UInt8}(h:PlS w0 w b C W l)(hb:Blw W W'):PlS w0 w b C W' l:=
 ⟨h.g.go hb,h.lo.trans (hb.mono h.hs),h.of.trans (GQ.of hb),(hb.block _ (Cs h.bx)).trans h.bx,Aj h.hs hb.size⟩
theorem PlS.put{w0 w W W':Ab}{b:Nat}{C:Array Ao}{l l':List UInt8}(h:PlS w0 w b C W l)(hne:w.heap.size≠b)(h1:G2 w0.heap.size W' b (Ak l'))(h2:Below w0.heap.size W W')(h3:GQ b W W'):PlS w0 w b C W' l':=
 ⟨h1,h.lo.trans h2,h.of.trans h3,h3 _ _ _ _ h.bx (by decide) hne,Aj h.hs h2.size⟩
theorem PlS.cells{w0 w W:Ab}{b:Nat}{v0 v1 v2 v3 v4 v5 v6 v7:Ao}{l:List UInt8}(h:PlS w0 w b #[v0,v1,v2,v3,v4,v5,v6,v7] W l) :
  W.cell? ⟨w.heap.size,0,none⟩=some v0/\W.cell? ⟨w.heap.size,1,none⟩=some v1/\W.cell? ⟨w.heap.size,2,none⟩=some v2/\W.cell? ⟨w.heap.size,3,none⟩=some v3/\W.cell? ⟨w.heap.size,4,none⟩=some v4/\W.cell? ⟨w.heap.size,5,none⟩=some v5/\W.cell? ⟨w.heap.size,6,none⟩=some v6/\W.cell? ⟨w.heap.size,7,none⟩=some v7/\w.heap.size<W.heap.size:=
 ⟨AX h.bx rfl,AX h.bx rfl,AX h.bx rfl,AX h.bx rfl,AX h.bx rfl,AX h.bx rfl,AX h.bx rfl,AX h.bx rfl,Cs h.bx⟩
theorem PlS.puts{w0 w W:Ab}{b n:Nat}{C:Array Ao}{l:List UInt8}(h:PlS w0 w b C W l)(hb:w0.heap.size<=b)(hne:w.heap.size≠b)(ss:List ByteArray)(hn:ss.length=n)(hn2:n<=1000)(hl:l.length+(DF ss).length<=140737488355328) :
  Ag Aa 64 #[.pointer (some ⟨b,0,none⟩),.slice (some ⟨W.heap.size,0,none⟩) n n] (W.alloc (.cells (tv ss).toArray 9)) fun e w'=>e=.returned (.tuple #[])/\Hid (PlS w0 w b C w' (l++DF ss)):=by
 have h2:=h.go (Ah W (.cells (tv ss).toArray 9));refine(SW w0.heap.size b W.heap.size 0 n l ss _ h2.g hb (PcT.new W ss) hn hn2 hl).mono ?_;rintro e w' ⟨rfl,H⟩;exact⟨rfl,h2.put hne H.out.1 H.out.2.1 H.out.2.2⟩
theorem PN(w0 w:Ab)(b:Nat)(l:List UInt8)(o:ByteArray)(x:RA)(r:Rec)(cls:Bool)(hb:w0.heap.size<=b)(hB:Blw w0 w)(hg:G2 w0.heap.size w b (Ak l))(hx:RRd w0 x r)(hL:Bk w0)
  (hc:Bw r.t r.d=0) (hD:Bd r.d) (ht:r.t<65536) (hcl:r.cl<65536) (htt:r.tt<4294967296) (hwl:(Gw r.t r.d).length<=100000) (hz:l.length+(Lc o cls r).length<=140737488355328) :
  Ag Aa 41 #[.pointer (some ⟨b,0,none⟩),.string o,.agg (AV x r).toArray,.bool cls] w fun e w'=>e=.returned (.tuple #[])/\Hid (G2 w0.heap.size w' b (Ak (l++Lc o cls r))/\Below w0.heap.size w w'/\GQ b w w'):=by
 obtain⟨⟨oa,on,oc⟩,⟨⟨a1,n1,k1⟩,⟨a2,n2,k2⟩,⟨a3,n3,k3⟩,⟨a4,n4,k4⟩⟩⟩:=x;obtain⟨ow,t,cl,tt,d⟩:=r;have hne:w.heap.size≠b:=by obtain⟨p,v,e⟩:=hg.at;have:=Cs e;omega
 have hbx:(w.alloc (.cells #[.slice oa on oc,.int .u16 (t:Int),.int .u16 (cl:Int),.int .u32 (tt:Int),.slice a1 n1 k1,.slice a2 n2 k2,.slice a3 n3 k3,.slice a4 n4 k4] 43)).heap[w.heap.size]?=some (.cells #[.slice oa on oc,.int .u16 (t:Int),.int .u16 (cl:Int),.int .u32 (tt:Int),.slice a1 n1 k1,.slice a2 n2 k2,.slice a3 n3 k3,.slice a4 n4 k4] 43):=Au _ _;have H0:Hid (PlS w0 w b #[.slice oa on oc,.int .u16 (t:Int),.int .u16 (cl:Int),.int .u32 (tt:Int),.slice a1 n1 k1,.slice a2 n2 k2,.slice a3 n3 k3,.slice a4 n4 k4] (w.alloc (.cells #[.slice oa on oc,.int .u16 (t:Int),.int .u16 (cl:Int),.int .u32 (tt:Int),.slice a1 n1 k1,.slice a2 n2 k2,.slice a3 n3 k3,.slice a4 n4 k4] 43)) l):=⟨hg.go (Ah _ _),(Ah _ _).mono hB.size,GQ.of (Ah _ _),hbx,Aj hB.size (Ah w (.cells #[.slice oa on oc,.int .u16 (t:Int),.int .u16 (cl:Int),.int .u32 (tt:Int),.slice a1 n1 k1,.slice a2 n2 k2,.slice a3 n3 k3,.slice a4 n4 k4] 43)).size⟩;have HW:Hid (∀W l',PlS w0 w b #[.slice oa on oc,.int .u16 (t:Int),.int .u16 (cl:Int),.int .u32 (tt:Int),.slice a1 n1 k1,.slice a2 n2 k2,.slice a3 n3 k3,.slice a4 n4 k4] W l'->RRd W ⟨⟨oa,on,oc⟩,⟨⟨a1,n1,k1⟩,⟨a2,n2,k2⟩,⟨a3,n3,k3⟩,⟨a4,n4,k4⟩⟩⟩ ⟨ow,t,cl,tt,d⟩/\Bk W):=fun W l' h=>⟨hx.below (hB.trans h.lo),hL.below (hB.trans h.lo)⟩
 have KF:=Ac (fun W (h:PlS w0 w b #[.slice oa on oc,.int .u16 (t:Int),.int .u16 (cl:Int),.int .u32 (tt:Int),.slice a1 n1 k1,.slice a2 n2 k2,.slice a3 n3 k3,.slice a4 n4 k4] W l)=>(sB tt (by show tt<_;have:tt<4294967296:=htt;omega) W (HW.out W l h).2).mono (R':=fun e w'=>e=.returned (.string (tlT tt))/\Hid (PlS w0 w b #[.slice oa on oc,.int .u16 (t:Int),.int .u16 (cl:Int),.int .u32 (tt:Int),.slice a1 n1 k1,.slice a2 n2 k2,.slice a3 n3 k3,.slice a4 n4 k4] w' l)) fun e w' q=>⟨q.1,h.go q.2.out⟩);have KC:=Ac (fun W {l'} (h:PlS w0 w b #[.slice oa on oc,.int .u16 (t:Int),.int .u16 (cl:Int),.int .u32 (tt:Int),.slice a1 n1 k1,.slice a2 n2 k2,.slice a3 n3 k3,.slice a4 n4 k4] W l')=>(UU cl hcl W (HW.out W l' h).2).mono (R':=fun e w'=>e=.returned (.string (clT cl))/\Hid (PlS w0 w b #[.slice oa on oc,.int .u16 (t:Int),.int .u16 (cl:Int),.int .u32 (tt:Int),.slice a1 n1 k1,.slice a2 n2 k2,.slice a3 n3 k3,.slice a4 n4 k4] w' l')) fun e w' q=>⟨q.1,h.go q.2.out⟩);have KT:=Ac (fun W l' (h:PlS w0 w b #[.slice oa on oc,.int .u16 (t:Int),.int .u16 (cl:Int),.int .u32 (tt:Int),.slice a1 n1 k1,.slice a2 n2 k2,.slice a3 n3 k3,.slice a4 n4 k4] W l')=>(WP t ⟨⟨a1,n1,k1⟩,⟨a2,n2,k2⟩,⟨a3,n3,k3⟩,⟨a4,n4,k4⟩⟩ d W (HW.out W l' h).1.2 hD (HW.out W l' h).2 hwl).mono (R':=fun e w'=>e=.returned (.tuple #[.string (Gr t d),.int .i64 0])/\Hid (PlS w0 w b #[.slice oa on oc,.int .u16 (t:Int),.int .u16 (cl:Int),.int .u32 (tt:Int),.slice a1 n1 k1,.slice a2 n2 k2,.slice a3 n3 k3,.slice a4 n4 k4] w' l')) fun e w' q=>⟨by rw[q.1];simp only at hc;rw[hc],h.go q.2.out⟩)
 have KY:=Ac (fun W l' (h:PlS w0 w b #[.slice oa on oc,.int .u16 (t:Int),.int .u16 (cl:Int),.int .u32 (tt:Int),.slice a1 n1 k1,.slice a2 n2 k2,.slice a3 n3 k3,.slice a4 n4 k4] W l')=>(bU t ht W (HW.out W l' h).2).mono (R':=fun e w'=>e=.returned (.string (tyW t))/\Hid (PlS w0 w b #[.slice oa on oc,.int .u16 (t:Int),.int .u16 (cl:Int),.int .u32 (tt:Int),.slice a1 n1 k1,.slice a2 n2 k2,.slice a3 n3 k3,.slice a4 n4 k4] w' l')) fun e w' q=>⟨q.1,h.go q.2.out⟩);have htx:=oB (t:=t) (d:=d) hc;have hcat1:DF [o,⟨#[32]⟩,tlT tt,⟨#[32]⟩]=o.data.toList++32::((tlT tt).data.toList++[32]):=by simp[DF]
 have hcat2:DF [clT cl,⟨#[32]⟩]=(clT cl).data.toList++[32]:=by simp[DF]
 have hcat3:DF [tyW t,⟨#[32]⟩,Gr t d,⟨#[10]⟩]=PS ⟨ow,t,cl,tt,d⟩:=by unfold PS;simp[DF,htx]
 have htt':LL.wrap (tt:Int)=(tt:Int):=by have:tt<4294967296:=htt;rw[MN];omega
 have c3:(w.alloc (.cells #[.slice oa on oc,.int .u16 (t:Int),.int .u16 (cl:Int),.int .u32 (tt:Int),.slice a1 n1 k1,.slice a2 n2 k2,.slice a3 n3 k3,.slice a4 n4 k4] 43)).cell? ⟨w.heap.size,3,none⟩=some (.int .u32 (tt:Int)):=AX hbx rfl;have l0:=Cs hbx;show Ag Aa 41 #[.pointer (some ⟨b,0,none⟩),.string o,.agg #[.slice oa on oc,.int .u16 (t:Int),.int .u16 (cl:Int),.int .u32 (tt:Int),.slice a1 n1 k1,.slice a2 n2 k2,.slice a3 n3 k3,.slice a4 n4 k4],.bool cls] w _;cases cls with
 |true=>
  have hlen:l.length+((DF [o,⟨#[32]⟩,tlT tt,⟨#[32]⟩]).length+((DF [clT cl,⟨#[32]⟩]).length+(DF [tyW t,⟨#[32]⟩,Gr t d,⟨#[10]⟩]).length))<=140737488355328:=by
   rw[hcat1,hcat2,hcat3];unfold Lc at hz;rw[if_pos rfl]at hz;simp only[Af,AP,CZ]at hz ⊢;omega
  have HE:Hid (l++Lc o true ⟨ow,t,cl,tt,d⟩=l++DF [o,⟨#[32]⟩,tlT tt,⟨#[32]⟩]++DF [clT cl,⟨#[32]⟩]++DF [tyW t,⟨#[32]⟩,Gr t d,⟨#[10]⟩]):=by
   show _=_;rw[hcat1,hcat2,hcat3];unfold Lc;rw[if_pos rfl];simp
  have KP1:=Ac (fun W (h:PlS w0 w b #[.slice oa on oc,.int .u16 (t:Int),.int .u16 (cl:Int),.int .u32 (tt:Int),.slice a1 n1 k1,.slice a2 n2 k2,.slice a3 n3 k3,.slice a4 n4 k4] W l)=>h.puts (n:=4) hb hne [o,⟨#[32]⟩,tlT tt,⟨#[32]⟩] rfl (by omega) (by omega));have KP2:=Ac (fun W (h:PlS w0 w b #[.slice oa on oc,.int .u16 (t:Int),.int .u16 (cl:Int),.int .u32 (tt:Int),.slice a1 n1 k1,.slice a2 n2 k2,.slice a3 n3 k3,.slice a4 n4 k4] W (l++DF [o,⟨#[32]⟩,tlT tt,⟨#[32]⟩]))=>h.puts (n:=2) hb hne [clT cl,⟨#[32]⟩] rfl (by omega) (by rw[Af];omega));have KP3:=Ac (fun W (h:PlS w0 w b #[.slice oa on oc,.int .u16 (t:Int),.int .u16 (cl:Int),.int .u32 (tt:Int),.slice a1 n1 k1,.slice a2 n2 k2,.slice a3 n3 k3,.slice a4 n4 k4] W (l++DF [o,⟨#[32]⟩,tlT tt,⟨#[32]⟩]++DF [clT cl,⟨#[32]⟩]))=>h.puts (n:=4) hb hne [tyW t,⟨#[32]⟩,Gr t d,⟨#[10]⟩] rfl (by omega) (by rw[Af,Af];omega));simp only[tv,Bh,Df]at KP1 KP2 KP3;generalize DF [o,⟨#[32]⟩,tlT tt,⟨#[32]⟩]=q1 at*;generalize DF [clT cl,⟨#[32]⟩]=q2 at*;generalize DF [tyW t,⟨#[32]⟩,Gr t d,⟨#[10]⟩]=q3 at*;generalize Lc o true ⟨ow,t,cl,tt,d⟩=q at*;generalize tlT tt=TL at*;generalize clT cl=CL at*;generalize tyW t=TY at*;generalize Gr t d=TX at*;clear hcat1 hcat2 hcat3 htx hlen hz hx hL HW hg hbx hc hD;go_enter Tryz.func41,Tryz.ntmps41;go_wp2_with fail;refine(KF.out _ H0.out).mono ?_;rintro e w2 ⟨rfl,H2⟩;clear c3 l0;go_wp2_with fail;refine(KP1.out _ H2.out).mono ?_
  rintro e w3 ⟨rfl,H3⟩;obtain⟨d0,d1,d2,d3,d4,d5,d6,d7,l3⟩:=H3.out.cells;go_wp2_with fail;refine(KC.out _ H3.out).mono ?_;rintro e w4 ⟨rfl,H4⟩;clear d0 d1 d2 d3 d4 d5 d6 d7 l3;go_wp2_with fail;refine(KP2.out _ H4.out).mono ?_;rintro e w5 ⟨rfl,H5⟩;obtain⟨d0,d1,d2,d3,d4,d5,d6,d7,l3⟩:=H5.out.cells;go_wp2_with fail;refine(KT.out _ _ H5.out).mono ?_;rintro e w6 ⟨rfl,H6⟩;clear d0 d1 d2 d3 d4 d5 d6 d7 l3;obtain⟨d0,d1,d2,d3,d4,d5,d6,d7,l3⟩:=H6.out.cells;go_wp2_with fail;refine(KY.out _ _ H6.out).mono ?_;rintro e w7 ⟨rfl,H7⟩;clear d0 d1 d2 d3 d4 d5 d6 d7 l3;go_wp2_with fail;refine(KP3.out _ H7.out).mono ?_;rintro e w8 ⟨rfl,H8⟩;go_wp2_with fail
  go_end0
  refine⟨rfl,?_⟩;have h8:=H8.out;rw[<- HE.out]at h8;exact⟨h8.g,h8.lo,h8.of⟩
 |false=>
  have hlen:l.length+((DF [o,⟨#[32]⟩,tlT tt,⟨#[32]⟩]).length+(DF [tyW t,⟨#[32]⟩,Gr t d,⟨#[10]⟩]).length)<=140737488355328:=by
   rw[hcat1,hcat3];unfold Lc at hz;rw[if_neg (by decide)]at hz;simp only[Af,AP,CZ]at hz ⊢;omega
  have HE:Hid (l++Lc o false ⟨ow,t,cl,tt,d⟩=l++DF [o,⟨#[32]⟩,tlT tt,⟨#[32]⟩]++DF [tyW t,⟨#[32]⟩,Gr t d,⟨#[10]⟩]):=by
   show _=_;rw[hcat1,hcat3];unfold Lc;rw[if_neg (by decide)];simp
  have KP1:=Ac (fun W (h:PlS w0 w b #[.slice oa on oc,.int .u16 (t:Int),.int .u16 (cl:Int),.int .u32 (tt:Int),.slice a1 n1 k1,.slice a2 n2 k2,.slice a3 n3 k3,.slice a4 n4 k4] W l)=>h.puts (n:=4) hb hne [o,⟨#[32]⟩,tlT tt,⟨#[32]⟩] rfl (by omega) (by omega));have KP3:=Ac (fun W (h:PlS w0 w b #[.slice oa on oc,.int .u16 (t:Int),.int .u16 (cl:Int),.int .u32 (tt:Int),.slice a1 n1 k1,.slice a2 n2 k2,.slice a3 n3 k3,.slice a4 n4 k4] W (l++DF [o,⟨#[32]⟩,tlT tt,⟨#[32]⟩]))=>h.puts (n:=4) hb hne [tyW t,⟨#[32]⟩,Gr t d,⟨#[10]⟩] rfl (by omega) (by rw[Af];omega));simp only[tv,Bh,Df]at KP1 KP3;generalize DF [o,⟨#[32]⟩,tlT tt,⟨#[32]⟩]=q1 at*;generalize DF [tyW t,⟨#[32]⟩,Gr t d,⟨#[10]⟩]=q3 at*;generalize Lc o false ⟨ow,t,cl,tt,d⟩=q at*;generalize tlT tt=TL at*;generalize clT cl=CL at*;generalize tyW t=TY at*;generalize Gr t d=TX at*;clear hcat1 hcat2 hcat3 htx hlen hz hx hL HW hg hbx hc hD KC;go_enter Tryz.func41,Tryz.ntmps41;go_wp2_with fail;refine(KF.out _ H0.out).mono ?_;rintro e w2 ⟨rfl,H2⟩;clear c3 l0;go_wp2_with fail;refine(KP1.out _ H2.out).mono ?_;rintro e w3 ⟨rfl,H3⟩;obtain⟨d0,d1,d2,d3,d4,d5,d6,d7,l3⟩:=H3.out.cells;go_wp2_with fail;refine(KT.out _ _ H3.out).mono ?_;rintro e w6 ⟨rfl,H6⟩;clear d0 d1 d2 d3 d4 d5 d6 d7 l3;obtain⟨d0,d1,d2,d3,d4,d5,d6,d7,l3⟩:=H6.out.cells;go_wp2_with fail;refine(KY.out _ _ H6.out).mono ?_;rintro e w7 ⟨rfl,H7⟩;clear d0 d1 d2 d3 d4 d5 d6 d7 l3;go_wp2_with fail;refine(KP3.out _ H7.out).mono ?_
  rintro e w8 ⟨rfl,H8⟩;go_wp2_with fail
  go_end0
  refine⟨rfl,?_⟩;have h8:=H8.out;rw[<- HE.out]at h8;exact⟨h8.g,h8.lo,h8.of⟩
theorem wG{s t:ByteArray}(h:s≠t):(s.toList == t.toList)=false:=by
 rw[beq_eq_false_iff_ne];intro e;rw[Da,Da]at e;apply h
 cases s;cases t;congr 1
 exact Array.toList_inj.1 e
theorem Qz(a b:Option Addr)(n m c d:Nat)(ss ts:List ByteArray)(w:Ab)(hr:RdT w a ss)(hr':RdT w b ts)(hl:ss.length=n)(hl':ts.length=m)(hn:n<=9223372036854775807)(hm:m<=9223372036854775807) :
  Ag Aa 75 #[.slice a n c,.slice b m d] w fun e w'=>e=.returned (.bool (decide (ss=ts)))/\Hid (Blw w w'):=by
 by_cases hq:n=m
 ·subst hq;have HR:Hid (RdT w a ss/\RdT w b ts):=⟨hr,hr'⟩;have HL:Hid (ss.length=n/\ts.length=n):=⟨hl,hl'⟩;obtain⟨D,hD⟩:∃D,decide (ss=ts)=D:=⟨_,rfl⟩;have HD:Hid (decide (ss=ts)=D):=hD;rw[hD];clear hr hr' hl hl' hD;go_enter Tryz.func75,Tryz.ntmps75;go_wp2_with fail;go_loopw [13] (fun x wr=>∃k:Nat,k<=n/\x=.int .i64 k/\Hid (Blw w wr)/\Hid (ss.take k=ts.take k)) (fun x _=>n - (intOf x).toNat)
  case atStart=>exact⟨0,Aw _,rfl,Ae _ _,(by show _=_;simp)⟩
  case round=>
   obtain⟨k,hk,rfl,HB,HT⟩:=hrel;by_cases hlt:k<n
   ·have hlt':(k:Int)<(n:Int):=by omega
    have hks:k<ss.length:=by rw[HL.out.1];exact hlt
    have hkt:k<ts.length:=by rw[HL.out.2];exact hlt
    obtain⟨b1,o1,rfl,l1,c1⟩:=(HR.out.1.below HB.out).at k hks;obtain⟨b2,o2,rfl,l2,c2⟩:=(HR.out.2.below HB.out).at k hkt;by_cases hst:ss[k]=ts[k]
    ·have HT2:Hid (ss.take (k+1)=ts.take (k+1)):=by show _=_;rw[AH hks,AH hkt,HT.out,hst]
     rw[hst]at c1;clear hst HT;generalize ts[k]=s at*;go_wp2_with fail;go_quiet (fail);have HB2:Hid (Blw w (wr.drewN nq)):=HB.out.trans ⟨rfl,rfl,rfl,Ad _,fun _ _=>rfl⟩;clear c1 c2;generalize wr.drewN nq=W2 at*;go_wp2;exact⟨⟨k+1,by omega,by go_num,HB2,HT2⟩,by simp[intOf];omega⟩
    ·have hqb:=wG hst;have HF:Hid (D=false):=by
      show _=_;rw[<- HD.out];simp only[decide_eq_false_iff_not];intro e;subst e;exact hst rfl
     clear hst HT;generalize ss[k]=s at*;generalize ts[k]=t at*;go_wp2_with fail;go_quiet (fail);have HB2:Hid (Blw w (wr.drewN nq)):=HB.out.trans ⟨rfl,rfl,rfl,Ad _,fun _ _=>rfl⟩;clear c1 c2;generalize wr.drewN nq=W2 at*;go_wp2_with fail;go_ret;exact⟨by rw[HF.out];rfl,HB2.out⟩
   ·have hge:¬ (k:Int)<(n:Int):=by omega
    have HF:Hid (D=true):=by
     show _=_;rw[<- HD.out];have h:=HT.out;rw[Al (by rw[HL.out.1];omega),Al (by rw[HL.out.2];omega)]at h;simp[h]
    go_wp2_with fail;go_ret;exact⟨by rw[HF.out];rfl,HB.out⟩
 ·have hq':((n:Int) != (m:Int))=true:=by simp;omega
  have hq2:¬ (n:Int)=(m:Int):=by omega
  have HF:Hid (decide (ss=ts)=false):=by
   show _=_;simp only[decide_eq_false_iff_not];intro e;exact hq (by rw[<- hl,<- hl',e])
  rw[HF.out];clear hr hr' hl hl';go_enter Tryz.func75,Tryz.ntmps75;go_wp2_with fail;go_ret;exact⟨rfl,Ae _ _⟩
end Go.Proofs.YtoppdmlmhigogaaGreatDoor
namespace Go.Proofs
open Go.Shelf
def Tryz.lays102_ren:BK:=⟨fun|102=>76|209=>109|207=>146|n=>n,fun|9=>9|4=>4|3=>3|n=>n,fun|n=>n⟩
theorem Tryz.lays102:Go.Proofs.Lays.n102 Aa Tryz.lays102_ren:={
 mixed:=by kernel_rfl
 f102:=Tryz.func76.trans (congrArg some (by kernel_rfl))
 f207:=Tryz.func146.trans (congrArg some (by kernel_rfl))
 f209:=Tryz.func109.trans (congrArg some (by kernel_rfl))
 t3:=AW
 a3:=Cq
 z3:=BW
 v3:=Bp
 t4:=Br
 a4:=CI
 z4:=Ci
 v4:=BC
 t9:=AK
 a9:=Cr
 z9:=BX
 v9:=Bq }
open Go.RowKit Go.Lib in
theorem Tryz.strings_TrimSuffix(s p:ByteArray)(w:Ab)(hs:s.size<=9223372036854775807) :
  Ag Aa 76 #[.string s,.string p] w fun e w'=>e=.returned (.string ⟨(NV s.data.toList p.data.toList).toArray⟩)/\w'=w:=Any.strings_TrimSuffix Tryz.lays102 s p w hs
end Go.Proofs
namespace Go.Proofs.YtoppdmlmhigogaaGreatDoor
open Go.ChangeShapes Go.WideShapes Go.ChangeAt Go.RowKit
theorem IU(a:Option Addr)(n c:Nat)(ss:List ByteArray)(w:Ab)(h:Nm w a n ss) :
  Ag Aa 42 #[.slice a n c] w fun e w'=>e=.returned (.string (AN ss).1)/\Hid (Blw w w'):=by
 have K:=Ac (Tj a n c ss w h);generalize AN ss=T at*;clear h;go_enter Tryz.func42,Tryz.ntmps42;go_wp2_with fail;refine K.out.mono ?_;rintro e w1 ⟨rfl,H1⟩;go_wp2_with fail;go_ret;exact⟨rfl,H1.out⟩
theorem lC{ss:List ByteArray}(h:nck ss=0)(h0:ss≠[]):(⟨(NV (AN ss).1.data.toList (⟨#[46]⟩:ByteArray).data.toList).toArray⟩:ByteArray)=JK ss:=by
 have e:=Oj ss h h0;have e2:(AN ss).1.data.toList=(JK ss).data.toList++[46]:=by rw[e];simp
 rw[e2];have e3:NV ((JK ss).data.toList++[46]) (⟨#[46]⟩:ByteArray).data.toList=(JK ss).data.toList:=by
  unfold NV Lib.hasSuffix;simp
 rw[e3]
theorem mD{w:Ab}{a:Option Addr}{n:Nat}{ss:List ByteArray}(h:Nm w a n ss)(p:Nat)(hp:p<=n):Nm w a p (ss.take p):=by
 refine⟨?_,by rw[CC,h.len];omega,Aj (by
  have e:=BE p ss;have:nsz ss=nsz (ss.take p++ss.drop p):=by rw[e]
  rw[this];clear e this;induction ss.take p with
  |nil=>simp only[AQ];have:=Gt (ss.drop p);simp only[nsz];omega
  |cons x l ih=>simp only[Ay,nsz];omega) h.sz⟩
 obtain h1|⟨b,o,h1,h2,h3⟩:=h.rd
 ·left
  have:ss=[]:=by
   have:=congrArg FH h1;rw[Jd]at this;exact Aq.1 this
  rw[this];simp[tv]
 ·refine .inr ⟨b,o,h1,h2,fun i hi=>?_⟩;have hi2:i<(tv ss).length:=by rw[Jd]at hi ⊢;rw[CC]at hi;omega
  rw[h3 i hi2];simp[tv]
theorem WR(a b:Option Addr)(n c d:Nat)(ss:List ByteArray)(w:Ab)(h:Nm w a n ss)(hk:nck ss=0)(hc:n<=c/\c<=9223372036854775807)(hna:a=none->c=0) :
  Ag Aa 39 #[.slice a n c,.slice b 0 d] w fun e w'=>e=.returned (.string (shF ss []))/\Hid (Blw w w'):=by
 have KE:Hid (∀W a' c',Ag Aa 75 #[.slice a' 0 c',.slice b 0 d] W fun e w'=>e=.returned (.bool true)/\Hid (Blw W w')):=fun W a' c'=>by
  have:=Qz a' b 0 0 c' d [] [] W (.inl rfl) (.inl rfl) rfl rfl (by omega) (by omega);simpa using this
 have HN:=Ac h;have hn:=h.n63;have hl:=h.len;by_cases h0:n=0
 ·subst h0;have hs:ss=[]:=AC hl;subst hs;have hR:shF [] []=⟨#[64]⟩:=by unfold shF;rw[if_pos rfl]
  rw[hR];clear hR hl;have c0:(0:Int)<=(c:Int):=by omega
  cases a with
  |none=>
   have hc0:=hna rfl;subst hc0;go_enter IK,Hi;go_wp2_with fail;refine(KE.out _ _ _).mono ?_;rintro e w1 ⟨rfl,H1⟩;go_wp2_with fail;go_ret;exact⟨rfl,H1.out⟩
  |some x=>
   by_cases hc0:c=0
   focus
    subst hc0
   rotate_left
   rotate_left
   all_goals
    go_enter IK,Hi;go_wp2_with fail;refine(KE.out _ _ _).mono ?_;rintro e w1 ⟨rfl,H1⟩;go_wp2_with fail;go_ret;exact⟨rfl,H1.out⟩
 ·have hR:shF ss []=(AN ss).1:=by
   unfold shF;rw[if_neg (fun e=>h0 (by rw[<- hl,e];rfl)),if_pos (.inl rfl)]
  rw[hR];obtain⟨x1,x2,rfl,_,_⟩:=h.rd.at 0 (by rw[hl];omega);have KT:=Ac (fun W (hW:Blw w W)=>IU (some ⟨x1,x2,none⟩) n c ss W ⟨h.rd.below hW,h.len,h.sz⟩);generalize AN ss=T at*;have i0:(n:Int) - 0=(n:Int):=by omega
  have i1:¬ (n:Int)<0:=by omega
  have i2:((n:Int) == 0)=false:=by simp;omega
  have i3:(n:Int)<=(c:Int):=by omega
  have i4:n - n=0:=by omega
  clear hR h HN hk hna;by_cases hcn:c=n
  focus
   subst hcn
  rotate_left
  rotate_left
  all_goals
   go_enter IK,Hi;go_wp2_with fail;refine(KE.out _ _ _).mono ?_;rintro e w1 ⟨rfl,H1⟩;go_wp2_with fail;refine(KT.out _ H1.out).mono ?_;rintro e w2 ⟨rfl,H2⟩;go_wp2_with fail;go_ret;exact⟨rfl,H1.out.trans (H2.out.mono H1.out.size)⟩
theorem Wa(a b:Option Addr)(n m c d:Nat)(ss og:List ByteArray)(w:Ab)(h:Nm w a n ss)(h':Nm w b m og)(hk:nck ss=0)(hg:nck og=0)(hc:n<=c/\c<=9223372036854775807)(hna:a=none->c=0) :
  Ag Aa 39 #[.slice a n c,.slice b m d] w fun e w'=>e=.returned (.string (shF ss og))/\Hid (Blw w w'):=by
 have hl:=h.len;have hl':=h'.len;by_cases hm0:m=0
 ·subst hm0;have ho:og=[]:=AC hl';subst ho;exact WR a b n c d ss w h hk hc hna
 have hn:=h.n63;have hm:=h'.n63;have hog:og≠[]:=fun e=>hm0 (by rw[<- hl',e];rfl)
 have KT:=Ac (fun W (hW:Blw w W)=>IU a n c ss W ⟨h.rd.below hW,h.len,h.sz⟩);by_cases hlt:n<m
 ·have hR:shF ss og=(AN ss).1:=by
   unfold shF;rw[if_neg (fun e=>by rw[e,hl']at hl;omega),if_pos (.inr (.inl (by omega)))]
  rw[hR];have i1:(n:Int) - (m:Int)<0:=by omega
  have i2:-9223372036854775808<=(n:Int) - (m:Int):=by omega
  clear h h' hR;generalize AN ss=T at*;go_enter IK,Hi;go_wp2_with fail;refine(KT.out _ (Ae _ _)).mono ?_;rintro e w2 ⟨rfl,H2⟩;go_wp2_with fail;go_ret;exact⟨rfl,H2.out⟩
 obtain⟨p,hp⟩:∃p,n - m=p:=⟨_,rfl⟩;obtain⟨x1,x2,rfl,_,_⟩:=h.rd.at 0 (by rw[hl];omega);have hcut:Nm w (some ⟨x1,x2+p,none⟩) (n - p) (ss.drop p):=h.cut p (fun _ b' o' e=>by cases e;rfl);have KE:=Ac (Qz (some ⟨x1,x2+p,none⟩) b (n - p) m (c - p) d (ss.drop p) og w hcut.rd h'.rd hcut.len hl' (by omega) (by omega));have i1:(n:Int) - (m:Int)=(p:Int):=by omega
 have i2:¬ (p:Int)<0:=by omega
 have i3:(p:Int)<=(n:Int):=by omega
 have i4:(p:Int)<=(c:Int):=by omega
 have i5:¬ c=p:=by omega
 have i6:((m:Int) == 0)=false:=by simp;omega
 by_cases he:ss.drop p=og
 ·rw[show decide (ss.drop p=og)=true from decide_eq_true he]at KE;by_cases hp0:p=0
  ·have hR:shF ss og=⟨#[64]⟩:=by
    unfold shF;rw[if_pos (by rw[hp0]at he;simpa using he)]
   rw[hR];subst hp0;clear h h' hR KT hcut he;go_enter IK,Hi;go_wp2_with fail;refine KE.out.mono ?_;rintro e w1 ⟨rfl,H1⟩;go_wp2_with fail;go_ret;exact⟨rfl,H1.out⟩
  ·have hR:shF ss og=JK (ss.take p):=by
    unfold shF;rw[if_neg (fun e=>hp0 (by rw[e,hl']at hl;omega)),if_neg (by
     simp only[not_or,Cw];rw[hl,hl',hp];exact⟨hog,by omega,he⟩),hl,hl',hp]
   rw[hR];have ht0:ss.take p≠[]:=by
    intro e;have:=congrArg FH e;rw[CC,hl,CZ]at this;omega
   have i7:((p:Int) == 0)=false:=by simp;omega
   have KX:=Ac (fun W (hW:Blw w W)=>IU (some ⟨x1,x2,none⟩) p c (ss.take p) W (by
    have:=mD h p (by omega);exact⟨this.rd.below hW,this.len,this.sz⟩))
   have KS:=Ac (fun W=>Tryz.strings_TrimSuffix (AN (ss.take p)).1 ⟨#[46]⟩ W (by
    have:=MH (Hu ss p hk);omega))
   rw[lC (Hu ss p hk) ht0]at KS;generalize JK (ss.take p)=R at*;generalize AN (ss.take p)=T at*;clear h h' hR KT hcut he ht0 hog;go_enter IK,Hi;go_wp2_with fail;refine KE.out.mono ?_;rintro e w1 ⟨rfl,H1⟩;go_wp2_with fail;refine(KX.out _ H1.out).mono ?_;rintro e w2 ⟨rfl,H2⟩;have HB:=Ac (H1.out.trans (H2.out.mono H1.out.size));go_wp2_with fail;refine(KS.out _).mono ?_;rintro e w3 ⟨rfl,rfl⟩;go_wp2_with fail;go_ret;exact⟨rfl,HB.out⟩
 ·rw[show decide (ss.drop p=og)=false from decide_eq_false he]at KE;have hR:shF ss og=(AN ss).1:=by
   unfold shF;rw[if_neg (fun e=>he (by
    have:p=0:=by rw[e,hl']at hl;omega
    rw[this,e];rfl)),if_pos (.inr (.inr (by rw[hl,hl',hp];exact he)))]
  rw[hR];clear h h' hR hcut he;generalize AN ss=T at*;go_enter IK,Hi;go_wp2_with fail;refine KE.out.mono ?_;rintro e w1 ⟨rfl,H1⟩;go_wp2_with fail;refine(KT.out _ H1.out).mono ?_;rintro e w2 ⟨rfl,H2⟩;go_wp2_with fail;go_ret;exact⟨rfl,H1.out.trans (H2.out.mono H1.out.size)⟩
theorem Vq{r:Rec}(h:Dc r=0):nck r.ow=0/\Bw r.t r.d=0/\r.tt<=2147483647:=by
 unfold Dc at h;split at h
 ·rename_i h1;exact absurd h h1
 ·rename_i h1
  split at h
  ·cases h
  ·split at h
   ·rename_i h3;exact absurd h h3
   ·rename_i h3
    split at h
    ·cases h
    ·rename_i h4
     exact⟨Cw.1 h1,Cw.1 h3,by omega⟩
theorem lI(w:Ab):G2 w.heap.size (w.alloc (.cells #[.pointer none,.slice none 0 0] 65)) w.heap.size (Ak []):=.inl ⟨Au _ _,rfl⟩
theorem Xr(x:RA)(r:Rec)(w:Ab)(h:RRd w x r)(hn:x.o.n<=1000)(hB:Bd r.d)(hL:Bk w)(ht:r.t<65536)(hcl:r.cl<65536)(htt:r.tt<4294967296)(hwl:(Gw r.t r.d).length<=100000)(hz:(DM r).length<=140737488355328) :
  Ag Aa 13 #[.agg (AV x r).toArray] w fun e w'=>e=.returned (.tuple #[.string ⟨(Hz r).1.toArray⟩,.int .i64 (Hz r).2])/\Hid (Below w.heap.size w w'):=by
 have hb0:=Ah w (.cells (AV x r).toArray 43);have KC:=Ac (PE x r _ (h.below hb0) hn hB);by_cases hw:Dc r=0
 case neg=>
  have hR:Hz r=([],Dc r):=by unfold Hz;rw[if_neg hw]
  rw[hR];generalize Dc r=q at*;have hq:(q != 0)=true:=bne_iff_ne.2 hw;obtain⟨⟨oa,on,oc⟩,⟨⟨a1,n1,k1⟩,⟨a2,n2,k2⟩,⟨a3,n3,k3⟩,⟨a4,n4,k4⟩⟩⟩:=x;obtain⟨ow,t,cl,tt,d⟩:=r;have HB0:=Ac hb0;clear h hb0 hR hw hB hL;have KC':Hid (Ag Aa 29 #[.agg #[.slice oa on oc,.int .u16 (t:Int),.int .u16 (cl:Int),.int .u32 (tt:Int),.slice a1 n1 k1,.slice a2 n2 k2,.slice a3 n3 k3,.slice a4 n4 k4]] (w.alloc (.cells #[.slice oa on oc,.int .u16 (t:Int),.int .u16 (cl:Int),.int .u32 (tt:Int),.slice a1 n1 k1,.slice a2 n2 k2,.slice a3 n3 k3,.slice a4 n4 k4] 43)) fun e w'=>e=.returned (.int .i64 q)/\Hid (Below (w.alloc (.cells #[.slice oa on oc,.int .u16 (t:Int),.int .u16 (cl:Int),.int .u32 (tt:Int),.slice a1 n1 k1,.slice a2 n2 k2,.slice a3 n3 k3,.slice a4 n4 k4] 43)).heap.size (w.alloc (.cells #[.slice oa on oc,.int .u16 (t:Int),.int .u16 (cl:Int),.int .u32 (tt:Int),.slice a1 n1 k1,.slice a2 n2 k2,.slice a3 n3 k3,.slice a4 n4 k4] 43)) w')):=KC;have HB0':Hid (Below w.heap.size w (w.alloc (.cells #[.slice oa on oc,.int .u16 (t:Int),.int .u16 (cl:Int),.int .u32 (tt:Int),.slice a1 n1 k1,.slice a2 n2 k2,.slice a3 n3 k3,.slice a4 n4 k4] 43))):=HB0;clear KC HB0;show Ag Aa 13 #[.agg #[.slice oa on oc,.int .u16 (t:Int),.int .u16 (cl:Int),.int .u32 (tt:Int),.slice a1 n1 k1,.slice a2 n2 k2,.slice a3 n3 k3,.slice a4 n4 k4]] w _;go_enter Tryz.func13,Tryz.ntmps13;go_wp2_with fail;refine KC'.out.mono ?_;rintro e w2 ⟨rfl,H2⟩;have HB:=Ac (HB0'.out.trans (H2.out.mono HB0'.out.size));go_wp2_with fail
  go_ret2;exact⟨rfl,HB.out⟩
 case pos=>
  obtain⟨hk,hc,-⟩:=Vq hw;have hR:Hz r=(DM r,0):=by unfold Hz;rw[if_pos hw]
  rw[hR];rw[hw]at KC;have hnm:Nm w x.o.a x.o.n r.ow:=(show Nw w x.o.a x.o.n r.ow from⟨h.1.rd,h.1.len,hn,h.1.z63⟩).nm hk;have KT0:Hid (∀W,Below w.heap.size w W->Ag Aa 42 #[.slice x.o.a x.o.n x.o.c] W fun e w'=>e=.returned (.string (AN r.ow).1)/\Hid (Below W.heap.size W w')):=fun W hW=>IU x.o.a x.o.n x.o.c r.ow W ⟨hnm.rd.below hW,hnm.len,hnm.sz⟩
  have hE:[]++Lc (AN r.ow).1 true r=DM r:=by unfold Lc DM;rw[if_pos rfl];simp
  have KL0:Hid (∀w2,Below w.heap.size w w2->∀V,G2 w2.heap.size V w2.heap.size (Ak [])->Below w2.heap.size w2 V->Ag Aa 41 #[.pointer (some ⟨w2.heap.size,0,none⟩),.string (AN r.ow).1,.agg (AV x r).toArray,.bool true] V fun e w'=>e=.returned (.tuple #[])/\Hid (G2 w2.heap.size w' w2.heap.size (Ak (DM r))/\Below w2.heap.size w2 w')):=fun w2 h2 V hg hV=>by
   have:=PN w2 V w2.heap.size [] (AN r.ow).1 x r true (Ad _) hV hg (h.below h2) (hL.below h2) hc hB ht hcl htt hwl (by rw[<- Af,hE];exact hz);rw[hE]at this;exact this.mono fun e w' q=>⟨q.1,q.2.out.1,hV.trans q.2.out.2.1⟩
  have HLN:Hid ((DM r).length<=140737488355328):=hz;generalize DM r=LP at*;generalize (AN r.ow).1=T at*;obtain⟨⟨oa,on,oc⟩,⟨⟨a1,n1,k1⟩,⟨a2,n2,k2⟩,⟨a3,n3,k3⟩,⟨a4,n4,k4⟩⟩⟩:=x;obtain⟨ow,t,cl,tt,d⟩:=r;have HB0:=Ac hb0;clear h hb0 hR hw hB hL hk hc hnm hE hz hwl;have KC':Hid (Ag Aa 29 #[.agg #[.slice oa on oc,.int .u16 (t:Int),.int .u16 (cl:Int),.int .u32 (tt:Int),.slice a1 n1 k1,.slice a2 n2 k2,.slice a3 n3 k3,.slice a4 n4 k4]] (w.alloc (.cells #[.slice oa on oc,.int .u16 (t:Int),.int .u16 (cl:Int),.int .u32 (tt:Int),.slice a1 n1 k1,.slice a2 n2 k2,.slice a3 n3 k3,.slice a4 n4 k4] 43)) fun e w'=>e=.returned (.int .i64 0)/\Hid (Below (w.alloc (.cells #[.slice oa on oc,.int .u16 (t:Int),.int .u16 (cl:Int),.int .u32 (tt:Int),.slice a1 n1 k1,.slice a2 n2 k2,.slice a3 n3 k3,.slice a4 n4 k4] 43)).heap.size (w.alloc (.cells #[.slice oa on oc,.int .u16 (t:Int),.int .u16 (cl:Int),.int .u32 (tt:Int),.slice a1 n1 k1,.slice a2 n2 k2,.slice a3 n3 k3,.slice a4 n4 k4] 43)) w')):=KC;have HB0':Hid (Below w.heap.size w (w.alloc (.cells #[.slice oa on oc,.int .u16 (t:Int),.int .u16 (cl:Int),.int .u32 (tt:Int),.slice a1 n1 k1,.slice a2 n2 k2,.slice a3 n3 k3,.slice a4 n4 k4] 43))):=HB0;have KL1:Hid (∀w2,Below w.heap.size w w2->∀V,G2 w2.heap.size V w2.heap.size (Ak [])->Below w2.heap.size w2 V->Ag Aa 41 #[.pointer (some ⟨w2.heap.size,0,none⟩),.string T,.agg #[.slice oa on oc,.int .u16 (t:Int),.int .u16 (cl:Int),.int .u32 (tt:Int),.slice a1 n1 k1,.slice a2 n2 k2,.slice a3 n3 k3,.slice a4 n4 k4],.bool true] V fun e w'=>e=.returned (.tuple #[])/\Hid (G2 w2.heap.size w' w2.heap.size (Ak LP)/\Below w2.heap.size w2 w')):=KL0
  have KT1:Hid (∀W,Below w.heap.size w W->Ag Aa 42 #[.slice oa on oc] W fun e w'=>e=.returned (.string T)/\Hid (Below W.heap.size W w')):=KT0;clear KC HB0 KL0 KT0;show Ag Aa 13 #[.agg #[.slice oa on oc,.int .u16 (t:Int),.int .u16 (cl:Int),.int .u32 (tt:Int),.slice a1 n1 k1,.slice a2 n2 k2,.slice a3 n3 k3,.slice a4 n4 k4]] w _;go_enter Tryz.func13,Tryz.ntmps13;go_wp2_with fail;refine KC'.out.mono ?_;rintro e w2 ⟨rfl,H2⟩;have HB:=Ac (HB0'.out.trans (H2.out.mono HB0'.out.size));have HX:Hid (w2.heap[w.heap.size]?=some (.cells #[.slice oa on oc,.int .u16 (t:Int),.int .u16 (cl:Int),.int .u32 (tt:Int),.slice a1 n1 k1,.slice a2 n2 k2,.slice a3 n3 k3,.slice a4 n4 k4] 43)):=(H2.out.block w.heap.size (by simp)).trans (Au _ _);have KS:∀W,Below w2.heap.size w2 W->W.cell? ⟨w.heap.size,0,none⟩=some (.slice oa on oc)/\W.cell? ⟨w.heap.size,1,none⟩=some (.int .u16 (t:Int))/\W.cell? ⟨w.heap.size,2,none⟩=some (.int .u16 (cl:Int))/\W.cell? ⟨w.heap.size,3,none⟩=some (.int .u32 (tt:Int))/\W.cell? ⟨w.heap.size,4,none⟩=some (.slice a1 n1 k1)/\W.cell? ⟨w.heap.size,5,none⟩=some (.slice a2 n2 k2)/\W.cell? ⟨w.heap.size,6,none⟩=some (.slice a3 n3 k3)/\W.cell? ⟨w.heap.size,7,none⟩=some (.slice a4 n4 k4):=fun W hW=>by
   have hh:=(hW.block _ (Cs HX.out)).trans HX.out;exact⟨AX hh rfl,AX hh rfl,AX hh rfl,AX hh rfl,AX hh rfl,AX hh rfl,AX hh rfl,AX hh rfl⟩
  have KL:=Ac (KL1.out w2 HB.out);have l0:=Cs HX.out;have H3:Hid (G2 w2.heap.size (w2.alloc (.cells #[.pointer none,.slice none 0 0] 65)) w2.heap.size (Ak [])/\Below w2.heap.size w2 (w2.alloc (.cells #[.pointer none,.slice none 0 0] 65))):=⟨lI w2,Ah _ _⟩;obtain⟨B,hBB⟩:∃B,B=w2.heap.size:=⟨_,rfl⟩;clear KC' HB0' KL1 H2;go_wp2_with fail;generalize w2.alloc (.cells #[.pointer none,.slice none 0 0] 65)=wa at*;have HD:Hid (G2 w2.heap.size wa.drew w2.heap.size (Ak [])/\Below w2.heap.size w2 wa.drew):=⟨H3.out.1.go (Ae _ _).drew,H3.out.2.drew⟩;have l1:w.heap.size<wa.heap.size:=Ap l0 H3.out.2.size
  go_region_held3 (fun W=>W.cell? ⟨w.heap.size,0,none⟩=some (.slice oa on oc)/\W.cell? ⟨w.heap.size,1,none⟩=some (.int .u16 (t:Int))/\W.cell? ⟨w.heap.size,2,none⟩=some (.int .u16 (cl:Int))/\W.cell? ⟨w.heap.size,3,none⟩=some (.int .u32 (tt:Int))/\W.cell? ⟨w.heap.size,4,none⟩=some (.slice a1 n1 k1)/\W.cell? ⟨w.heap.size,5,none⟩=some (.slice a2 n2 k2)/\W.cell? ⟨w.heap.size,6,none⟩=some (.slice a3 n3 k3)/\W.cell? ⟨w.heap.size,7,none⟩=some (.slice a4 n4 k4)) (first|exact KS _ H7.out.2|exact KS _ H6.out.2|exact KS _ HD.out.2|exact KS _ H3.out.2) (first
   |(go_at_call 42;refine(KT1.out _ (HB.out.trans (HD.out.2.mono HB.out.size))).mono ?_;rintro e w6 ⟨rfl,H6'⟩;have H6:Hid (G2 w2.heap.size w6 w2.heap.size (Ak [])/\Below w2.heap.size w2 w6):=⟨HD.out.1.go H6'.out,HD.out.2.trans (H6'.out.mono HD.out.2.size)⟩;have l6:w.heap.size<w6.heap.size:=Ap l0 H6.out.2.size)
   |(go_at_call 41;refine(KL.out _ H6.out.1 H6.out.2).mono ?_;rintro e w7 ⟨rfl,H7⟩)
   |fail)
  all_goals
   have HS:=Ac (RK w2.heap.size w2.heap.size LP w7 H7.out.1 (by have:=HLN.out;omega));have HB7:=Ac (HB.out.trans (H7.out.2.mono HB.out.size));have hsz:=HB7.out.size;go_wp2_with fail;refine HS.out.mono ?_;rintro e w8 ⟨rfl,H8⟩;have HB8:=Ac (HB7.out.trans (H8.out.mono (Aj HB.out.size (Ad _))));go_wp2_with fail;go_ret2;exact⟨rfl,HB8.out⟩
abbrev WG6(w:Ab)(b:Nat)(v0 v1 v2 v3 v4 v5:Ao):Ab:=(((((w.setCell ⟨b,0,none⟩ v0).setCell ⟨b,1,none⟩ v1).setCell ⟨b,2,none⟩ v2).setCell ⟨b,3,none⟩ v3).setCell ⟨b,4,none⟩ v4).setCell ⟨b,5,none⟩ v5
abbrev WG7(w:Ab)(b:Nat)(v0 v1 v2 v3 v4 v5 v6:Ao):Ab:=((((((w.setCell ⟨b,0,none⟩ v0).setCell ⟨b,1,none⟩ v1).setCell ⟨b,2,none⟩ v2).setCell ⟨b,3,none⟩ v3).setCell ⟨b,4,none⟩ v4).setCell ⟨b,5,none⟩ v5).setCell ⟨b,6,none⟩ v6
theorem xP{w:Ab}{g:Nat}{v0 v1 v2 v3 v4 v5 v6 v7:Ao}{t:BH}(h:w.heap[g]?=some (.cells #[v0,v1,v2,v3,v4,v5,v6,v7] t))(x0 x1 x2 x3 x4 x5 x6 x7:Ao):((WG7 w g x0 x1 x2 x3 x4 x5 x6).setCell ⟨g,7,none⟩ x7).heap[g]?=some (.cells #[x0,x1,x2,x3,x4,x5,x6,x7] t):=by
 have h0:=AD h 0 x0;have h1:=AD h0 1 x1;have h2:=AD h1 2 x2;have h3:=AD h2 3 x3;have h4:=AD h3 4 x4;have h5:((WG5 w g x0 x1 x2 x3 x4).setCell ⟨g,5,none⟩ x5).heap[g]?=some (.cells #[x0,x1,x2,x3,x4,x5,v6,v7] t):=AD h4 5 x5;have h6:((WG6 w g x0 x1 x2 x3 x4 x5).setCell ⟨g,6,none⟩ x6).heap[g]?=some (.cells #[x0,x1,x2,x3,x4,x5,x6,v7] t):=AD h5 6 x6;exact AD h6 7 x7
theorem Yk(w:Ab)(g:Nat)(x0 x1 x2 x3 x4 x5 x6 x7:Ao)(j:Nat)(h:j≠g):((WG7 w g x0 x1 x2 x3 x4 x5 x6).setCell ⟨g,7,none⟩ x7).heap[j]?=w.heap[j]?:=by
 rw[Ar _ _ _ _ h,Ar _ _ _ _ h,Ar _ _ _ _ h,Ar _ _ _ _ h,Ar _ _ _ _ h,Ar _ _ _ _ h,Ar _ _ _ _ h,Ar _ _ _ _ h]
theorem aP(w:Ab)(g:Nat)(x0 x1 x2 x3 x4 x5 x6 x7:Ao):((WG7 w g x0 x1 x2 x3 x4 x5 x6).setCell ⟨g,7,none⟩ x7).heap.size=w.heap.size:=by simp[Dq]
theorem wK(w:Ab)(p:Addr)(v:Ao):(w.setCell p v).os=w.os:=rfl
theorem nE(w:Ab)(p:Addr)(v:Ao):(w.setCell p v).tape=w.tape:=rfl
theorem uJ(w:Ab)(p:Addr)(v:Ao):(w.setCell p v).output=w.output:=rfl
theorem pS(w:Ab)(g:Nat)(x0 x1 x2 x3 x4 x5 x6 x7:Ao):((WG7 w g x0 x1 x2 x3 x4 x5 x6).setCell ⟨g,7,none⟩ x7).os=w.os/\((WG7 w g x0 x1 x2 x3 x4 x5 x6).setCell ⟨g,7,none⟩ x7).tape=w.tape/\((WG7 w g x0 x1 x2 x3 x4 x5 x6).setCell ⟨g,7,none⟩ x7).output=w.output:=by
 simp only[wK,nE,uJ,and_self]
structure Fr2(p q:Nat)(w w':Ab):Prop where
 os:w'.os=w.os
 tape:w'.tape=w.tape
 output:w'.output=w.output
 size:w.heap.size<=w'.heap.size
 block:∀k,k<w.heap.size->k≠p->k≠q->w'.heap[k]?=w.heap[k]?
theorem Fr2.below{p q B:Nat}{w w':Ab}(h:Fr2 p q w w')(hp:B<=p)(hq:B<=q)(hB:B<=w.heap.size):Below B w w':=⟨h.os,h.tape,h.output,h.size,fun k hk=>h.block k (by omega) (by omega) (by omega)⟩
theorem aM{B e k n:Nat}{v:Ao}{xs:List Ao}{w w':Ab}(h:w.ownsRow B e k v n xs)(hb:∀g,v.ownBlock=some g->w'.heap[g]?=w.heap[g]?):w'.ownsRow B e k v n xs:=by
 refine⟨h.1,?_⟩;obtain hn|⟨g,cap,cur,rfl,h1,h2,rest⟩:=h.2
 ·exact .inl hn
 ·exact .inr ⟨g,cap,cur,rfl,h1,by rw[hb g rfl];exact h2,rest⟩
theorem bD{B e k n:Nat}{v:Ao}{xs:List Ao}{w:Ab}(h:w.ownsRow B e k v n xs)(g:Nat)(hg:v.ownBlock=some g):∃cur,w.heap[g]?=some (.cells cur e (0,0)):=by
 obtain⟨rfl,_⟩|⟨g',cap,cur,rfl,h1,h2,rest⟩:=h.2
 ·simp[Bm]at hg
 ·simp[Bm]at hg;subst hg;exact⟨cur,h2⟩
structure Rep(W:Ab)(p q:Nat)(f:Bool)(y:RA)(s:Rec):Prop where
 p:W.heap[p]?=some (.cells (AV y s).toArray 43)
 q:W.heap[q]?=some (.cells #[.bool f] 4)
theorem Rep.ne{W:Ab}{p q:Nat}{f:Bool}{y:RA}{s:Rec}(h:Rep W p q f y s):p≠q:=by
 rintro rfl;have h1:=h.p;rw[h.q]at h1;injection h1 with h1
 injection h1 with _ h1 _
 exact absurd h1 (by decide)
theorem Rep.go{W W':Ab}{p q:Nat}{f:Bool}{y:RA}{s:Rec}(h:Rep W p q f y s)(hb:Blw W W'):Rep W' p q f y s:=⟨(hb.block _ (Cs h.p)).trans h.p,(hb.block _ (Cs h.q)).trans h.q⟩
theorem Rep.off{W W':Ab}{p q b:Nat}{f:Bool}{y:RA}{s:Rec}(h:Rep W p q f y s)(ho:GQ b W W')(hp:p≠b)(hq:q≠b):Rep W' p q f y s:=⟨ho _ _ _ _ h.p (by decide) hp,ho _ _ _ _ h.q (by decide) hq⟩
theorem G2.fr2{B b p q:Nat}{bs:List Ao}{w w':Ab}{f:Bool}{y:RA}{s:Rec}(h:G2 B w b bs)(hr:Rep w p q f y s)(hf:Fr2 p q w w'):G2 B w' b bs:=by
 have hp:=hr.p;have hq:=hr.q;have hk:∀(k:Nat) (cs:Array Ao) (t:BH),w.heap[k]?=some (.cells cs t (0,0))->t≠43->t≠4->w'.heap[k]?=w.heap[k]?:=fun k cs t e h1 h2=>hf.block k (Cs e) (by
  rintro rfl;rw[hp]at e;injection e with e;injection e with _ e _;exact h1 e.symm) (by
  rintro rfl;rw[hq]at e;injection e with e;injection e with _ e _;exact h2 e.symm)
 obtain⟨h,e⟩|⟨v,g1,g2,g3,g4⟩:=h
 ·exact .inl ⟨h.same (hk _ _ _ h (by decide) (by decide)),e⟩
 ·refine .inr ⟨v,g1.same (hk _ _ _ g1 (by decide) (by decide)),aM g2 (fun g hg=>?_),g3,g4⟩;obtain⟨cur,hc⟩:=bD g2 g hg;exact hk _ _ _ hc (by decide) (by decide)
theorem nO{w V V8:Ab}{p q:Nat}{f:Bool}{x y:RA}{r s:Rec}(e1:V8.heap[p]?=some (.cells (AV x r).toArray 43))(e2:∀j,j≠p->V8.heap[j]?=V.heap[j]?)(e3:V8.heap.size=V.heap.size)(e5:V8.os=V.os)(e6:V8.tape=V.tape)(e7:V8.output=V.output)(hV:Blw w V)(hR:Rep V p q f y s)(hne:p≠q) :
  Rep (V8.setCell ⟨q,0,none⟩ (.bool false)) p q false x r/\Fr2 p q w (V8.setCell ⟨q,0,none⟩ (.bool false)):=by
 have s9:(V8.setCell ⟨q,0,none⟩ (.bool false)).heap.size=V8.heap.size:=by simp[Dq]
 refine⟨⟨(Ar V8 ⟨q,0,none⟩ (.bool false) p hne).trans e1,?_⟩,e5.trans hV.os,e6.trans hV.tape,e7.trans hV.output,?_,fun k hk h1 h2=>?_⟩
 ·have e4:=AD ((e2 q (Ne.symm hne)).trans hR.q) 0 (.bool false);simpa using e4
 ·rw[s9,e3];exact hV.size
 ·rw[Ar V8 ⟨q,0,none⟩ (.bool false) k h2,e2 k h1];exact hV.block k hk
def noA:RA:=⟨⟨none,0,0⟩,⟨⟨none,0,0⟩,⟨none,0,0⟩,⟨none,0,0⟩,⟨none,0,0⟩⟩⟩
def noR:Rec:=⟨[],0,1,0,⟨[],[],[],[]⟩⟩
theorem aW(w:Ab):Ag Aa 65 #[] w fun e w'=>e=.returned (.func (.func 104) #[] #[.pointer (some ⟨w.heap.size+1,0,none⟩),.pointer (some ⟨w.heap.size,0,none⟩)])/\Hid (Rep w' w.heap.size (w.heap.size+1) true noA noR/\Blw w w'):=by
 have H:Hid (Rep ((w.alloc (.cells (AV noA noR).toArray 43)).alloc (.cells #[.bool true] 4)) w.heap.size (w.heap.size+1) true noA noR/\Blw w ((w.alloc (.cells (AV noA noR).toArray 43)).alloc (.cells #[.bool true] 4))):=by
  have b1:=Ah w (.cells (AV noA noR).toArray 43);have b2:=Ah (w.alloc (.cells (AV noA noR).toArray 43)) (.cells #[.bool true] 4);refine⟨⟨(b2.block _ (by simp)).trans (Au _ _),?_⟩,b1.trans (b2.mono b1.size)⟩;have:=Au (w.alloc (.cells (AV noA noR).toArray 43)) (.cells #[.bool true] 4);rw[Bj]at this;exact this
 go_enter Tryz.func65,Tryz.ntmps65;go_wp2_with fail;go_ret;exact⟨rfl,H.out⟩
abbrev WR7(w:Ab)(b:Nat)(a:RA)(c:Rec):Ab:=((((((w.setCell ⟨b,0,none⟩ (.slice a.o.a a.o.n a.o.c)).setCell ⟨b,1,none⟩ (.int .u16 (c.t:Int))).setCell ⟨b,2,none⟩ (.int .u16 (c.cl:Int))).setCell ⟨b,3,none⟩ (.int .u32 (c.tt:Int))).setCell ⟨b,4,none⟩ (.slice a.d.p1.a a.d.p1.n a.d.p1.c)).setCell ⟨b,5,none⟩ (.slice a.d.p2.a a.d.p2.n a.d.p2.c)).setCell ⟨b,6,none⟩ (.slice a.d.p3.a a.d.p3.n a.d.p3.c)
abbrev WR8(w:Ab)(b:Nat)(a:RA)(c:Rec):Ab:=(((((((w.setCell ⟨b,0,none⟩ (.slice a.o.a a.o.n a.o.c)).setCell ⟨b,1,none⟩ (.int .u16 (c.t:Int))).setCell ⟨b,2,none⟩ (.int .u16 (c.cl:Int))).setCell ⟨b,3,none⟩ (.int .u32 (c.tt:Int))).setCell ⟨b,4,none⟩ (.slice a.d.p1.a a.d.p1.n a.d.p1.c)).setCell ⟨b,5,none⟩ (.slice a.d.p2.a a.d.p2.n a.d.p2.c)).setCell ⟨b,6,none⟩ (.slice a.d.p3.a a.d.p3.n a.d.p3.c)).setCell ⟨b,7,none⟩ (.slice a.d.p4.a a.d.p4.n a.d.p4.c)
theorem Xg(p q:Nat)(f:Bool)(x y:RA)(r s:Rec)(w:Ab)(h:Rep w p q f y s)(hx:∀W,Below w.heap.size w W->RdT W x.o.a r.ow)(hxl:r.ow.length=x.o.n)(hxn:x.o.n<=1000)(hy:f=false->(∀W,Below w.heap.size w W->RdT W y.o.a s.ow)/\s.ow.length=y.o.n/\y.o.n<=1000) :
  Ag Aa 104 #[.agg (AV x r).toArray,.pointer (some ⟨q,0,none⟩),.pointer (some ⟨p,0,none⟩)] w fun e w'=>e=.returned (.tuple #[.bool (!f && decide (r.ow=s.ow)),.bool (decide (r.cl=s.cl))])/\Hid (Rep w' p q false x r/\Fr2 p q w w'):=by
 have hne:=h.ne;have KE:Hid (f=false->∀W,Below w.heap.size w W->Ag Aa 75 #[.slice x.o.a x.o.n x.o.c,.slice y.o.a y.o.n y.o.c] W fun e w'=>e=.returned (.bool (decide (r.ow=s.ow)))/\Hid (Below W.heap.size W w')):=fun hf W hW=>by
  obtain⟨h1,h2,h3⟩:=hy hf;exact Qz x.o.a y.o.a x.o.n y.o.n x.o.c y.o.c r.ow s.ow W (hx W hW) (h1 W hW) hxl h2 (by omega) (by omega)
 have hb0:=Ah w (.cells (AV x r).toArray 43);have h0:=h.go hb0;have h0x:(w.alloc (.cells (AV x r).toArray 43)).heap[w.heap.size]?=some (.cells (AV x r).toArray 43):=Au _ _;have hpl:=Cs h.p;have hql:=Cs h.q
 -- what the stores leave
 have HFIN:Hid (∀V,Below w.heap.size w V->Rep V p q f y s->Rep (((WG7 V p (.slice x.o.a x.o.n x.o.c) (.int .u16 (r.t:Int)) (.int .u16 (r.cl:Int)) (.int .u32 (r.tt:Int)) (.slice x.d.p1.a x.d.p1.n x.d.p1.c) (.slice x.d.p2.a x.d.p2.n x.d.p2.c) (.slice x.d.p3.a x.d.p3.n x.d.p3.c)).setCell ⟨p,7,none⟩ (.slice x.d.p4.a x.d.p4.n x.d.p4.c)).setCell ⟨q,0,none⟩ (.bool false)) p q false x r/\Fr2 p q w (((WG7 V p (.slice x.o.a x.o.n x.o.c) (.int .u16 (r.t:Int)) (.int .u16 (r.cl:Int)) (.int .u32 (r.tt:Int)) (.slice x.d.p1.a x.d.p1.n x.d.p1.c) (.slice x.d.p2.a x.d.p2.n x.d.p2.c) (.slice x.d.p3.a x.d.p3.n x.d.p3.c)).setCell ⟨p,7,none⟩ (.slice x.d.p4.a x.d.p4.n x.d.p4.c)).setCell ⟨q,0,none⟩ (.bool false))):=by
  intro V hV hR;have e1:=xP hR.p (.slice x.o.a x.o.n x.o.c) (.int .u16 (r.t:Int)) (.int .u16 (r.cl:Int)) (.int .u32 (r.tt:Int)) (.slice x.d.p1.a x.d.p1.n x.d.p1.c) (.slice x.d.p2.a x.d.p2.n x.d.p2.c) (.slice x.d.p3.a x.d.p3.n x.d.p3.c) (.slice x.d.p4.a x.d.p4.n x.d.p4.c);have e2:=fun j (hj:j≠p)=>Yk V p (.slice x.o.a x.o.n x.o.c) (.int .u16 (r.t:Int)) (.int .u16 (r.cl:Int)) (.int .u32 (r.tt:Int)) (.slice x.d.p1.a x.d.p1.n x.d.p1.c) (.slice x.d.p2.a x.d.p2.n x.d.p2.c) (.slice x.d.p3.a x.d.p3.n x.d.p3.c) (.slice x.d.p4.a x.d.p4.n x.d.p4.c) j hj
  have e3:=aP V p (.slice x.o.a x.o.n x.o.c) (.int .u16 (r.t:Int)) (.int .u16 (r.cl:Int)) (.int .u32 (r.tt:Int)) (.slice x.d.p1.a x.d.p1.n x.d.p1.c) (.slice x.d.p2.a x.d.p2.n x.d.p2.c) (.slice x.d.p3.a x.d.p3.n x.d.p3.c) (.slice x.d.p4.a x.d.p4.n x.d.p4.c);have e4:=pS V p (.slice x.o.a x.o.n x.o.c) (.int .u16 (r.t:Int)) (.int .u16 (r.cl:Int)) (.int .u32 (r.tt:Int)) (.slice x.d.p1.a x.d.p1.n x.d.p1.c) (.slice x.d.p2.a x.d.p2.n x.d.p2.c) (.slice x.d.p3.a x.d.p3.n x.d.p3.c) (.slice x.d.p4.a x.d.p4.n x.d.p4.c);generalize ((WG7 V p (.slice x.o.a x.o.n x.o.c) (.int .u16 (r.t:Int)) (.int .u16 (r.cl:Int)) (.int .u32 (r.tt:Int)) (.slice x.d.p1.a x.d.p1.n x.d.p1.c) (.slice x.d.p2.a x.d.p2.n x.d.p2.c) (.slice x.d.p3.a x.d.p3.n x.d.p3.c)).setCell ⟨p,7,none⟩ (.slice x.d.p4.a x.d.p4.n x.d.p4.c))=V8 at*;exact nO e1 e2 e3 e4.1 e4.2.1 e4.2.2 hV hR hne
 obtain⟨⟨oa,on,oc⟩,⟨⟨a1,n1,k1⟩,⟨a2,n2,k2⟩,⟨a3,n3,k3⟩,⟨a4,n4,k4⟩⟩⟩:=x;obtain⟨⟨oa2,on2,oc2⟩,⟨⟨b1,m1,h1⟩,⟨b2,m2,h2⟩,⟨b3,m3,h3⟩,⟨b4,m4,h4⟩⟩⟩:=y;obtain⟨ow,t,cl,tt,d⟩:=r;obtain⟨ow2,t2,cl2,tt2,d2⟩:=s;have HB0:Hid (Below w.heap.size w (w.alloc (.cells #[.slice oa on oc,.int .u16 (t:Int),.int .u16 (cl:Int),.int .u32 (tt:Int),.slice a1 n1 k1,.slice a2 n2 k2,.slice a3 n3 k3,.slice a4 n4 k4] 43))):=hb0;have H0:Hid (Rep (w.alloc (.cells #[.slice oa on oc,.int .u16 (t:Int),.int .u16 (cl:Int),.int .u32 (tt:Int),.slice a1 n1 k1,.slice a2 n2 k2,.slice a3 n3 k3,.slice a4 n4 k4] 43)) p q f ⟨⟨oa2,on2,oc2⟩,⟨⟨b1,m1,h1⟩,⟨b2,m2,h2⟩,⟨b3,m3,h3⟩,⟨b4,m4,h4⟩⟩⟩ ⟨ow2,t2,cl2,tt2,d2⟩/\(w.alloc (.cells #[.slice oa on oc,.int .u16 (t:Int),.int .u16 (cl:Int),.int .u32 (tt:Int),.slice a1 n1 k1,.slice a2 n2 k2,.slice a3 n3 k3,.slice a4 n4 k4] 43)).heap[w.heap.size]?=some (.cells #[.slice oa on oc,.int .u16 (t:Int),.int .u16 (cl:Int),.int .u32 (tt:Int),.slice a1 n1 k1,.slice a2 n2 k2,.slice a3 n3 k3,.slice a4 n4 k4] 43)):=⟨h0,h0x⟩;have KF:∀W:Ab,Rep W p q f ⟨⟨oa2,on2,oc2⟩,⟨⟨b1,m1,h1⟩,⟨b2,m2,h2⟩,⟨b3,m3,h3⟩,⟨b4,m4,h4⟩⟩⟩ ⟨ow2,t2,cl2,tt2,d2⟩->W.cell? ⟨q,0,none⟩=some (.bool f)/\p<W.heap.size/\q<W.heap.size/\W.frozen? ⟨q,0,none⟩=false/\W.cell? ⟨p,0,none⟩=some (.slice oa2 on2 oc2)/\W.cell? ⟨p,1,none⟩=some (.int .u16 (t2:Int))/\W.cell? ⟨p,2,none⟩=some (.int .u16 (cl2:Int))/\W.cell? ⟨p,3,none⟩=some (.int .u32 (tt2:Int))/\W.cell? ⟨p,4,none⟩=some (.slice b1 m1 h1)/\W.cell? ⟨p,5,none⟩=some (.slice b2 m2 h2)/\W.cell? ⟨p,6,none⟩=some (.slice b3 m3 h3)/\W.cell? ⟨p,7,none⟩=some (.slice b4 m4 h4)/\W.frozen? ⟨p,0,none⟩=false/\W.frozen? ⟨p,1,none⟩=false/\W.frozen? ⟨p,2,none⟩=false/\W.frozen? ⟨p,3,none⟩=false/\W.frozen? ⟨p,4,none⟩=false/\W.frozen? ⟨p,5,none⟩=false/\W.frozen? ⟨p,6,none⟩=false/\W.frozen? ⟨p,7,none⟩=false:=fun W hW=>by
  have a1:W.heap[p]?=some (.cells #[.slice oa2 on2 oc2,.int .u16 (t2:Int),.int .u16 (cl2:Int),.int .u32 (tt2:Int),.slice b1 m1 h1,.slice b2 m2 h2,.slice b3 m3 h3,.slice b4 m4 h4] 43):=hW.p;have a2:=hW.q;exact⟨AX a2 rfl,Cs a1,Cs a2,by simp[Dv,a2],AX a1 rfl,AX a1 rfl,AX a1 rfl,AX a1 rfl,AX a1 rfl,AX a1 rfl,AX a1 rfl,AX a1 rfl,by simp[Dv,a1],by simp[Dv,a1],by simp[Dv,a1],by simp[Dv,a1],by simp[Dv,a1],by simp[Dv,a1],by simp[Dv,a1],by simp[Dv,a1]⟩
 have KX:∀W:Ab,W.heap[w.heap.size]?=some (.cells #[.slice oa on oc,.int .u16 (t:Int),.int .u16 (cl:Int),.int .u32 (tt:Int),.slice a1 n1 k1,.slice a2 n2 k2,.slice a3 n3 k3,.slice a4 n4 k4] 43)->W.cell? ⟨w.heap.size,0,none⟩=some (.slice oa on oc)/\W.cell? ⟨w.heap.size,1,none⟩=some (.int .u16 (t:Int))/\W.cell? ⟨w.heap.size,2,none⟩=some (.int .u16 (cl:Int))/\W.cell? ⟨w.heap.size,3,none⟩=some (.int .u32 (tt:Int))/\W.cell? ⟨w.heap.size,4,none⟩=some (.slice a1 n1 k1)/\W.cell? ⟨w.heap.size,5,none⟩=some (.slice a2 n2 k2)/\W.cell? ⟨w.heap.size,6,none⟩=some (.slice a3 n3 k3)/\W.cell? ⟨w.heap.size,7,none⟩=some (.slice a4 n4 k4)/\w.heap.size<W.heap.size:=fun W hh=>
  ⟨AX hh rfl,AX hh rfl,AX hh rfl,AX hh rfl,AX hh rfl,AX hh rfl,AX hh rfl,AX hh rfl,Cs hh⟩
 have hcd:((cl:Int) == (cl2:Int))=decide (cl=cl2):=by
  by_cases e:cl=cl2
  ·subst e;simp
  ·rw[decide_eq_false e];simp;omega
 have hne1:¬ p=q:=hne;have hne2:¬ q=p:=fun e=>hne e.symm
 have hpw:¬ p=w.heap.size:=by omega
 have hqw:¬ q=w.heap.size:=by omega
 have KEx:=KE;clear h hb0 h0 h0x hx hxl hxn hy hne KE;obtain⟨B,hBB⟩:∃B,B=w.heap.size:=⟨_,rfl⟩;show Ag Aa 104 #[.agg #[.slice oa on oc,.int .u16 (t:Int),.int .u16 (cl:Int),.int .u32 (tt:Int),.slice a1 n1 k1,.slice a2 n2 k2,.slice a3 n3 k3,.slice a4 n4 k4],.pointer (some ⟨q,0,none⟩),.pointer (some ⟨p,0,none⟩)] w _;simp only at HFIN KEx ⊢;cases f with
 |true=>
  clear KEx;obtain⟨f0,f1,f2,f3,f4,f5,f6,f7,f8,f9,f10,f11,f12,f13,f14,f15,f16,f17,f18,f19⟩:=KF _ H0.out.1;obtain⟨g0,g1,g2,g3,g4,g5,g6,g7,g8⟩:=KX _ H0.out.2;have HE:=Ac (HFIN.out _ HB0.out H0.out.1);generalize decide (cl=cl2)=dc at*;clear KF KX HFIN H0 HB0 hBB;go_enter Tryz.func104,Tryz.ntmps104
  go_upto_region 1 with fail
  generalize w.alloc (.cells #[.slice oa on oc,.int .u16 (t:Int),.int .u16 (cl:Int),.int .u32 (tt:Int),.slice a1 n1 k1,.slice a2 n2 k2,.slice a3 n3 k3,.slice a4 n4 k4] 43)=wa at*;go_wp2_with fail;go_ret2;exact⟨rfl,HE.out⟩
 |false=>
  have KE2:=Ac (KEx.out rfl _ HB0.out);obtain⟨f0,f1,f2,f3,f4,f5,f6,f7,f8,f9,f10,f11,f12,f13,f14,f15,f16,f17,f18,f19⟩:=KF _ H0.out.1;obtain⟨g0,g1,g2,g3,g4,g5,g6,g7,g8⟩:=KX _ H0.out.2;generalize decide (cl=cl2)=dc at*;generalize decide (ow=ow2)=dw at*;clear KEx;go_enter Tryz.func104,Tryz.ntmps104;go_wp2_with fail;refine KE2.out.mono ?_;rintro e w2 ⟨rfl,H2⟩;have HR2:Hid (Rep w2 p q false ⟨⟨oa2,on2,oc2⟩,⟨⟨b1,m1,h1⟩,⟨b2,m2,h2⟩,⟨b3,m3,h3⟩,⟨b4,m4,h4⟩⟩⟩ ⟨ow2,t2,cl2,tt2,d2⟩/\w2.heap[w.heap.size]?=some (.cells #[.slice oa on oc,.int .u16 (t:Int),.int .u16 (cl:Int),.int .u32 (tt:Int),.slice a1 n1 k1,.slice a2 n2 k2,.slice a3 n3 k3,.slice a4 n4 k4] 43)/\Below w.heap.size w w2):=⟨H0.out.1.go H2.out,(H2.out.block _ g8).trans H0.out.2,HB0.out.trans (H2.out.mono HB0.out.size)⟩;clear f0 f1 f2 f3 f4 f5 f6 f7 f8 f9 f10 f11 f12 f13 f14 f15 f16 f17 f18 f19 g0 g1 g2 g3 g4 g5 g6 g7 g8;obtain⟨f0,f1,f2,f3,f4,f5,f6,f7,f8,f9,f10,f11,f12,f13,f14,f15,f16,f17,f18,f19⟩:=KF _ HR2.out.1;obtain⟨g0,g1,g2,g3,g4,g5,g6,g7,g8⟩:=KX _ HR2.out.2.1;have HE:=Ac (HFIN.out _ HR2.out.2.2 HR2.out.1);clear KF KX HFIN H0 HB0 hBB H2 KE2;go_wp2_with fail;go_ret2;exact⟨rfl,HE.out⟩
theorem RL(w:Ab)(o:Obj):(w.alloc o).heap[w.heap.size]?=some o:=by
 show(w.heap.push o)[w.heap.size]?=some o;simp
theorem QZ{W:Ab}{b:Nat}{o:Obj}(h:W.heap[b]?=some o):b<W.heap.size:=by
 obtain h1|h1:=Nat.lt_or_ge b W.heap.size
 ·exact h1
 ·rw[Array.getElem?_eq_none h1]at h;cases h
theorem VL{W:Ab}{b:Nat}{o:Obj}(h:W.heap[b]?=some o)(x:Obj):(W.alloc x).heap[b]?=some o:=(EP W x b (QZ h)).trans h
theorem BG{W:Ab}{D i:Nat}{cs:Array Ao}{ty:BH}{v:Ao}(hD:W.heap[D]?=some (.cells cs ty))(hv:cs[i]?=some v):W.cell? ⟨D,i,none⟩=some v:=by
 simp[Az,hD,hv]
def kY(f:Nat)(w:Ab)(x y:Ao):Prop:=∀W,Blw w W->Ag Aa f #[x,y] W fun e w'=>e=.returned (.bool true)/\Blw W w'
theorem Yq(x y:RA)(r:Rec)(w:Ab)(h1:RRd w x r)(h2:RRd w y r) :
  Ag Aa 21 #[.agg (AV x r).toArray,.agg (AV y r).toArray] w fun e w'=>e=.returned (.bool true)/\Blw w w':=by
 have KD:∀W,Blw w W->Hid (Ag Aa 49 #[.agg #[.slice x.d.p1.a x.d.p1.n x.d.p1.c,.slice x.d.p2.a x.d.p2.n x.d.p2.c,.slice x.d.p3.a x.d.p3.n x.d.p3.c,.slice x.d.p4.a x.d.p4.n x.d.p4.c],.agg #[.slice y.d.p1.a y.d.p1.n y.d.p1.c,.slice y.d.p2.a y.d.p2.n y.d.p2.c,.slice y.d.p3.a y.d.p3.n y.d.p3.c,.slice y.d.p4.a y.d.p4.n y.d.p4.c]] W fun e w'=>e=.returned (.bool true)/\Hid (Blw W w')):=fun W hb=>Uo x.d y.d r.d W (h1.2.below hb) (h2.2.below hb)
 have hnn:x.o.n=y.o.n:=h1.1.len.symm.trans h2.1.len;have KN:∀W,Blw w W->Hid (Ag Aa 25 #[.slice x.o.a x.o.n x.o.c,.slice y.o.a x.o.n y.o.c] W fun e w'=>e=.returned (.bool true)/\Hid (Blw W w')):=fun W hb=>TD x.o.a y.o.a x.o.n x.o.c y.o.c r.ow W (h1.1.rd.below hb) (h2.1.rd.below hb) h1.1.len (Aj h1.1.cap.1 h1.1.cap.2)
 clear h1 h2;obtain⟨⟨xa,xn,xc⟩,⟨⟨xa1,xn1,xc1⟩,⟨xa2,xn2,xc2⟩,⟨xa3,xn3,xc3⟩,⟨xa4,xn4,xc4⟩⟩⟩:=x;obtain⟨⟨ya,yn,yc⟩,⟨⟨ya1,yn1,yc1⟩,⟨ya2,yn2,yc2⟩,⟨ya3,yn3,yc3⟩,⟨ya4,yn4,yc4⟩⟩⟩:=y;obtain⟨ow,t,cl,tt,d⟩:=r;simp only at KD KN hnn;subst hnn;show Ag Aa 21 #[.agg #[.slice xa xn xc,.int .u16 (t:Int),.int .u16 (cl:Int),.int .u32 (tt:Int),.slice xa1 xn1 xc1,.slice xa2 xn2 xc2,.slice xa3 xn3 xc3,.slice xa4 xn4 xc4],.agg #[.slice ya xn yc,.int .u16 (t:Int),.int .u16 (cl:Int),.int .u32 (tt:Int),.slice ya1 yn1 yc1,.slice ya2 yn2 yc2,.slice ya3 yn3 yc3,.slice ya4 yn4 yc4]] w fun e w'=>e=.returned (.bool true)/\Blw w w'
 go_enter Tryz.func21,Tryz.ntmps21;go_wp2_with fail;refine(KN _ (((Ae _ _).alloc (Ad _) _).alloc (by simp) _)).out.mono ?_;rintro e w2 ⟨rfl,hb2'⟩;have hb2:=hb2'.out;have HB2:Hid (Blw w w2/\w2.heap[w.heap.size]?=some (.cells #[.slice xa xn xc,.int .u16 (t:Int),.int .u16 (cl:Int),.int .u32 (tt:Int),.slice xa1 xn1 xc1,.slice xa2 xn2 xc2,.slice xa3 xn3 xc3,.slice xa4 xn4 xc4] 43)/\w2.heap[w.heap.size+1]?=some (.cells #[.slice ya xn yc,.int .u16 (t:Int),.int .u16 (cl:Int),.int .u32 (tt:Int),.slice ya1 yn1 yc1,.slice ya2 yn2 yc2,.slice ya3 yn3 yc3,.slice ya4 yn4 yc4] 43)):=by
  refine⟨(((Ae _ _).alloc (Ad _) _).alloc (by simp) _).trans (hb2.mono (by simp;omega)),(hb2.block _ (by simp;omega)).trans (VL (RL _ _) _),(hb2.block _ (by simp)).trans ?_⟩;have:=RL (w.alloc (.cells #[.slice xa xn xc,.int .u16 (t:Int),.int .u16 (cl:Int),.int .u32 (tt:Int),.slice xa1 xn1 xc1,.slice xa2 xn2 xc2,.slice xa3 xn3 xc3,.slice xa4 xn4 xc4] 43)) (.cells #[.slice ya xn yc,.int .u16 (t:Int),.int .u16 (cl:Int),.int .u32 (tt:Int),.slice ya1 yn1 yc1,.slice ya2 yn2 yc2,.slice ya3 yn3 yc3,.slice ya4 yn4 yc4] 43);simp only[Bj]at this;exact this
 clear hb2 hb2' KN;have p0:=QZ HB2.out.2.1;have p1:=QZ HB2.out.2.2;have u0:w2.cell? ⟨w.heap.size,0,none⟩=some (.slice xa xn xc):=BG HB2.out.2.1 rfl;have u1:w2.cell? ⟨w.heap.size,1,none⟩=some (.int .u16 (t:Int)):=BG HB2.out.2.1 rfl;have u2:w2.cell? ⟨w.heap.size,2,none⟩=some (.int .u16 (cl:Int)):=BG HB2.out.2.1 rfl;have u3:w2.cell? ⟨w.heap.size,3,none⟩=some (.int .u32 (tt:Int)):=BG HB2.out.2.1 rfl;have u4:w2.cell? ⟨w.heap.size,4,none⟩=some (.slice xa1 xn1 xc1):=BG HB2.out.2.1 rfl;have u5:w2.cell? ⟨w.heap.size,5,none⟩=some (.slice xa2 xn2 xc2):=BG HB2.out.2.1 rfl;have u6:w2.cell? ⟨w.heap.size,6,none⟩=some (.slice xa3 xn3 xc3):=BG HB2.out.2.1 rfl;have u7:w2.cell? ⟨w.heap.size,7,none⟩=some (.slice xa4 xn4 xc4):=BG HB2.out.2.1 rfl;have v0:w2.cell? ⟨w.heap.size+1,0,none⟩=some (.slice ya xn yc):=BG HB2.out.2.2 rfl;have v1:w2.cell? ⟨w.heap.size+1,1,none⟩=some (.int .u16 (t:Int)):=BG HB2.out.2.2 rfl;have v2:w2.cell? ⟨w.heap.size+1,2,none⟩=some (.int .u16 (cl:Int)):=BG HB2.out.2.2 rfl;have v3:w2.cell? ⟨w.heap.size+1,3,none⟩=some (.int .u32 (tt:Int)):=BG HB2.out.2.2 rfl;have v4:w2.cell? ⟨w.heap.size+1,4,none⟩=some (.slice ya1 yn1 yc1):=BG HB2.out.2.2 rfl;have v5:w2.cell? ⟨w.heap.size+1,5,none⟩=some (.slice ya2 yn2 yc2):=BG HB2.out.2.2 rfl;have v6:w2.cell? ⟨w.heap.size+1,6,none⟩=some (.slice ya3 yn3 yc3):=BG HB2.out.2.2 rfl
 have v7:w2.cell? ⟨w.heap.size+1,7,none⟩=some (.slice ya4 yn4 yc4):=BG HB2.out.2.2 rfl;go_wp2_with fail;refine(KD _ HB2.out.1).out.mono ?_;rintro e w3 ⟨rfl,hb3⟩;go_wp2;go_ret;exact⟨rfl,HB2.out.1.trans (hb3.out.mono HB2.out.1.size)⟩
theorem mE(a b:Option Addr)(n c d:Nat)(rs:List Rec)(w:Ab)(h1:RdR w a rs)(h2:RdR w b rs)(hl:rs.length=n)(hn:n<=9223372036854775807):kY 15 w (.slice a n c) (.slice b n d):=by
 intro W hW;have HX:Hid (RdR W a rs):=h1.below hW;have HY:Hid (RdR W b rs):=h2.below hW;have HLs:Hid (rs.length=n):=hl;clear h1 h2 hW hl;go_enter Tryz.func15,Tryz.ntmps15;go_wp2_with fail;go_loopw [5] (fun y wr=>∃k:Nat,k<=n/\y=.int .i64 (k:Int)/\Hid (Blw W wr)) (fun y _=>n - (intOf y).toNat)
 case atStart=>exact⟨0,by omega,rfl,Ae _ _⟩
 case round=>
  obtain⟨k,hk,rfl,HB⟩:=hrel;by_cases hlt:k<n
  ·have hlt':(k:Int)<(n:Int):=by omega
   have hks:k<rs.length:=by rw[HLs.out];exact hlt
   obtain⟨b1,o1,rfl,q1,x,rx,ok1⟩:=(HX.out.below HB.out).at k hks;obtain⟨b2,o2,rfl,q2,y,ry,ok2⟩:=(HY.out.below HB.out).at k hks;obtain⟨r,hr⟩:∃r,r=rs[k]:=⟨_,rfl⟩;rw[<- hr]at rx ry ok1 ok2;have KL:∀V,Blw wr V->Hid (Ag Aa 21 #[.agg (AV x r).toArray,.agg (AV y r).toArray] V fun e w'=>e=.returned (.bool true)/\Blw V w'):=fun V hb=>Yq x y r V (ok1.below hb) (ok2.below hb)
   clear hr ok1 ok2;obtain⟨⟨xa,xn,xc⟩,⟨⟨xa1,xn1,xc1⟩,⟨xa2,xn2,xc2⟩,⟨xa3,xn3,xc3⟩,⟨xa4,xn4,xc4⟩⟩⟩:=x;obtain⟨⟨ya,yn,yc⟩,⟨⟨ya1,yn1,yc1⟩,⟨ya2,yn2,yc2⟩,⟨ya3,yn3,yc3⟩,⟨ya4,yn4,yc4⟩⟩⟩:=y;obtain⟨ow,t,cl,tt,dd⟩:=r;have KL':∀V,Blw wr V->Hid (Ag Aa 21 #[.agg #[.slice xa xn xc,.int .u16 (t:Int),.int .u16 (cl:Int),.int .u32 (tt:Int),.slice xa1 xn1 xc1,.slice xa2 xn2 xc2,.slice xa3 xn3 xc3,.slice xa4 xn4 xc4],.agg #[.slice ya yn yc,.int .u16 (t:Int),.int .u16 (cl:Int),.int .u32 (tt:Int),.slice ya1 yn1 yc1,.slice ya2 yn2 yc2,.slice ya3 yn3 yc3,.slice ya4 yn4 yc4]] V fun e w'=>e=.returned (.bool true)/\Blw V w'):=KL;have KS:∀V,Blw wr V->V.cell? ⟨b1,o1+k*8,none⟩=some (.slice xa xn xc)/\V.cell? ⟨b1,o1+k*8+1,none⟩=some (.int .u16 (t:Int))/\V.cell? ⟨b1,o1+k*8+2,none⟩=some (.int .u16 (cl:Int))/\V.cell? ⟨b1,o1+k*8+3,none⟩=some (.int .u32 (tt:Int))/\V.cell? ⟨b1,o1+k*8+4,none⟩=some (.slice xa1 xn1 xc1)/\V.cell? ⟨b1,o1+k*8+5,none⟩=some (.slice xa2 xn2 xc2)/\V.cell? ⟨b1,o1+k*8+6,none⟩=some (.slice xa3 xn3 xc3)/\V.cell? ⟨b1,o1+k*8+7,none⟩=some (.slice xa4 xn4 xc4)/\V.cell? ⟨b2,o2+k*8,none⟩=some (.slice ya yn yc)/\V.cell? ⟨b2,o2+k*8+1,none⟩=some (.int .u16 (t:Int))/\V.cell? ⟨b2,o2+k*8+2,none⟩=some (.int .u16 (cl:Int))/\V.cell? ⟨b2,o2+k*8+3,none⟩=some (.int .u32 (tt:Int))/\V.cell? ⟨b2,o2+k*8+4,none⟩=some (.slice ya1 yn1 yc1)/\V.cell? ⟨b2,o2+k*8+5,none⟩=some (.slice ya2 yn2 yc2)/\V.cell? ⟨b2,o2+k*8+6,none⟩=some (.slice ya3 yn3 yc3)/\V.cell? ⟨b2,o2+k*8+7,none⟩=some (.slice ya4 yn4 yc4):=fun V hb=>⟨(hb.cell (p:=⟨_,_,none⟩) q1).trans (rx 0 (by omega)),(hb.cell (p:=⟨_,_,none⟩) q1).trans (rx 1 (by omega)),(hb.cell (p:=⟨_,_,none⟩) q1).trans (rx 2 (by omega)),(hb.cell (p:=⟨_,_,none⟩) q1).trans (rx 3 (by omega)),(hb.cell (p:=⟨_,_,none⟩) q1).trans (rx 4 (by omega)),(hb.cell (p:=⟨_,_,none⟩) q1).trans (rx 5 (by omega)),(hb.cell (p:=⟨_,_,none⟩) q1).trans (rx 6 (by omega)),(hb.cell (p:=⟨_,_,none⟩) q1).trans (rx 7 (by omega)),(hb.cell (p:=⟨_,_,none⟩) q2).trans (ry 0 (by omega)),(hb.cell (p:=⟨_,_,none⟩) q2).trans (ry 1 (by omega)),(hb.cell (p:=⟨_,_,none⟩) q2).trans (ry 2 (by omega)),(hb.cell (p:=⟨_,_,none⟩) q2).trans (ry 3 (by omega)),(hb.cell (p:=⟨_,_,none⟩) q2).trans (ry 4 (by omega)),(hb.cell (p:=⟨_,_,none⟩) q2).trans (ry 5 (by omega)),(hb.cell (p:=⟨_,_,none⟩) q2).trans (ry 6 (by omega)),(hb.cell (p:=⟨_,_,none⟩) q2).trans (ry 7 (by omega))⟩
   clear KL rx ry;go_wp2_with fail
   go_region_held3 (fun V=>V.cell? ⟨b1,o1+k*8,none⟩=some (.slice xa xn xc)/\V.cell? ⟨b1,o1+k*8+1,none⟩=some (.int .u16 (t:Int))/\V.cell? ⟨b1,o1+k*8+2,none⟩=some (.int .u16 (cl:Int))/\V.cell? ⟨b1,o1+k*8+3,none⟩=some (.int .u32 (tt:Int))/\V.cell? ⟨b1,o1+k*8+4,none⟩=some (.slice xa1 xn1 xc1)/\V.cell? ⟨b1,o1+k*8+5,none⟩=some (.slice xa2 xn2 xc2)/\V.cell? ⟨b1,o1+k*8+6,none⟩=some (.slice xa3 xn3 xc3)/\V.cell? ⟨b1,o1+k*8+7,none⟩=some (.slice xa4 xn4 xc4)/\V.cell? ⟨b2,o2+k*8,none⟩=some (.slice ya yn yc)/\V.cell? ⟨b2,o2+k*8+1,none⟩=some (.int .u16 (t:Int))/\V.cell? ⟨b2,o2+k*8+2,none⟩=some (.int .u16 (cl:Int))/\V.cell? ⟨b2,o2+k*8+3,none⟩=some (.int .u32 (tt:Int))/\V.cell? ⟨b2,o2+k*8+4,none⟩=some (.slice ya1 yn1 yc1)/\V.cell? ⟨b2,o2+k*8+5,none⟩=some (.slice ya2 yn2 yc2)/\V.cell? ⟨b2,o2+k*8+6,none⟩=some (.slice ya3 yn3 yc3)/\V.cell? ⟨b2,o2+k*8+7,none⟩=some (.slice ya4 yn4 yc4)) (first|exact KS _ HBw8.out|exact KS _ (Ae wr.heap.size wr).drew|exact KS _ (Ae wr.heap.size wr)|exact KS _ HBw8.out.drew) (first
    |(go_at_call 21;refine Calls.mono (KL' _ ?hb).out ?_;(case hb=>first|exact(Ae wr.heap.size wr).drew|exact Ae wr.heap.size wr);rintro e w8 ⟨rfl,Hw8⟩;have HBw8:Hid (Blw wr w8):=by first|exact(Ae wr.heap.size wr).drew.trans Hw8|exact Hw8)
    |fail)
   all_goals go_wp2
   all_goals exact⟨⟨k+1,by omega,by go_num,HB.out.trans (HBw8.out.mono HB.out.size)⟩,by simp[intOf];omega⟩
  ·obtain rfl:k=n:=by omega
   go_wp2;go_ret;exact⟨rfl,HB.out⟩
theorem uC(a b:Int)(w:Ab):(Go.part 28 #[.int .i64 a,.int .i64 b] 0).run Aa w=.ok (.int .i64 a) w:=by kernel_rfl
theorem kR(a b:Int)(w:Ab):(Go.part 3 #[.int .i64 a,.int .i64 b] 1).run Aa w=.ok (.int .i64 b) w:=by kernel_rfl
theorem uV : ∃ a b, (Aa.fieldsOf 50).toList = [a, b] /\ a.name ≠ "_" /\ b.name ≠ "_" /\ a.type = 28 /\ b.type = 3 /\ a.offset = 0 /\ b.offset = 1 := by
  have h : (Aa.fieldsOf 50).toList.map (fun f => (f.name == "_", f.type, f.offset)) = [(false, 28, 0), (false, 3, 1)] := by kernel_rfl
  match hl : (Aa.fieldsOf 50).toList, h with
  | [], h => simp at h
  | [a], h => simp at h
  | [a, b], h =>
    simp at h;exact⟨a, b, rfl, h.1.1, h.2.1, h.1.2.1, h.2.2.1, h.1.2.2, h.2.2.2⟩
  | a :: b :: c :: r, h => simp at h
theorem wY(a b c d:Int)(w:Ab):(Op.equalIn 10000 50 (.agg #[.int .i64 a,.int .i64 b]) (.agg #[.int .i64 c,.int .i64 d])).run Aa w=.ok (decide (a=c/\b=d)) w:=by
 rw[show(10000:Nat)=9999+1 from rfl,run_equalIn_struct w 9999 50 _ _ (by kernel_rfl) (by kernel_rfl)];obtain⟨p,q,e,n1,n2,t1,t2,o1,o2⟩:=uV;rw[e];simp only[Op.eqFields,n1,n2,ne_eq,not_false_eq_true,if_true,t1,t2,o1,o2,Sem.run_bind,uC,kR,Result.andThen_ok,show(9999:Nat)=9998+1 from rfl,run_equalIn_int _ 9998 28 .i64 .i64 _ _ Tryz.underlying28,run_equalIn_int _ 9998 3 .i64 .i64 _ _ AW];by_cases h1:a=c
 ·by_cases h2:b=d
  rotate_left
  rotate_left
  all_goals
   simp[h1,h2,kR,show(9999:Nat)=9998+1 from rfl,run_equalIn_int _ 9998 3 .i64 .i64 _ _ AW]
 ·simp[h1]
theorem sY(a b c d:Int)(w:Ab):(binOp .neq 50 (.agg #[.int .i64 a,.int .i64 b]) (.agg #[.int .i64 c,.int .i64 d])).run Aa w=.ok (.bool (!decide (a=c/\b=d))) w:=by
 rw[run_neq_struct,wY];rfl
structure LRd(w:Ab)(x:Sl)(rs:List Rec):Prop where
 rd:RdR w x.a rs
 len:rs.length=x.n
 n63:x.n<=9223372036854775807
theorem LRd.below{w w':Ab}{x:Sl}{rs:List Rec}(h:LRd w x rs)(hb:Blw w w'):LRd w' x rs:=⟨h.rd.below hb,h.len,h.n63⟩
theorem OwR.lrd{B:Nat}{w:Ab}{x:Sl}{rs:List Rec}(h:OwR B w (.slice x.a x.n x.c) rs):LRd w x rs:=by
 obtain⟨a,c,e,h1,h2,h3,h4⟩:=h.rd;obtain⟨xa,xn,xc⟩:=x;cases e;exact⟨h1,rfl,by show rs.length<=_;have h2':rs.length<=xc:=h2;have h3':xc<=9223372036854775807:=h3;omega⟩
theorem gX{w:Ab}{x y:Sl}{rs:List Rec}(h1:LRd w x rs)(h2:LRd w y rs):kY 15 w (.slice x.a x.n x.c) (.slice y.a y.n y.c):=by
 have h:=mE x.a y.a x.n x.c y.c rs w h1.rd h2.rd h1.len h1.n63;rw[show y.n=x.n by rw[<- h1.len,<- h2.len]];exact h
theorem qF(w:Ab)(ps:List (RA × Rec))(n:Nat)(hn:ps.length=n)(hm:n<=9223372036854775807)(h:∀p∈ps,RRd w p.1 p.2):LRd (w.alloc (.cells (Dl ps).toArray 43)) ⟨some ⟨w.heap.size,0,none⟩,n,n⟩ (ps.map (·.2)):=by
 refine⟨?_,by simpa using hn,hm⟩;by_cases h0:ps.map (·.2)=[]
 ·exact .inl h0
 refine .inr ⟨w.heap.size,0,rfl,by simp,fun i hi=>?_⟩;have hi':i<ps.length:=by simpa using hi
 refine⟨ps[i].1,fun j hj=>?_,?_⟩
 ·have e1:=Tf ps i hi' j hj;rw[List.getElem_map,Fg];unfold Az;rw[RL];simpa using e1
 ·rw[List.getElem_map];exact(h ps[i] (AU _)).below (Ah _ _)
def qOf:List Rec->Option (List ByteArray × Nat)
 |[]=>none
 |r::l=>match l with
  |[]=>some (r.ow,r.cl)
  |_=>qOf l
theorem TC(og:List ByteArray):∀(l:List Rec) (q:Option (List ByteArray × Nat)) (r:Rec),ES og q (l++[r])=ES og q l++LR og (match l with|[]=>q|_=>qOf l) r
 |[],q,r=>by simp[ES]
 |[a],q,r=>by simp[ES,qOf]
 |a::b::l,q,r=>by
  have ih:=TC og (b::l) (some (a.ow,a.cl)) r;show LR og q a++ES og (some (a.ow,a.cl)) (b::l++[r])=LR og q a++ES og (some (a.ow,a.cl)) (b::l)++_;rw[ih,AR]
  rfl
theorem Te(og:List ByteArray):∀(a b:List Rec) (q:Option (List ByteArray × Nat)),∃t,ES og q (a++b)=ES og q a++t
 |[],b,q=>⟨ES og q b,by simp[ES]⟩
 |r::a,b,q=>by
  obtain⟨t,ht⟩:=Te og a b (some (r.ow,r.cl));refine⟨t,?_⟩;show LR og q r++ES og _ (a++b)=LR og q r++ES og _ a++t;rw[ht,AR]
theorem eO(og:List ByteArray)(l:List Rec)(j:Nat):(ES og none (l.take j)).length<=(ES og none l).length:=by
 obtain⟨t,ht⟩:=Te og (l.take j) (l.drop j) none;rw[BE]at ht;rw[ht,Af];omega
theorem Wj:∀(l:List Rec) (r:Rec),qOf (l++[r])=some (r.ow,r.cl)
 |[],r=>rfl
 |[a],r=>rfl
 |a::b::l,r=>by
  have ih:=Wj (b::l) r;exact ih
theorem WW(og:List ByteArray)(l:List Rec)(r:Rec):ES og none (l++[r])=ES og none l++LR og (qOf l) r:=by
 have h:=TC og l none r;cases l with
 |nil=>exact h
 |cons a l=>exact h
theorem kC(og:List ByteArray)(q:Option (List ByteArray × Nat))(r:Rec):LR og q r=Lc (if Qd q r=true then⟨#[]⟩ else shF r.ow og) (Oh q r) r:=by
 unfold LR Lc;cases Qd q r <;> cases Oh q r <;> simp
theorem nP{og:List ByteArray}{q:Option (List ByteArray × Nat)}{r:Rec}(h:nck r.ow=0)(hg:nck og=0):(LR og q r).length<=(DM r).length:=by
 have h1:=uG h hg;have h2:=Vm h;have e1:(shF r.ow og).data.toList.length=(shF r.ow og).size:=rfl;have e2:(AN r.ow).1.data.toList.length=(AN r.ow).1.size:=rfl;unfold LR DM;cases Qd q r <;> cases Oh q r <;> simp only[if_true,Bi,if_false,Af,AP,CZ] <;> omega
structure PrK(r:Rec):Prop where
 w:Dc r=0
 b:Bd r.d
 t:r.t<65536
 cl:r.cl<65536
 tt:r.tt<4294967296
 wl:(Gw r.t r.d).length<=100000
 z:(DM r).length<=1000000000
structure PaS(w0:Ab)(b p q:Nat)(W:Ab)(l:List UInt8)(f:Bool)(y:RA)(s:Rec):Prop where
 g:G2 w0.heap.size W b (Ak l)
 lo:Below w0.heap.size w0 W
 rp:Rep W p q f y s
 hp:w0.heap.size<=p
 hq:w0.heap.size<=q
 hb:w0.heap.size<=b
theorem PaS.go{w0 W W':Ab}{b p q:Nat}{l:List UInt8}{f:Bool}{y:RA}{s:Rec}(h:PaS w0 b p q W l f y s)(hb:Blw W W'):PaS w0 b p q W' l f y s:=
 ⟨h.g.go hb,h.lo.trans (hb.mono h.lo.size),h.rp.go hb,h.hp,h.hq,h.hb⟩
theorem PaS.ne{w0 W:Ab}{b p q:Nat}{l:List UInt8}{f:Bool}{y:RA}{s:Rec}(h:PaS w0 b p q W l f y s):p≠b/\q≠b:=by
 obtain⟨pp,vv,hb⟩:=h.g.at;constructor
 focus
  rintro rfl;have h1:=h.rp.p
 rotate_left
 focus
  rintro rfl;have h1:=h.rp.q
 rotate_left
 all_goals
  rw[hb]at h1;injection h1 with h1;injection h1 with _ h1 _
  exact absurd h1 (by decide)
theorem PaS.put{w0 W W':Ab}{b p q:Nat}{l l':List UInt8}{f:Bool}{y:RA}{s:Rec}(h:PaS w0 b p q W l f y s)(h1:G2 w0.heap.size W' b (Ak l'))(h2:Below w0.heap.size W W')(h3:GQ b W W'):PaS w0 b p q W' l' f y s:=
 ⟨h1,h.lo.trans h2,h.rp.off h3 h.ne.1 h.ne.2,h.hp,h.hq,h.hb⟩
theorem PaS.rep{w0 W W':Ab}{b p q:Nat}{l:List UInt8}{f:Bool}{x y:RA}{r s:Rec}(h:PaS w0 b p q W l f y s)(h1:Rep W' p q false x r)(h2:Fr2 p q W W'):PaS w0 b p q W' l false x r:=
 ⟨h.g.fr2 h.rp h2,h.lo.trans (h2.below h.hp h.hq h.lo.size),h1,h.hp,h.hq,h.hb⟩
theorem Sx(bs:List Ao)(w:Ab)(B b:Nat)(h:G2 B w b bs):Ag Aa 66 #[.pointer (some ⟨b,0,none⟩)] w fun e w'=>e=.returned (.int .i64 bs.length)/\w'=w:=by
 obtain⟨p,ao,c,h1⟩:∃p ao c,BB w b p (.slice ao bs.length c):=by
  obtain⟨h,e⟩|⟨v,g1,g2,g3,g4⟩:=h
  ·subst e;exact⟨_,_,_,h⟩
  ·obtain⟨ao,c,rfl⟩:=Kj g2;exact⟨_,_,_,g1⟩
 have c1:=h1.c1;have hlt:=h1.lt;generalize bs.length=n at*;go_enter Tryz.func66,Tryz.ntmps66;go_wp2_with fail;go_ret;exact⟨rfl,rfl⟩
def LV(og:List ByteArray):List UInt8:=Tx++((AN og).1.data.toList++[10])
theorem pV(og:List ByteArray)(l:List Rec):Ie og l=LV og++ES og none l:=by unfold Ie LV;simp
theorem Uf(w0 w:Ab)(b:Nat)(oa:Option Addr)(on oc:Nat)(og:List ByteArray)(x:Sl)(rs:List Rec)(hb:w0.heap.size<=b)(hB:Blw w0 w)(hg:G2 w0.heap.size w b (Ak []))(ho:Nm w0 oa on og)(hk:nck og=0)(hl:LRd w0 x rs)(hn:x.n<=2048)(hr:∀r∈rs,PrK r)(hL:Bk w0) :
  Ag Aa 30 #[.pointer (some ⟨b,0,none⟩),.slice oa on oc,.slice x.a x.n x.c] w fun e w'=>e=.returned (.bool (decide ((Ie og rs).length<=65536)))/\Hid (((Ie og rs).length<=65536->G2 w0.heap.size w' b (Ak (Ie og rs)))/\Blw w0 w'):=by
 obtain⟨DD,hDD⟩:∃DD,decide ((Ie og rs).length<=65536)=DD:=⟨_,rfl⟩;have HDD:=Ac hDD;rw[hDD];have KT:=Ac (fun W (hW:Blw w0 W)=>IU oa on oc og W ⟨ho.rd.below hW,ho.len,ho.sz⟩);have htz:=MH hk;have HG0:Hid (G2 w0.heap.size w b (Ak [])/\Blw w0 w):=⟨hg,hB⟩;have HO:Hid (Nm w0 oa on og/\nck og=0):=⟨ho,hk⟩;have hc4:DF [⟨#[36,79,82,73,71,73,78]⟩,⟨#[32]⟩,(AN og).1,⟨#[10]⟩]=LV og:=by unfold LV Tx;simp[DF]
 have hhl:(LV og).length<=1100:=by
  unfold LV Tx;have e:(AN og).1.data.toList.length=(AN og).1.size:=rfl;simp only[Af,AP,CZ];omega
 have KP:=Ac (fun W (h:G2 w0.heap.size W b (Ak []))=>(SW w0.heap.size b W.heap.size 0 4 [] [⟨#[36,79,82,73,71,73,78]⟩,⟨#[32]⟩,(AN og).1,⟨#[10]⟩] (W.alloc (.cells (tv [⟨#[36,79,82,73,71,73,78]⟩,⟨#[32]⟩,(AN og).1,⟨#[10]⟩]).toArray 9)) (h.go (Ah _ _)) hb (PcT.new W _) rfl (by omega) (by rw[hc4];simp only[CZ];omega)));simp only[tv,Bh,Df,hc4,AQ]at KP;have HLAY:=Ac hL;have HAL:=Ac (pV og rs);have HH:=Ac hhl;generalize (AN og).1=TX at*;have HLL:=Ac hl;have HRR:=Ac hr;obtain⟨xa,xn,xc⟩:=x;simp only at hn ⊢;have hlen:=hl.len;have HLEN:=Ac hlen;go_enter Tryz.func30,Tryz.ntmps30;go_wp2_with fail;refine(KT.out _ HG0.out.2).mono ?_;rintro e w1 ⟨rfl,H1⟩;have HG1:Hid (G2 w0.heap.size w1 b (Ak [])/\Blw w0 w1):=⟨HG0.out.1.go H1.out,HG0.out.2.trans (H1.out.mono HG0.out.2.size)⟩;go_wp2_with fail;refine(KP.out w1 HG1.out.1).mono ?_;rintro e w2 ⟨rfl,H2⟩;have HB2:=Ac ((HG1.out.2.trans ((Ah _ _).mono HG1.out.2.size)).trans H2.out.2.1);go_wp2_with fail;refine(aW w2).mono ?_;rintro e w3 ⟨rfl,H3⟩;have HS3:Hid (PaS w0 b w2.heap.size (w2.heap.size+1) w3 (LV og) true noA noR):=⟨H2.out.1.go H3.out.2,HB2.out.trans (H3.out.2.mono HB2.out.size),H3.out.1,HB2.out.size,EJ HB2.out.size,hb⟩;generalize w2.heap.size=p at*;obtain⟨q,hq⟩:∃q,p+1=q:=⟨_,rfl⟩;rw[hq]at HS3 ⊢;clear hq;go_wp2_with fail;go_loopw [21] (fun v wr=>∃k:Nat,k<=xn/\v=.int .i64 (k:Int)/\∃(l:List UInt8) (f:Bool) (y:RA) (s:Rec),l.length<=65536/\Hid (l=LV og++ES og none (rs.take k))/\f=(k == 0)/\Hid (PaS w0 b p q wr l f y s)/\Hid (qOf (rs.take k)=if f=true then none else some (s.ow,s.cl))/\(f=false->Hid ((∀W,Blw w0 W->RdT W y.o.a s.ow)/\s.ow.length=y.o.n/\y.o.n<=1000))/\(f=true->s.cl=1)) (fun v _=>xn - (intOf v).toNat)
 case atStart=>exact⟨0,Aw _,rfl,LV og,true,noA,noR,by have:=HH.out;omega,(by show _=_;simp[ES]),rfl,HS3.out,(by show _=_;rfl),(fun h=>by cases h),fun _=>rfl⟩
 case round=>
  clear HS3;obtain⟨k,hk,rfl,l,f,y,s,hlz,HL0,hf,HS,HQ,HY,hcl1⟩:=hrel;by_cases hlt:k<xn
  ·have hlt':(k:Int)<(xn:Int):=by omega
   have hkr:k<rs.length:=by rw[HLEN.out];exact hlt
   obtain⟨lb,lo,hla,hll,x,hx0,hxr0⟩:=HLL.out.rd.at k hkr;simp only at hla;subst hla;have hx:∀j,j<8->wr.cell? ⟨lb,lo+k*8+j,none⟩=(AV x rs[k])[j]?:=fun j hj=>(HS.out.lo.cell (p:=⟨lb,lo+k*8+j,none⟩) hll).trans (hx0 j hj)
   obtain⟨r,hrk⟩:∃r,rs[k]=r:=⟨_,rfl⟩;rw[hrk]at hx hxr0;have hpr:PrK r:=by rw[<- hrk];exact HRR.out _ (AU hkr)
   have htk:rs.take (k+1)=rs.take k++[r]:=by rw[AH hkr,hrk]
   obtain⟨hrk0,hrc,-⟩:=Vq hpr.w;have hon:x.o.n<=1000:=by
    have h1:=hxr0.1.len;have h2:=(BI hrk0).1;have h3:=Gt r.ow;omega
   have hnm:Nm w0 x.o.a x.o.n r.ow:=⟨hxr0.1.rd,hxr0.1.len,by have:=(BI hrk0).1;omega⟩;have HY2:Hid ((∀W,Blw w0 W->RdT W x.o.a r.ow)/\r.ow.length=x.o.n/\x.o.n<=1000):=⟨fun W hW=>hxr0.1.rd.below hW,hxr0.1.len,hon⟩
   -- the line
   have hstep:=kC og (qOf (rs.take k)) r;have hsl:=nP (q:=qOf (rs.take k)) hrk0 HO.out.2;obtain⟨blk,hblk⟩:∃blk,Qd (qOf (rs.take k)) r=blk:=⟨_,rfl⟩;obtain⟨cls,hcls⟩:∃cls,Oh (qOf (rs.take k)) r=cls:=⟨_,rfl⟩;have hdw:(!f && decide (r.ow=s.ow))=blk:=by
    rw[<- hblk,HQ.out];cases f with
    |true=>rfl
    |false=>simp only[Bool.not_false,OE,Bi,if_false,Qd];exact decide_eq_decide.2 ⟨fun h=>h.symm,fun h=>h.symm⟩
   have hnr:=hcl1;have hdc:(!(decide (r.cl=s.cl)))=cls:=by
    rw[<- hcls,HQ.out];cases f with
    |true=>simp only[if_true,Oh,hnr rfl];by_cases e:r.cl=1 <;> simp[e]
    |false=>simp only[Bi,if_false,Oh];by_cases e:r.cl=s.cl <;> simp[e];exact fun h=>e h.symm
   rw[hblk,hcls]at hstep;have hmz:l.length+(Lc (if blk=true then⟨#[]⟩ else shF r.ow og) cls r).length<=140737488355328:=by
    rw[<- hstep];have:=hpr.z;omega
   obtain⟨O,hO⟩:∃O,(if blk=true then(⟨#[]⟩:ByteArray) else shF r.ow og)=O:=⟨_,rfl⟩;rw[hO]at hmz hstep;have hLN:l++Lc O cls r=LV og++ES og none (rs.take (k+1)):=by rw[htk,WW,hstep,HL0.out,AR]
   have hbig:65536<(l++Lc O cls r).length->DD=false:=fun h=>by
    rw[<- HDD.out,HAL.out];have:=eO og rs (k+1);rw[hLN]at h;simp only[Af]at h ⊢;simp only[decide_eq_false_iff_not];omega
   have KL:=Ac (fun W f' y' s' (h:PaS w0 b p q W l f' y' s')=>(PN w0 W b l O x r cls hb h.lo h.g hxr0 HLAY.out hrc hpr.b hpr.t hpr.cl hpr.tt hpr.wl hmz).mono (R':=fun e w'=>e=.returned (.tuple #[])/\Hid (PaS w0 b p q w' (l++Lc O cls r) f' y' s'/\GQ b W w')) fun e w' z=>⟨z.1,h.put z.2.out.1 z.2.out.2.1 z.2.out.2.2,z.2.out.2.2⟩);have KS:=Ac (fun W (hW:Blw w0 W)=>Wa x.o.a oa x.o.n on x.o.c oc r.ow og W ⟨hnm.rd.below hW,hnm.len,hnm.sz⟩ ⟨HO.out.1.rd.below hW,HO.out.1.len,HO.out.1.sz⟩ hrk0 HO.out.2 hxr0.1.cap hxr0.1.nil);have KR:=Ac (Xg p q f x y r s (wr.alloc (.cells (AV x r).toArray 43)) (HS.out.go (Ah _ _)).rp (fun W hW=>HY2.out.1 W ((HS.out.go (Ah wr _)).lo.trans (hW.mono (HS.out.go (Ah wr _)).lo.size))) HY2.out.2.1 HY2.out.2.2 (fun h=>⟨fun W hW=>(HY h).out.1 W ((HS.out.go (Ah wr _)).lo.trans (hW.mono (HS.out.go (Ah wr _)).lo.size)),(HY h).out.2.1,(HY h).out.2.2⟩));rw[hdw]at KR;have HQ2:Hid (qOf (rs.take (k+1))=if false=true then none else some (r.ow,r.cl)):=by show _=_;rw[htk,Wj];rfl
   have hpl:=Cs HS.out.rp.p;have hql:=Cs HS.out.rp.q;have HPW:Hid (PaS w0 b p q (wr.alloc (.cells (AV x r).toArray 43)) l f y s/\(wr.alloc (.cells (AV x r).toArray 43)).heap[wr.heap.size]?=some (.cells (AV x r).toArray 43)):=⟨HS.out.go (Ah _ _),Au _ _⟩;have hll2:lb<wr.heap.size:=Ap hll HS.out.lo.size;obtain⟨LN,hLNe⟩:∃LN,l++Lc O cls r=LN:=⟨_,rfl⟩;rw[hLNe]at hLN hbig KL;have HBIG:=Ac hbig;have HLN:Hid (LN=LV og++ES og none (rs.take (k+1))):=hLN;have HOO:=Ac hO;generalize decide (r.cl=s.cl)=dc at*;subst hdc;clear hLN hbig hLNe hmz hstep hsl hblk hcls hdw hpr htk hrk hrk0 hrc hnm hon hx0 HY hcl1 hnr HQ;have c0:=hx 0 (by omega);have c1:=hx 1 (by omega);have c2:=hx 2 (by omega);have c3:=hx 3 (by omega);have c4:=hx 4 (by omega);have c5:=hx 5 (by omega);have c6:=hx 6 (by omega);have c7:=hx 7 (by omega);obtain⟨⟨oa1,on1,oc1⟩,⟨⟨a1,n1,k1⟩,⟨a2,n2,k2⟩,⟨a3,n3,k3⟩,⟨a4,n4,k4⟩⟩⟩:=x;obtain⟨ow,t,cl,tt,d⟩:=r;simp only[AV,Nat.add_zero]at c0 c1 c2 c3 c4 c5 c6 c7;replace c0:wr.cell? ⟨lb,lo+k*8,none⟩=some (.slice oa1 on1 oc1):=c0;replace c1:wr.cell? ⟨lb,lo+k*8+1,none⟩=some (.int .u16 (t:Int)):=c1;replace c2:wr.cell? ⟨lb,lo+k*8+2,none⟩=some (.int .u16 (cl:Int)):=c2;replace c3:wr.cell? ⟨lb,lo+k*8+3,none⟩=some (.int .u32 (tt:Int)):=c3;replace c4:wr.cell? ⟨lb,lo+k*8+4,none⟩=some (.slice a1 n1 k1):=c4;replace c5:wr.cell? ⟨lb,lo+k*8+5,none⟩=some (.slice a2 n2 k2):=c5;replace c6:wr.cell? ⟨lb,lo+k*8+6,none⟩=some (.slice a3 n3 k3):=c6
   replace c7:wr.cell? ⟨lb,lo+k*8+7,none⟩=some (.slice a4 n4 k4):=c7;replace KR:Hid (Ag Aa 104 #[.agg #[.slice oa1 on1 oc1,.int .u16 (t:Int),.int .u16 (cl:Int),.int .u32 (tt:Int),.slice a1 n1 k1,.slice a2 n2 k2,.slice a3 n3 k3,.slice a4 n4 k4],.pointer (some ⟨q,0,none⟩),.pointer (some ⟨p,0,none⟩)] (wr.alloc (.cells #[.slice oa1 on1 oc1,.int .u16 (t:Int),.int .u16 (cl:Int),.int .u32 (tt:Int),.slice a1 n1 k1,.slice a2 n2 k2,.slice a3 n3 k3,.slice a4 n4 k4] 43)) fun e w'=>e=.returned (.tuple #[.bool blk,.bool dc])/\Hid (Rep w' p q false ⟨⟨oa1,on1,oc1⟩,⟨⟨a1,n1,k1⟩,⟨a2,n2,k2⟩,⟨a3,n3,k3⟩,⟨a4,n4,k4⟩⟩⟩ ⟨ow,t,cl,tt,d⟩/\Fr2 p q (wr.alloc (.cells #[.slice oa1 on1 oc1,.int .u16 (t:Int),.int .u16 (cl:Int),.int .u32 (tt:Int),.slice a1 n1 k1,.slice a2 n2 k2,.slice a3 n3 k3,.slice a4 n4 k4] 43)) w')):=KR;replace HPW:Hid (PaS w0 b p q (wr.alloc (.cells #[.slice oa1 on1 oc1,.int .u16 (t:Int),.int .u16 (cl:Int),.int .u32 (tt:Int),.slice a1 n1 k1,.slice a2 n2 k2,.slice a3 n3 k3,.slice a4 n4 k4] 43)) l f y s/\(wr.alloc (.cells #[.slice oa1 on1 oc1,.int .u16 (t:Int),.int .u16 (cl:Int),.int .u32 (tt:Int),.slice a1 n1 k1,.slice a2 n2 k2,.slice a3 n3 k3,.slice a4 n4 k4] 43)).heap[wr.heap.size]?=some (.cells #[.slice oa1 on1 oc1,.int .u16 (t:Int),.int .u16 (cl:Int),.int .u32 (tt:Int),.slice a1 n1 k1,.slice a2 n2 k2,.slice a3 n3 k3,.slice a4 n4 k4] 43)):=HPW;replace KL:Hid (∀W f' y' s',PaS w0 b p q W l f' y' s'->Ag Aa 41 #[.pointer (some ⟨b,0,none⟩),.string O,.agg #[.slice oa1 on1 oc1,.int .u16 (t:Int),.int .u16 (cl:Int),.int .u32 (tt:Int),.slice a1 n1 k1,.slice a2 n2 k2,.slice a3 n3 k3,.slice a4 n4 k4],.bool (!dc)] W fun e w'=>e=.returned (.tuple #[])/\Hid (PaS w0 b p q w' LN f' y' s'/\GQ b W w')):=KL
   simp only at KS;clear hx hxr0 HS HL0;go_wp2_with fail;refine KR.out.mono ?_;rintro e w4 ⟨rfl,H4⟩;have hbx4:w4.heap[wr.heap.size]?=some (.cells #[.slice oa1 on1 oc1,.int .u16 (t:Int),.int .u16 (cl:Int),.int .u32 (tt:Int),.slice a1 n1 k1,.slice a2 n2 k2,.slice a3 n3 k3,.slice a4 n4 k4] 43):=(H4.out.2.block wr.heap.size (by simp) (by omega) (by omega)).trans HPW.out.2;have HS4:Hid (PaS w0 b p q w4 l false ⟨⟨oa1,on1,oc1⟩,⟨⟨a1,n1,k1⟩,⟨a2,n2,k2⟩,⟨a3,n3,k3⟩,⟨a4,n4,k4⟩⟩⟩ ⟨ow,t,cl,tt,d⟩):=HPW.out.1.rep H4.out.1 H4.out.2;have d0:=AX (i:=0) hbx4 rfl;have d1:=AX (i:=1) hbx4 rfl;have d2:=AX (i:=2) hbx4 rfl;have d3:=AX (i:=3) hbx4 rfl;have d4:=AX (i:=4) hbx4 rfl;have d5:=AX (i:=5) hbx4 rfl;have d6:=AX (i:=6) hbx4 rfl;have d7:=AX (i:=7) hbx4 rfl;have dl:=Cs hbx4;have HBX4:=Ac hbx4;clear c0 c1 c2 c3 c4 c5 c6 c7 hpl hql hll2 KR HPW H4 hbx4;cases blk with
   |true=>
    simp only[if_true]at hO;subst hO;clear KS;go_wp2_with fail;refine(KL.out _ _ _ _ HS4.out).mono ?_;rintro e w6 ⟨rfl,H6⟩;clear d0 d1 d2 d3 d4 d5 d6 d7 dl;have KN:=Ac (Sx (Ak LN) w6 w0.heap.size b H6.out.1.g);rw[Dr]at KN;go_wp2_with fail;refine KN.out.mono ?_;rintro e w7 ⟨rfl,rfl⟩;by_cases hgt:65536<LN.length
    ·have hgt':(65536:Int)<(LN.length:Int):=by omega
     have HF:Hid (DD=false):=HBIG.out hgt;go_wp2_with fail;go_ret;exact⟨by rw[HF.out];rfl,(fun h=>by have h2:=HDD.out;rw[HF.out]at h2;simp only[decide_eq_false_iff_not]at h2;exact absurd h h2),H6.out.1.lo⟩
    ·have hle':¬ (65536:Int)<(LN.length:Int):=by omega
     go_wp2_with fail;exact⟨⟨k+1,by omega,by go_num,LN,false,⟨⟨oa1,on1,oc1⟩,⟨⟨a1,n1,k1⟩,⟨a2,n2,k2⟩,⟨a3,n3,k3⟩,⟨a4,n4,k4⟩⟩⟩,⟨ow,t,cl,tt,d⟩,by omega,HLN.out,rfl,H6.out.1,HQ2.out,(fun _=>HY2.out),(fun h=>by cases h)⟩,by simp[intOf];omega⟩
   |false=>
    simp only[Bi,if_false]at hO;rw[hO]at KS;go_wp2_with fail;refine(KS.out _ HS4.out.lo).mono ?_;rintro e w5 ⟨rfl,H5⟩;have HS5:Hid (PaS w0 b p q w5 l false ⟨⟨oa1,on1,oc1⟩,⟨⟨a1,n1,k1⟩,⟨a2,n2,k2⟩,⟨a3,n3,k3⟩,⟨a4,n4,k4⟩⟩⟩ ⟨ow,t,cl,tt,d⟩):=HS4.out.go H5.out;have hbx5:=(H5.out.block _ dl).trans HBX4.out;clear d0 d1 d2 d3 d4 d5 d6 d7 dl;have d0:=AX (i:=0) hbx5 rfl;have d1:=AX (i:=1) hbx5 rfl;have d2:=AX (i:=2) hbx5 rfl;have d3:=AX (i:=3) hbx5 rfl;have d4:=AX (i:=4) hbx5 rfl;have d5:=AX (i:=5) hbx5 rfl;have d6:=AX (i:=6) hbx5 rfl;have d7:=AX (i:=7) hbx5 rfl;have dl:=Cs hbx5;clear hbx5 HBX4;go_wp2_with fail;refine(KL.out _ _ _ _ HS5.out).mono ?_;rintro e w6 ⟨rfl,H6⟩;clear d0 d1 d2 d3 d4 d5 d6 d7 dl;have KN:=Ac (Sx (Ak LN) w6 w0.heap.size b H6.out.1.g);rw[Dr]at KN;go_wp2_with fail;refine KN.out.mono ?_;rintro e w7 ⟨rfl,rfl⟩;by_cases hgt:65536<LN.length
    ·have hgt':(65536:Int)<(LN.length:Int):=by omega
     have HF:Hid (DD=false):=HBIG.out hgt;go_wp2_with fail;go_ret;exact⟨by rw[HF.out];rfl,(fun h=>by have h2:=HDD.out;rw[HF.out]at h2;simp only[decide_eq_false_iff_not]at h2;exact absurd h h2),H6.out.1.lo⟩
    ·have hle':¬ (65536:Int)<(LN.length:Int):=by omega
     go_wp2_with fail;exact⟨⟨k+1,by omega,by go_num,LN,false,⟨⟨oa1,on1,oc1⟩,⟨⟨a1,n1,k1⟩,⟨a2,n2,k2⟩,⟨a3,n3,k3⟩,⟨a4,n4,k4⟩⟩⟩,⟨ow,t,cl,tt,d⟩,by omega,HLN.out,rfl,H6.out.1,HQ2.out,(fun _=>HY2.out),(fun h=>by cases h)⟩,by simp[intOf];omega⟩
  ·obtain rfl:k=xn:=by omega
   have hge:¬ (k:Int)<(k:Int):=by omega
   have HA:Hid (l=Ie og rs):=by
    show _=_;rw[HL0.out,HAL.out,Al (by rw[HLEN.out];omega)]
   have HT:Hid (DD=true):=by
    show _=_;rw[<- HDD.out,<- HA.out];exact decide_eq_true hlz
   go_wp2_with fail;go_ret;exact⟨by rw[HT.out];rfl,fun _=>by rw[<- HA.out];exact HS.out.g,HS.out.lo⟩
theorem NB:∀a b:List Rec,Cj (a++b)=if Cj a=0 then Cj b else Cj a
 |[],b=>by simp[Cj]
 |r::a,b=>by
  have e1:Cj (r::(a++b))=if Dc r=0 then Cj (a++b) else Dc r:=rfl;have e2:Cj (r::a)=if Dc r=0 then Cj a else Dc r:=rfl;show Cj (r::(a++b))=_;rw[e1,e2];by_cases h:Dc r=0
  ·rw[if_pos h,if_pos h];exact NB a b
  ·rw[if_neg h,if_neg h,if_neg h]
structure PrI(r:Rec):Prop where
 b:Bd r.d
 t:r.t<65536
 cl:r.cl<65536
 tt:r.tt<4294967296
 o:r.ow.length<=1000
 wl:(Gw r.t r.d).length<=100000
 z:Dc r=0->(DM r).length<=1000000000
theorem Ty(oa:Option Addr)(on oc:Nat)(og:List ByteArray)(x:Sl)(rs:List Rec)(w:Ab)(ho:TRd w ⟨oa,on,oc⟩ og)(hon:on<=1000)(hl:LRd w x rs)(hr:∀r∈rs,PrI r)(hL:Bk w) :
  Ag Aa 9 #[.slice oa on oc,.slice x.a x.n x.c] w fun e w'=>e=.returned (.tuple #[.string ⟨(DW og rs).1.toArray⟩,.int .i64 (DW og rs).2])/\Hid (Blw w w'):=by
 obtain⟨xa,xn,xc⟩:=x;have hw:Nw w oa on og:=⟨ho.rd,ho.len,hon,ho.z63⟩;have KN:=Ac (TV oc hw);have hlen:rs.length=xn:=hl.len;have h63:xn<=9223372036854775807:=hl.n63;have HP:Hid (DW og rs=if nck og≠0 then([],nck og) else if 2048<rs.length then([],3) else if Cj rs≠0 then([],Cj rs) else if 65536<(Ie og rs).length then([],3) else(Ie og rs,0)):=(by show _=_;rfl);simp only;by_cases hk:nck og=0
 case neg=>
  have hR:DW og rs=([],nck og):=by rw[HP.out,if_pos hk]
  rw[hR];generalize nck og=q at*;have hq:(q != 0)=true:=bne_iff_ne.2 hk;clear hw hR hk ho hl hL hr HP hlen;go_enter Tryz.func9,Tryz.ntmps9;go_wp2_with fail;refine KN.out.mono ?_;rintro e w1 ⟨rfl,rfl⟩;go_wp2_with fail;go_ret2;exact⟨rfl,Ae _ _⟩
 rw[hk]at KN;by_cases hbig:2048<xn
 ·have hR:DW og rs=([],3):=by rw[HP.out,if_neg (fun e=>e hk),if_pos (by omega)]
  rw[hR];have hbig':(2048:Int)<(xn:Int):=by omega
  clear hw hR hk ho hl hL hr HP hlen;go_enter Tryz.func9,Tryz.ntmps9;go_wp2_with fail;refine KN.out.mono ?_;rintro e w1 ⟨rfl,rfl⟩;go_wp2_with fail;go_ret2;exact⟨rfl,Ae _ _⟩
 have hbig':¬ (2048:Int)<(xn:Int):=by omega
 have HPA:Hid ((∀r∈rs,PrK r)->∀(w0 V:Ab) (b:Nat),w0.heap.size<=b->Blw w w0->Blw w0 V->G2 w0.heap.size V b (Ak [])->Ag Aa 30 #[.pointer (some ⟨b,0,none⟩),.slice oa on oc,.slice xa xn xc] V fun e w'=>e=.returned (.bool (decide ((Ie og rs).length<=65536)))/\Hid (((Ie og rs).length<=65536->G2 w0.heap.size w' b (Ak (Ie og rs)))/\Blw w0 w')):=fun hpk w0 V b hb h0 hV hg=>Uf w0 V b oa on oc og ⟨xa,xn,xc⟩ rs hb hV hg ((hw.nm hk).rd.below h0 |> fun z=>⟨z,ho.len,(hw.nm hk).sz⟩) hk (hl.below h0) (by show xn<=2048;omega) hpk (hL.below h0)
 have HLL:=Ac hl;have HRI:=Ac hr;have HLEN:=Ac hlen;have HPR:Hid (Cj rs=0->∀r∈rs,PrK r):=fun h r hm=>by
  have h1:=hr r hm;have h2:=OZ h r hm;exact⟨h2,h1.b,h1.t,h1.cl,h1.tt,h1.wl,h1.z h2⟩
 have HR:Hid (DW og rs=if Cj rs≠0 then([],Cj rs) else if 65536<(Ie og rs).length then([],3) else(Ie og rs,0)):=by
  show _=_;rw[HP.out,if_neg (fun e=>e hk),if_neg (by omega)]
 generalize DW og rs=PF at*;clear hw hk ho hl hL hr HP hlen;go_enter Tryz.func9,Tryz.ntmps9;go_wp2_with fail;refine KN.out.mono ?_;rintro e w1 ⟨rfl,rfl⟩;clear KN;go_wp2_with fail;go_loopw [21] (fun v wr=>∃k:Nat,k<=xn/\v=.int .i64 (k:Int)/\Hid (Blw w1 wr)/\Hid (Cj (rs.take k)=0)) (fun v _=>xn - (intOf v).toNat)
 case atStart=>exact⟨0,Aw _,rfl,Ae _ _,(by show _=_;simp[Cj])⟩
 case round=>
  obtain⟨k,hk,rfl,HB,HW⟩:=hrel;by_cases hlt:k<xn
  ·have hlt':(k:Int)<(xn:Int):=by omega
   have hkr:k<rs.length:=by rw[HLEN.out];exact hlt
   obtain⟨lb,lo,hla,hll,x,hx0,hxr0⟩:=HLL.out.rd.at k hkr;simp only at hla;subst hla;have hx:∀j,j<8->wr.cell? ⟨lb,lo+k*8+j,none⟩=(AV x rs[k])[j]?:=fun j hj=>(HB.out.cell (p:=⟨lb,lo+k*8+j,none⟩) hll).trans (hx0 j hj)
   obtain⟨r,hrk⟩:∃r,rs[k]=r:=⟨_,rfl⟩;rw[hrk]at hx hxr0;have hpi:PrI r:=by rw[<- hrk];exact HRI.out _ (AU hkr)
   have htk:rs.take (k+1)=rs.take k++[r]:=by rw[AH hkr,hrk]
   have hon1:x.o.n<=1000:=by have h1:=hxr0.1.len;have h2:=hpi.o;omega
   have HBA:Hid (Blw w1 (wr.alloc (.cells (AV x r).toArray 43))):=HB.out.trans ((Ah _ _).mono HB.out.size);have KC:=Ac (PE x r (wr.alloc (.cells (AV x r).toArray 43)) (hxr0.below HBA.out) hon1 hpi.b);have hll2:lb<wr.heap.size:=Ap hll HB.out.size;have HWS:Hid (Dc r≠0->Cj rs=Dc r):=fun h=>by
    have e:rs=rs.take k++(r::rs.drop (k+1)):=by
     conv=>lhs;rw[<- BE k rs,El hkr,hrk]
    rw[e,NB,if_pos HW.out];unfold Cj;rw[if_neg h]
   have HWT:Hid (Dc r=0->Cj (rs.take (k+1))=0):=fun h=>by
    rw[htk,NB,if_pos HW.out];unfold Cj;rw[if_pos h]
    rfl
   generalize Dc r=q at*;obtain⟨⟨oa1,on1,oc1⟩,⟨⟨a1,n1,k1⟩,⟨a2,n2,k2⟩,⟨a3,n3,k3⟩,⟨a4,n4,k4⟩⟩⟩:=x;obtain⟨ow,t,cl,tt,d⟩:=r;have c0:wr.cell? ⟨lb,lo+k*8,none⟩=some (.slice oa1 on1 oc1):=hx 0 (by omega);have c1:wr.cell? ⟨lb,lo+k*8+1,none⟩=some (.int .u16 (t:Int)):=hx 1 (by omega);have c2:wr.cell? ⟨lb,lo+k*8+2,none⟩=some (.int .u16 (cl:Int)):=hx 2 (by omega);have c3:wr.cell? ⟨lb,lo+k*8+3,none⟩=some (.int .u32 (tt:Int)):=hx 3 (by omega);have c4:wr.cell? ⟨lb,lo+k*8+4,none⟩=some (.slice a1 n1 k1):=hx 4 (by omega);have c5:wr.cell? ⟨lb,lo+k*8+5,none⟩=some (.slice a2 n2 k2):=hx 5 (by omega);have c6:wr.cell? ⟨lb,lo+k*8+6,none⟩=some (.slice a3 n3 k3):=hx 6 (by omega);have c7:wr.cell? ⟨lb,lo+k*8+7,none⟩=some (.slice a4 n4 k4):=hx 7 (by omega);replace KC:Hid (Ag Aa 29 #[.agg #[.slice oa1 on1 oc1,.int .u16 (t:Int),.int .u16 (cl:Int),.int .u32 (tt:Int),.slice a1 n1 k1,.slice a2 n2 k2,.slice a3 n3 k3,.slice a4 n4 k4]] (wr.alloc (.cells #[.slice oa1 on1 oc1,.int .u16 (t:Int),.int .u16 (cl:Int),.int .u32 (tt:Int),.slice a1 n1 k1,.slice a2 n2 k2,.slice a3 n3 k3,.slice a4 n4 k4] 43)) fun e w'=>e=.returned (.int .i64 q)/\Hid (Below (wr.alloc (.cells #[.slice oa1 on1 oc1,.int .u16 (t:Int),.int .u16 (cl:Int),.int .u32 (tt:Int),.slice a1 n1 k1,.slice a2 n2 k2,.slice a3 n3 k3,.slice a4 n4 k4] 43)).heap.size (wr.alloc (.cells #[.slice oa1 on1 oc1,.int .u16 (t:Int),.int .u16 (cl:Int),.int .u32 (tt:Int),.slice a1 n1 k1,.slice a2 n2 k2,.slice a3 n3 k3,.slice a4 n4 k4] 43)) w')):=KC;replace HBA:Hid (Blw w1 (wr.alloc (.cells #[.slice oa1 on1 oc1,.int .u16 (t:Int),.int .u16 (cl:Int),.int .u32 (tt:Int),.slice a1 n1 k1,.slice a2 n2 k2,.slice a3 n3 k3,.slice a4 n4 k4] 43))):=HBA
   clear hx hx0 hxr0 hrk hpi htk hon1 HW;by_cases hq:q=0
   ·subst hq;go_wp2_with fail;refine KC.out.mono ?_;rintro e w3 ⟨rfl,H3⟩;go_wp2_with fail;exact⟨⟨k+1,by omega,by go_num,HBA.out.trans (H3.out.mono HBA.out.size),HWT.out (by first|rfl|trivial)⟩,by simp[intOf];omega⟩
   ·have hq':(q != 0)=true:=bne_iff_ne.2 hq;have HE:Hid (PF=([],q)):=by
     show _=_;rw[HR.out,HWS.out hq,if_pos hq]
    go_wp2_with fail;refine KC.out.mono ?_;rintro e w3 ⟨rfl,H3⟩;have HB3:=Ac (HBA.out.trans (H3.out.mono HBA.out.size));go_wp2_with fail;go_ret2;exact⟨by rw[HE.out];rfl,HB3.out⟩
  ·obtain rfl:k=xn:=by omega
   have hge:¬ (k:Int)<(k:Int):=by omega
   have HW0:Hid (Cj rs=0):=by
    have h:=HW.out;rw[Al (by rw[HLEN.out];omega)]at h;exact h
   have KP:=Ac (HPA.out (HPR.out HW0.out) wr (wr.alloc (.cells #[.pointer none,.slice none 0 0] 65)) wr.heap.size (Ad _) HB.out (Ah _ _) (lI wr));clear HW HPA HPR;by_cases hz:(Ie og rs).length<=65536
   ·have HE:Hid (PF=(Ie og rs,0)):=by
     show _=_;rw[HR.out,if_neg (fun e=>e HW0.out),if_neg (by omega)]
    rw[show decide ((Ie og rs).length<=65536)=true from decide_eq_true hz]at KP;generalize Ie og rs=LP at*;go_wp2_with fail;refine KP.out.mono ?_;rintro e w3 ⟨rfl,H3⟩;have HS:=Ac (RK wr.heap.size wr.heap.size LP w3 (H3.out.1 hz) (by omega));have HB3:=Ac (HB.out.trans (H3.out.2.mono HB.out.size));go_wp2_with fail;refine HS.out.mono ?_;rintro e w4 ⟨rfl,H4⟩;have HB4:=Ac (HB3.out.trans (H4.out.mono HB.out.size));go_wp2_with fail;go_ret2;exact⟨by rw[HE.out];rfl,HB4.out⟩
   ·have HE:Hid (PF=([],3)):=by
     show _=_;rw[HR.out,if_neg (fun e=>e HW0.out),if_pos (by omega)]
    rw[show decide ((Ie og rs).length<=65536)=false from decide_eq_false hz]at KP;generalize Ie og rs=LP at*;go_wp2_with fail;refine KP.out.mono ?_;rintro e w3 ⟨rfl,H3⟩;have HB3:=Ac (HB.out.trans (H3.out.2.mono HB.out.size));go_wp2_with fail;go_ret2;exact⟨by rw[HE.out];rfl,HB3.out⟩
structure FwR(r:Rec):Prop where
 o:r.ow.length<=130
 s:Sy r.d
 r:r.d.raw.length<=2000
def LmQ(rs:List Rec)(w:Ab)(e:Ending)(w':Ab):Prop:=∃b,e=.returned (.bool b)/\Hid (b=false->(∀r∈rs,FwR r)/\rs.length<=40)/\Hid (Blw w w')
theorem Qv{rs:List Rec}{w w':Ab}{e:Ending}(he:e=.returned (.bool true))(hb:Blw w w'):LmQ rs w e w':=⟨true,he,(fun h=>(by cases h)),hb⟩
theorem vE{rs:List Rec}{w w':Ab}{e:Ending}(he:e=.returned (.bool false))(hs:(∀r∈rs,FwR r)/\rs.length<=40)(hb:Blw w w'):LmQ rs w e w':=⟨false,he,fun _=>hs,hb⟩
theorem Xx(x:Sl)(rs:List Rec)(w:Ab)(hl:LRd w x rs):Ag Aa 6 #[.slice x.a x.n x.c] w (LmQ rs w):=by
 obtain⟨xa,xn,xc⟩:=x;have hlen:rs.length=xn:=hl.len;have h63:xn<=9223372036854775807:=hl.n63;have HLL:=Ac hl;have HLEN:=Ac hlen;simp only;clear hl hlen;go_enter Tryz.func6,Tryz.ntmps6;go_wp2_with fail;go_loopw [3] (fun v wr=>∃k:Nat,k<=xn/\v=.int .i64 (k:Int)/\Hid (Blw w wr)/\Hid (∀r∈rs.take k,FwR r)) (fun v _=>xn - (intOf v).toNat)
 case atStart=>exact⟨0,Aw _,rfl,Ae _ _,(by intro r hr;simp at hr)⟩
 case round=>
  obtain⟨k,hk,rfl,HB,HF⟩:=hrel;by_cases hlt:k<xn
  ·have hlt':(k:Int)<(xn:Int):=by omega
   have hkr:k<rs.length:=by rw[HLEN.out];exact hlt
   obtain⟨lb,lo,hla,hll,x,hx0,hxr0⟩:=HLL.out.rd.at k hkr;simp only at hla;subst hla;have HX:Hid (∀W,Blw w W->∀j,j<8->W.cell? ⟨lb,lo+k*8+j,none⟩=(AV x rs[k])[j]?):=fun W hW j hj=>(hW.cell (p:=⟨lb,lo+k*8+j,none⟩) hll).trans (hx0 j hj)
   obtain⟨r,hrk⟩:∃r,rs[k]=r:=⟨_,rfl⟩;rw[hrk]at HX hxr0;have htk:rs.take (k+1)=rs.take k++[r]:=by rw[AH hkr,hrk]
   have HNEXT:Hid (FwR r->∀r'∈rs.take (k+1),FwR r'):=fun h r' hr'=>by
    rw[htk]at hr';obtain h1|h1:=AG.1 hr'
    ·exact HF.out r' h1
    ·rw[Bc]at h1;subst h1;exact h
   have KL:=Ac (fun W (hW:Blw w W)=>aR x.d r.d W (hxr0.2.below hW));have hol:=hxr0.1.len;have hrl:=hxr0.2.h4.len;have hll2:∀W,Blw w W->lb<W.heap.size:=fun W hW=>Ap hll hW.size
   have HFW:Hid (x.o.n<=130->Sy r.d->x.d.p4.n<=2000->FwR r):=fun h1 h2 h3=>⟨by rw[hol];exact h1,h2,by rw[hrl];exact h3⟩
   obtain⟨⟨oa1,on1,oc1⟩,⟨⟨a1,n1,k1⟩,⟨a2,n2,k2⟩,⟨a3,n3,k3⟩,⟨a4,n4,k4⟩⟩⟩:=x;obtain⟨ow,t,cl,tt,d⟩:=r;simp only at KL HFW;have hcell:∀W,Blw w W->W.cell? ⟨lb,lo+k*8,none⟩=some (.slice oa1 on1 oc1)/\W.cell? ⟨lb,lo+k*8+4,none⟩=some (.slice a1 n1 k1)/\W.cell? ⟨lb,lo+k*8+5,none⟩=some (.slice a2 n2 k2)/\W.cell? ⟨lb,lo+k*8+6,none⟩=some (.slice a3 n3 k3)/\W.cell? ⟨lb,lo+k*8+7,none⟩=some (.slice a4 n4 k4):=fun W hW=>⟨HX.out W hW 0 (by omega),HX.out W hW 4 (by omega),HX.out W hW 5 (by omega),HX.out W hW 6 (by omega),HX.out W hW 7 (by omega)⟩
   obtain⟨c0,c4,c5,c6,c7⟩:=hcell wr HB.out;have hlw:=hll2 wr HB.out;have HCC:=Ac hcell;have HLW:=Ac hll2;clear hx0 hxr0 hrk htk HX hcell hll2 hol hrl hll HF;by_cases h1:130<on1
   ·have h1':(130:Int)<(on1:Int):=by omega
    go_wp2_with fail;go_ret;exact Qv rfl HB.out
   ·have h1':¬ (130:Int)<(on1:Int):=by omega
    go_wp2_with fail;refine(KL.out wr HB.out).mono ?_;rintro e w2 ⟨bb,rfl,hsm,hb2⟩;have HB2:=Ac (HB.out.trans (hb2.mono HB.out.size));have HSM:=Ac hsm;clear hsm hb2 c0 c4 c5 c6 c7;obtain⟨c0,c4,c5,c6,c7⟩:=HCC.out w2 HB2.out;have hlw2:=HLW.out w2 HB2.out;cases bb with
    |true=>
     go_wp2_with fail;go_ret;exact Qv rfl HB2.out
    |false=>
     by_cases h2:2000<n4
     ·have h2':(2000:Int)<(n4:Int):=by omega
      go_wp2_with fail;go_ret;exact Qv rfl HB2.out
     ·have h2':¬ (2000:Int)<(n4:Int):=by omega
      have HN2:Hid (∀r'∈rs.take (k+1),FwR r'):=HNEXT.out (HFW.out (by omega) (HSM.out rfl) (by omega));go_wp2_with fail;exact⟨⟨k+1,by omega,by go_num,HB2,HN2⟩,by simp[intOf];omega⟩
  ·obtain rfl:k=xn:=by omega
   have hge:¬ (k:Int)<(k:Int):=by omega
   have HFA:Hid (∀r∈rs,FwR r):=by
    have h:=HF.out;rwa [Al (by rw[HLEN.out];omega)]at h
   by_cases h4:40<k
   ·have h4':(40:Int)<(k:Int):=by omega
    go_wp2_with fail;go_ret;exact Qv rfl HB.out
   ·have h4':¬ (40:Int)<(k:Int):=by omega
    go_wp2_with fail;go_ret;exact vE rfl ⟨HFA.out,by rw[HLEN.out];omega⟩ HB.out
def Wi(rs:List Rec):Bool:=rs.all fun r=>decide (r.d.ts.length<=55)
theorem aL(x:Sl)(rs:List Rec)(w:Ab)(hl:LRd w x rs):Ag Aa 18 #[.slice x.a x.n x.c] w fun e w'=>e=.returned (.bool (Wi rs))/\w'=w:=by
 obtain⟨xa,xn,xc⟩:=x;have hlen:rs.length=xn:=hl.len;have h63:xn<=9223372036854775807:=hl.n63;have HLL:=Ac hl;have HLEN:=Ac hlen;obtain⟨FB,hFB⟩:∃FB,Wi rs=FB:=⟨_,rfl⟩;have HFB:=Ac hFB;rw[hFB];simp only;clear hl hlen hFB;go_enter Tryz.func18,Tryz.ntmps18;go_wp2_with fail;go_loopw [3] (fun v wr=>wr=w/\∃k:Nat,k<=xn/\v=.int .i64 (k:Int)/\Hid (∀r∈rs.take k,r.d.ts.length<=55)) (fun v _=>xn - (intOf v).toNat)
 case atStart=>exact⟨rfl,0,Aw _,rfl,(by intro r hr;simp at hr)⟩
 case round=>
  obtain⟨hwr,k,hk,rfl,HF⟩:=hrel;subst hwr;by_cases hlt:k<xn
  ·have hlt':(k:Int)<(xn:Int):=by omega
   have hkr:k<rs.length:=by rw[HLEN.out];exact hlt
   obtain⟨lb,lo,hla,hll,x,hx0,hxr0⟩:=HLL.out.rd.at k hkr;simp only at hla;subst hla;obtain⟨r,hrk⟩:∃r,rs[k]=r:=⟨_,rfl⟩;have hrm:r∈rs:=by rw[<- hrk];exact AU hkr
   rw[hrk]at hx0 hxr0;have htk:rs.take (k+1)=rs.take k++[r]:=by rw[AH hkr,hrk]
   have htl:=hxr0.2.h3.len;obtain⟨⟨oa1,on1,oc1⟩,⟨⟨a1,n1,k1⟩,⟨a2,n2,k2⟩,⟨a3,n3,k3⟩,⟨a4,n4,k4⟩⟩⟩:=x;obtain⟨ow,t,cl,tt,d⟩:=r;simp only at htl;have c6:wr.cell? ⟨lb,lo+k*8+6,none⟩=some (.slice a3 n3 k3):=hx0 6 (by omega);have HNO:Hid (55<n3->FB=false):=fun h=>by
    rw[<- HFB.out];unfold Wi;rw[List.all_eq_false];exact⟨_,hrm,by simp only[decide_eq_true_eq];omega⟩
   have HYES:Hid (n3<=55->∀r∈rs.take (k+1),r.d.ts.length<=55):=fun h r' hr'=>by
    rw[htk]at hr';obtain h1|h1:=AG.1 hr'
    ·exact HF.out r' h1
    ·rw[Bc]at h1;subst h1;show d.ts.length<=55;omega
   clear hx0 hxr0 hrk htk htl hrm HF;by_cases h1:55<n3
   ·have h1':(55:Int)<(n3:Int):=by omega
    have HFF:Hid (FB=false):=HNO.out h1;go_wp2_with fail;go_ret;exact⟨by rw[HFF.out];rfl,rfl⟩
   ·have h1':¬ (55:Int)<(n3:Int):=by omega
    have HY:Hid (∀r∈rs.take (k+1),r.d.ts.length<=55):=HYES.out (by omega);go_wp2_with fail;exact⟨⟨by first|rfl|trivial,k+1,by omega,by go_num,HY⟩,by simp[intOf];omega⟩
  ·obtain rfl:k=xn:=by omega
   have hge:¬ (k:Int)<(k:Int):=by omega
   have HFF:Hid (FB=true):=by
    show _=_;rw[<- HFB.out];unfold Wi;rw[AO];intro r hr;have h:=HF.out;rw[Al (by rw[HLEN.out];omega)]at h;exact decide_eq_true (h r hr)
   go_wp2_with fail;go_ret;exact⟨by rw[HFF.out];rfl,rfl⟩
theorem tA{rs:List Rec}(h:Wi rs=true):∀r∈rs,r.d.ts.length<=55:=fun r hr=>by
 unfold Wi at h;exact of_decide_eq_true (AO.1 h r hr)
structure RtB(r:Rec):Prop where
 t:r.t<65536
 cl:r.cl<65536
 tt:r.tt<4294967296
 b:∀z∈r.d.raw,0<=z/\z<=255
theorem sF{r:Rec}(h:RtB r)(hf:FwR r)(h5:r.d.ts.length<=55):InR r:=⟨h.t,h.cl,h.b,h5,hf.s.tl,hf.r⟩
theorem tO{r:Rec}(h:RtB r)(hf:FwR r)(h5:r.d.ts.length<=55):PrI r:=by
 refine⟨hf.s.bd,h.t,h.cl,h.tt,by have:=hf.o;omega,?_,fun hw=>?_⟩
 ·unfold Gw;split
  ·rename_i hc;have:=Rm r.t r.d hc h5;omega
  ·simp
 ·have:=VD (rN hw (sF h hf h5)) hf.s.tl hf.r;omega
end Go.Proofs.YtoppdmlmhigogaaGreatDoor
