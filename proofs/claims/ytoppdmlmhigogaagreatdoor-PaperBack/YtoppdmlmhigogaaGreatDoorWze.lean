/- Texts laid together, in parts: Hh Ga Gd Ge Nxl Nxm Nxr Hj Hk Hl Hm Hp. -/
import Derived.Test.YtoppdmlmhigogaaGreatDoorWzd
import Derived.Deep.RegionLaw
import Derived.Deep.QuietTactic
import Derived.BigQuiet
set_option maxRecDepth 100000
set_option maxHeartbeats 8000000
set_option linter.unusedVariables false
set_option linter.unusedSimpArgs false
open Array renaming getElem?_eq_some_iff → As
open Bool renaming and_eq_true → AA
open Go renaming World → Ab, Calls → Ag, Value → Ao, heap_alloc_new → Au, TypeId → BH, maxLen → Gi
open Go.IntKind renaming wrap_i64 → BZ, i64 → CV
open Go.Proofs.Tryz renaming prog → Aa, underlying23 → BV, underlying22 → Dy
open Go.Region renaming wanted → FQ
open Go.RowKit.Below renaming refl → Ae, heap_alloc → EP
open Go.Value renaming ownBlock → Bm, slice → Ce
open Go.World renaming cell? → Az, cell?_of_block → AE, frozen? → Dv
open Go.World.grownBy renaming refl → DU
open Int renaming toNat_natCast → BM
open List renaming length_append → Af, take_of_length_le → Al, getD_eq_getElem?_getD → Am, cons_append → Ay, eq_nil_of_length_eq_zero → AC, getElem?_eq_getElem → AF, mem_append → AG, take_succ_eq_append_getElem → AH, length_cons → AP, append_assoc → AR, getElem_mem → AU, mem_singleton → Bc, mem_of_mem_take → Be, length_drop → Bg, map_cons → Bh, take_append_of_le_length → Bs, take_append_drop → BE, length_singleton → Ch, flatMap_cons → Cn, length_take → CC, getElem?_take_of_lt → CK, mem_of_mem_drop → CT, length_nil → CZ, map_nil → Df, flatMap_append → Dm, drop_eq_nil_of_le → DH, drop_eq_getElem_cons → El, length → FH
open Nat renaming le_refl → Ad, le_trans → Aj, lt_of_lt_of_le → Ap, zero_le → Aw, zero_add → Fg
open Option.some renaming inj → Bf
namespace Go.Proofs.YtoppdmlmhigogaaGreatDoor
open Go.ChangeShapes Go.WideShapes Go.ChangeAt Go.RowKit
def ptB(k:Nat)(l:List ByteArray):List Int:=nby (l.take k)++(l.drop k).flatMap Ai
theorem UJ(l:List ByteArray):ptB (l.length - 0) l=nby l:=by unfold ptB;simp
theorem rR(t:Nat)(d:Dat)(h:Ir t d=true):d.ns.flatMap nmB=(d.ns.take (fs t).nf).flatMap nmB++(d.ns.drop (fs t).nf).flatMap nmB/\(fs t).nf<=d.ns.length/\((fs t).nf=0∨(fs t).nf=d.ns.length)/\(fs t).wd=(shp t).wd/\(fs t).tl<=d.ts.length/\
  (d.ns.take (fs t).nf).flatMap nmB++d.us.flatMap (fun n=>BR n (fs t).wd)++(d.ns.drop (fs t).nf).flatMap nmB++ptB (d.ts.length - (fs t).tl) d.ts++d.raw=CD t d:=by
 refine⟨by conv=>lhs;rw[<- BE (fs t).nf d.ns,Dm],?_⟩;obtain⟨fns,fus,fts,ft1,fraw,fun_,ftx,ftg⟩:=(Ue t d).1 h;obtain⟨ns,us,ts,raw⟩:=d;simp only at fns fus fts ft1 fraw fun_ ftx ftg ⊢;obtain⟨ht,e⟩|⟨ht,e⟩|⟨ht,e⟩|⟨ht,e⟩|⟨ht,e⟩|⟨ht,e⟩|⟨ht,e⟩|⟨ht,e⟩|⟨ht,e⟩:=Ew t
 focus
  subst ht;have hts:ts=[]:=BJ (by have e2:(shp 1).nt=0:=rfl;omega)
 rotate_left
 focus
  subst ht;have hts:ts=[]:=BJ (by have e2:(shp 28).nt=0:=rfl;omega)
 rotate_left
 focus
  obtain rfl|rfl|rfl:=ht
  focus
   have hts:ts=[]:=BJ (by have e2:(shp 2).nt=0:=rfl;omega)
  rotate_left
  focus
   have hts:ts=[]:=BJ (by have e2:(shp 5).nt=0:=rfl;omega)
  rotate_left
  focus
   have hts:ts=[]:=BJ (by have e2:(shp 12).nt=0:=rfl;omega)
  rotate_left
 rotate_left 3
 ·subst ht;have hts:ts=[]:=BJ (by have e2:(shp 6).nt=0:=rfl;omega);have hrw:raw=[]:=BJ (by have e2:(shp 6).nr=0:=rfl;omega);have hns:ns.length=2:=fns;subst hts;subst hrw;rw[e];refine⟨by simp;omega,.inr (by simp;omega),rfl,by simp,?_⟩;simp only;rw[Al (by omega),DH (by omega)];simp[CD,ptB,nby]
 focus
  subst ht;have hts:ts=[]:=BJ (by have e2:(shp 15).nt=0:=rfl;omega)
 rotate_left
 focus
  subst ht;have hts:ts=[]:=BJ (by have e2:(shp 33).nt=0:=rfl;omega)
 rotate_left
 ·subst ht;rw[e];simp[CD,tsB,ptB,nby,shp]
 ·subst ht;have h2:ts.length=2:=by have e2:(shp 257).nt=2:=rfl;omega
  obtain _|⟨a,_|⟨b,_|⟨c,ts⟩⟩⟩:=ts
  ·simp at h2
  ·simp at h2
  ·rw[e];simp[CD,tsB,ptB,nby,shp]
  ·simp at h2
 ·obtain⟨h1,h2,h3,h4,h5,h6,h7,h8,h9,h10⟩:=ht;have es':shp t=⟨0,0,0,-1,0⟩:=by unfold shp;simp[h1,h2,h3,h4,h5,h6,h7,h8,h9,h10]
  rw[es']at fts fns fus;have hts:ts=[]:=BJ (by simp only at fts;omega);subst hts;rw[e,es'];simp[CD,tsB,ptB,nby,h6,es']
 all_goals
  subst hts;rw[e];simp[CD,tsB,ptB,nby,shp]
theorem RdV.of_blocks{w w':Ab}{a:Option Addr}{xs:List Ao}(h:RdV w a xs)(hs:w.heap.size<=w'.heap.size)(hb:∀b o,a=some ⟨b,o,none⟩->w'.heap[b]?=w.heap[b]?):RdV w' a xs:=by
 obtain h|⟨b,o,h1,h2,h3⟩:=h
 ·exact .inl h
 ·refine .inr ⟨b,o,h1,Ap h2 hs,fun i hi=>?_⟩;rw[<- h3 i hi];exact AE (hb b o h1)
def BD(w:Ab)(D:Nat)(x:DA):Prop:=w.heap[D]?=some (.cells #[.slice x.p1.a x.p1.n x.p1.c,.slice x.p2.a x.p2.n x.p2.c,.slice x.p3.a x.p3.n x.p3.c,.slice x.p4.a x.p4.n x.p4.c] 41 (0,0))
theorem BD.lt{w:Ab}{D:Nat}{x:DA}(h:BD w D x):D<w.heap.size:=(As.1 h).1
theorem BD.same{w w':Ab}{D:Nat}{x:DA}(h:BD w D x)(hb:w'.heap[D]?=w.heap[D]?):BD w' D x:=hb.trans h
theorem BD.box{w:Ab}{D:Nat}{x:DA}(h:BD w D x):Eh w D x:=by
 have h':w.heap[D]?=_:=h;refine⟨?_,?_,?_,?_,h.lt⟩ <;> simp[Az,h']
theorem BD.fz{w:Ab}{D:Nat}{x:DA}(h:BD w D x)(i:Nat):w.frozen? ⟨D,i,none⟩=false:=by
 have h':w.heap[D]?=_:=h;simp[Dv,h']
theorem BD.set3{w:Ab}{D:Nat}{x:DA}(h:BD w D x)(s:Sl):BD (w.setCell ⟨D,3,none⟩ (.slice s.a s.n s.c)) D ⟨x.p1,x.p2,x.p3,s⟩:=(AD h 3 _).trans (by simp)
def BU(B:Nat)(w:Ab)(s:Sl)(nm:List ByteArray):Prop:=∃ys,BF B w (.slice s.a s.n s.c) nm.length ys 1000000000000/\ys.take nm.length=nm
theorem BU.keep{B:Nat}{w w':Ab}{s:Sl}{nm:List ByteArray}(h:BU B w s nm)(hb:∀j,B<=j->j<w.heap.size->(∃zs,Co w j 9 zs)->w'.heap[j]?=w.heap[j]?):BU B w' s nm:=by
 obtain⟨ys,⟨h1,h2⟩,h3⟩:=h;refine⟨ys,⟨?_,h2⟩,h3⟩;obtain h1|⟨g,e,hg,hblk,hn⟩:=h1
 ·exact .inl h1
 ·exact .inr ⟨g,e,hg,hblk.same (hb g hg hblk.lt ⟨_,hblk⟩),hn⟩
theorem BU.rd{B:Nat}{w:Ab}{s:Sl}{nm:List ByteArray}(h:BU B w s nm):TRd w s nm:=by
 obtain⟨ys,h1,h3⟩:=h;obtain⟨ao,e,hnil⟩:=h1.shape;have hle:=h1.le;obtain⟨sa,sn,sc⟩:=s;simp only at e h1;injection e with e1 e2 e3
 subst e1 e2 e3;have hrd:=h1.rd nm.length;rw[h3]at hrd;refine⟨hrd,rfl,⟨hle.1,by have:=hle.2;simp only[Gi]at this;exact this⟩,hnil,fun x hx=>?_⟩;have:x∈ys:=by rw[<- h3]at hx;exact Be hx
 have:=h1.2 x this;omega
def Dk(B:Nat)(w:Ab)(v:Ao)(nss:List (List ByteArray)):Prop:=
 ∃xs,EI B w 23 v nss.length xs/\∀i (hi:i<nss.length),∃s:Sl,xs[i]?=some (.slice s.a s.n s.c)/\BU B w s nss[i]
theorem Dk.nil(B:Nat)(w:Ab):Dk B w (.slice none 0 0) []:=⟨[],EI.nil B w 23,fun i hi=>absurd hi (by simp)⟩
theorem Dk.keep{B:Nat}{w w':Ab}{v:Ao}{nss:List (List ByteArray)}(h:Dk B w v nss)(hb:∀j,B<=j->j<w.heap.size->w'.heap[j]?=w.heap[j]?):Dk B w' v nss:=by
 obtain⟨xs,h1,h2⟩:=h;refine⟨xs,h1.keep (fun j e hj=>hb j (h1.lt j e) hj),fun i hi=>?_⟩;obtain⟨s,e1,e2⟩:=h2 i hi;exact⟨s,e1,e2.keep (fun j h1 h2 _=>hb j h1 h2)⟩
theorem Dk.rd{B:Nat}{w:Ab}{s:Sl}{nss:List (List ByteArray)}(h:Dk B w (.slice s.a s.n s.c) nss):NRd w s nss:=by
 obtain⟨a,n,c⟩:=s;obtain⟨xs,h1,h2⟩:=h;obtain⟨e,e0,rfl⟩|⟨g,e,hg,hblk,hn,hm⟩:=h1
 ·injection e with e1 e2 e3
  simp only at e1 e2 e3;subst e1 e2 e3;exact⟨.inl (AC e0),e0,⟨Ad _,Aw _⟩,fun _=>rfl⟩
 ·injection e with e1 e2 e3
  simp only at e1 e2 e3;subst e1 e2 e3;refine⟨.inr ⟨g,0,rfl,hblk.lt,fun i hi=>?_⟩,rfl,⟨hn,by simp only[Gi]at hm;exact hm⟩,by simp⟩;obtain⟨s,e1,e2⟩:=h2 i hi;refine⟨s,?_,e2.rd⟩;rw[Fg,hblk.cell i (by omega)];rw[AF (by omega)]at e1;exact e1
theorem vW:Li Aa 37 23 (.slice none 0 0) 24:=⟨Tryz.underlying37,by kernel_rfl,rfl⟩
theorem lM{w:Ab}{ops:Array Oper}{rest:List Oper}{o:Oper}{a:Act}{Q:Exit->Act->Ab->Prop}(hgd:o.guard=none)(s x:Operand)
  (ho:o.op=.call { callee:=.builtin .append,args:=#[s,x],argTypes:=#[37,37] }) (B:Nat) (v:Ao) (nss:List (List ByteArray)) (hs:a.eval s=v) (hown:Dk B w v nss)
  (ao:Addr) (hx:a.eval x=.slice (some ao) 1 1) (t:Sl) (nm:List ByteArray) (hr:RdV w (some ao) [.slice t.a t.n t.c]) (ht:BU B w t nm) (hn:nss.length<=1000) (hB:B<=w.heap.size)
  (h:∀(t':Sl) w',Hid (Dk B w' (.slice t'.a t'.n t'.c) (nss++[nm]))->Hid (w.grownBy w' v.ownBlock/\∀j,v.ownBlock=some j->B<=j)->wpList Aa ops Q rest (a.put o.dst (.slice t'.a t'.n t'.c)) w'):wpList Aa ops Q (o::rest) a w:=by
 obtain⟨xs,h1,h2⟩:=hown;refine Gn vW w hgd s x 37 ho B v nss.length xs hs h1 _ 1 [.slice t.a t.n t.c] hx (NE Tryz.underlying37 hr rfl (by intro u hu;simp at hu;subst hu;rfl)) (by omega) (by simp only[Gi];omega) hB ?_;intro v' w' xs' q1 q2 q3 q4;obtain⟨ao',rfl,_⟩:=q1.out.shape;have hle:=q1.out.le;refine h ⟨ao',nss.length+1,xs'.length⟩ w' ⟨xs',by simpa using q1.out,fun i hi=>?_⟩ ⟨q3,h1.lt⟩;have hkb:∀j,B<=j->j<w.heap.size->(∃zs,Co w j 9 zs)->w'.heap[j]?=w.heap[j]?:=by
  rintro j _ hj ⟨zs,hz⟩;refine q3.block j hj (fun e=>?_);obtain⟨e3,_⟩|⟨g,e3,_,hblk,_⟩:=h1
  ·rw[e3]at e;cases e
  ·rw[e3]at e;have e2:g=j:=(Bf e).symm;subst e2;have hh:w.heap[g]?=some (.cells xs.toArray 23 (0,0)):=hblk;have hh':w.heap[g]?=some (.cells zs.toArray 9 (0,0)):=hz;rw[hh]at hh';injection hh' with hh'
   injection hh' with _ hh'
   exact absurd hh' (by decide)
 have hx':xs'.take (nss.length+1)=xs.take nss.length++[.slice t.a t.n t.c]:=q2.out;have hl:(xs.take nss.length).length=nss.length:=by have:=h1.le.1;rw[CC];omega
 rw[Af,Ch]at hi;by_cases hlt:i<nss.length
 ·obtain⟨s',e1,e2⟩:=h2 i hlt;refine⟨s',?_,?_⟩
  ·have h3:(xs'.take (nss.length+1))[i]?=(xs.take nss.length++[.slice t.a t.n t.c])[i]?:=by rw[hx']
   rw[CK (by omega),List.getElem?_append_left (by omega),CK hlt,e1]at h3;exact h3
  ·rw[List.getElem_append_left hlt];exact e2.keep hkb
 ·have hie:i=nss.length:=by omega
  subst hie;refine⟨t,?_,?_⟩
  ·have h3:(xs'.take (nss.length+1))[nss.length]?=(xs.take nss.length++[.slice t.a t.n t.c])[nss.length]?:=by rw[hx']
   rw[CK (by omega),List.getElem?_append_right (by omega),hl]at h3;simpa using h3
  ·rw[List.getElem_append_right (by omega)];simp;exact ht.keep hkb
theorem uQ(l:List Int):∀(n p:Nat) (out o:List ByteArray) (q:Nat),l.length - p<=n->rgo l p out=some (o,q)->q<=l.length:=by
 intro n;induction n with
 |zero=>
  intro p out o q hn h;rw[MI l p out (by omega)]at h;cases h
 |succ n ih=>
  intro p out o q hn h;by_cases h1:p<l.length/\l.getD p 0<=63
  ·by_cases h0:l.getD p 0=0
   ·rw[Kc l p out h1 h0]at h;cases h;omega
   ·by_cases h2:(l.length:Int) - ((p:Int)+1)<l.getD p 0
    ·rw[MD l p out h1 h0 h2]at h;cases h
    ·rw[Ka l p out h1 h0 h2]at h;exact ih _ _ _ _ (by omega) h
  ·rw[MI l p out h1]at h;cases h
theorem iX{zs:List Int}{p:Nat}{o:List ByteArray}{q:Nat}(h:RZ zs p=some (o,q)):q<=zs.length/\nck o=0/\p<zs.length/\Dt zs p=(o,(q:Int),0):=by
 unfold RZ at h;split at h
 ·rename_i hp
  split at h
  ·rename_i o' q' hr
   split at h
   ·rename_i hk
    cases h;refine⟨uQ zs _ _ _ _ _ (Ad _) hr,hk,hp,?_⟩;unfold Dt;rw[if_neg (by omega),BM,hr];simp[hk]
   ·cases h
  ·cases h
 ·cases h
abbrev Bo:DA:=⟨⟨none,0,0⟩,⟨none,0,0⟩,⟨none,0,0⟩,⟨none,0,0⟩⟩
abbrev WD3(w:Ab)(b:Nat)(a:DA):Ab:=((w.setCell ⟨b,0,none⟩ (.slice a.p1.a a.p1.n a.p1.c)).setCell ⟨b,1,none⟩ (.slice a.p2.a a.p2.n a.p2.c)).setCell ⟨b,2,none⟩ (.slice a.p3.a a.p3.n a.p3.c)
theorem BD.four{w:Ab}{R:Nat}{y:DA}(h:BD w R y)(x:DA):BD (((WD3 w R x).setCell ⟨R,3,none⟩ (.slice x.p4.a x.p4.n x.p4.c)).drew) R x:=
 (AD (AD (AD (AD h 0 _) 1 _) 2 _) 3 _).trans (by simp)
theorem mF{B:Nat}{w:Ab}{s:Sl}{zs ys:List Int}(h:Own B w (.slice s.a s.n s.c) zs.length ys)(ht:ys.take zs.length=zs):BRd w s zs:=by
 obtain⟨sa,sn,sc⟩:=s;obtain⟨ao,e,hoa⟩:=h.addr;injection e with e1 e2 e3
 simp only at e1 e2 e3;subst e1 e2 e3;have hrd:=hoa.rdTake zs.length;rw[ht]at hrd;refine⟨hrd,rfl,?_,?_⟩
 ·obtain⟨_,h0,h1⟩|⟨g,_,_,_,h1,h2⟩:=h
  ·subst h1;simp[h0]
  ·exact⟨h1,by simp only[Gi]at h2;exact h2⟩
 ·intro hn;obtain⟨_,_,h1⟩|⟨g,e,_⟩:=h
  ·subst h1;rfl
  ·simp only at hn e;rw[hn]at e;cases e
def Ea(B:Nat)(w:Ab)(s:Sl)(us:List Nat):Prop:=∃xs,EI B w 36 (.slice s.a s.n s.c) us.length xs/\xs.take us.length=uv us/\(∀u∈us,u<=4294967295)/\∀v∈xs,∃z:Int,v=.int .u32 z/\0<=z/\z<=4294967295
def GO(B:Nat)(w:Ab)(s:Sl)(zs:List Int):Prop:=∃ys,Own B w (.slice s.a s.n s.c) zs.length ys/\ys.take zs.length=zs
def Dd(B:Nat)(w:Ab)(x:DA)(d:Dat):Prop:=Dk B w (.slice x.p1.a x.p1.n x.p1.c) d.ns/\Ea B w x.p2 d.us/\BU B w x.p3 d.ts/\GO B w x.p4 d.raw
theorem Ea.keep{B:Nat}{w w':Ab}{s:Sl}{us:List Nat}(h:Ea B w s us)(hb:∀j,B<=j->j<w.heap.size->w'.heap[j]?=w.heap[j]?):Ea B w' s us:=by
 obtain⟨xs,h1,h2⟩:=h;exact⟨xs,h1.keep (fun j e hj=>hb j (h1.lt j e) hj),h2⟩
theorem bG{B:Nat}{w w':Ab}{v:Ao}{n:Nat}{zs:List Int}(h:Own B w v n zs)(hb:∀j,B<=j->j<w.heap.size->w'.heap[j]?=w.heap[j]?):Own B w' v n zs:=by
 obtain h|⟨g,h1,h2,h3,h4⟩:=h
 ·exact .inl h
 ·exact .inr ⟨g,h1,h2,h3.same (hb g h2 h3.lt),h4⟩
theorem GO.keep{B:Nat}{w w':Ab}{s:Sl}{zs:List Int}(h:GO B w s zs)(hb:∀j,B<=j->j<w.heap.size->w'.heap[j]?=w.heap[j]?):GO B w' s zs:=by
 obtain⟨ys,h1,h2⟩:=h;exact⟨ys,bG h1 hb,h2⟩
theorem Dd.keep{B:Nat}{w w':Ab}{x:DA}{d:Dat}(h:Dd B w x d)(hb:∀j,B<=j->j<w.heap.size->w'.heap[j]?=w.heap[j]?):Dd B w' x d:=
 ⟨h.1.keep hb,h.2.1.keep hb,h.2.2.1.keep (fun j h1 h2 _=>hb j h1 h2),h.2.2.2.keep hb⟩
theorem Ea.rd{B:Nat}{w:Ab}{s:Sl}{us:List Nat}(h:Ea B w s us):URd w s us:=by
 obtain⟨xs,h1,h2,h3⟩:=h;obtain⟨sa,sn,sc⟩:=s;obtain⟨ao,e,hnil⟩:=h1.shape;have hle:=h1.le;injection e with e1 e2 e3
 simp only at e1 e2 e3;subst e1 e2 e3;have hrd:=h1.rd us.length;rw[h2]at hrd;exact⟨hrd,rfl,⟨hle.1,by have:=hle.2;simp only[Gi]at this;exact this⟩,hnil,h3.1⟩
theorem GO.rd{B:Nat}{w:Ab}{s:Sl}{zs:List Int}(h:GO B w s zs):BRd w s zs:=by
 obtain⟨ys,h1,h2⟩:=h;exact mF h1 h2
theorem Dd.rd{B:Nat}{w:Ab}{x:DA}{d:Dat}(h:Dd B w x d):DRd w x d:=⟨h.1.rd,h.2.1.rd,h.2.2.1.rd,h.2.2.2.rd⟩
theorem VV(B:Nat)(w:Ab):Ea B w ⟨none,0,0⟩ []:=⟨[],EI.nil B w 36,rfl,by simp,by simp⟩
theorem QD(B:Nat)(w:Ab):BU B w ⟨none,0,0⟩ []:=⟨[],BF.nil B w _,rfl⟩
theorem FT{P:Program}{t e:BH}{z:Ao}{bt:Nat}(T:Li P t e z bt){w:Ab}{ops:Array Oper}{o:Oper}{a:Act}{K:Act->Ab->Prop}{Q:Exit->Act->Ab->Prop}{E:Prop}(hgd:o.guard=none)(s x:Operand)(tx:BH)
  (ho:o.op=.call { callee:=.builtin .append,args:=#[s,x],argTypes:=#[t,tx] }) (B:Nat) (v:Ao) (n:Nat) (xs:List Ao) (hs:a.eval s=v) (hown:EI B w e v n xs)
  (xv:Ao) (m:Nat) (news:List Ao) (hx:a.eval x=xv) (hsrc:Src P 1 tx xv m news w) (hb:(n+m)*bt<=140737488355328) (h63:n+m<=Gi) (hB:B<=w.heap.size)
  (h:∀v' w' xs',Hid (EI B w' e v' (n+m) xs')->Hid (xs'.take (n+m)=xs.take n++news)->Hid (w.grownBy w' v.ownBlock)->Hid (∀Q:Ao->Prop,Q z->(∀u∈xs,Q u)->(∀u∈news,Q u)->∀u∈xs',Q u)->K (a.put o.dst v') w') :
  if FQ o (yielded ops a.tmps)=true then Oper.wp P o a w K Q else E:=by
 have hw:FQ o (yielded ops a.tmps)=true:=by simp[FQ,hgd]
 rw[if_pos hw];obtain⟨v',w',xs',hrun,h2,h3,h4,h5⟩:=IV T w B tx o.type v n xs hown xv m news hsrc hb h63 hB;unfold Oper.wp execOp;simp only[ho,resolve,invoke,builtin,Sem.run_bind,Sem.run_pure,Result.andThen_ok,List.map_toArray,Bh,Df,hs,hx,hrun];exact h v' w' xs' h2 h3 h4 h5.1
theorem tyU:Li Aa 38 36 (.int .u32 0) 4:=⟨Tryz.underlying38,by kernel_rfl,rfl⟩
theorem rS(w:Ab)(u:Int):RdV (w.alloc (.cells #[.int .u32 u] 36)) (some ⟨w.heap.size,0,none⟩) [.int .u32 u]:=by
 refine .inr ⟨w.heap.size,0,rfl,by simp,fun i hi=>?_⟩;have:i=0:=by simp at hi;omega
 subst this;unfold Az;rw[Au]
 rfl
theorem mS{w:Ab}{ops:Array Oper}{o:Oper}{a:Act}{K:Act->Ab->Prop}{Q:Exit->Act->Ab->Prop}{E:Prop}(hgd:o.guard=none)(s x:Operand)
  (ho:o.op=.call { callee:=.builtin .append,args:=#[s,x],argTypes:=#[38,38] }) (B:Nat) (s2:Sl) (us:List Nat) (hs:a.eval s=.slice s2.a s2.n s2.c) (hown:Ea B w s2 us)
  (ao:Addr) (hx:a.eval x=.slice (some ao) 1 1) (u:Nat) (hr:RdV w (some ao) [.int .u32 (u:Int)]) (hu:u<=4294967295) (hn:us.length<=1000) (hB:B<=w.heap.size)
  (h:∀(t':Sl) w',Hid (Ea B w' t' (us++[u]))->Hid (w.grownBy w' (Bm (.slice s2.a s2.n s2.c))/\∀j,(Bm (.slice s2.a s2.n s2.c))=some j->B<=j)->K (a.put o.dst (.slice t'.a t'.n t'.c)) w') :
  if FQ o (yielded ops a.tmps)=true then Oper.wp Aa o a w K Q else E:=by
 obtain⟨xs,h1,h2,h3⟩:=hown;refine FT tyU hgd s x 38 ho B _ us.length xs hs h1 _ 1 [.int .u32 (u:Int)] hx (NE Tryz.underlying38 hr rfl (by intro v hv;simp at hv;subst hv;rfl)) (by omega) (by simp only[Gi];omega) hB ?_;intro v' w' xs' q1 q2 q3 q4;obtain⟨ao',rfl,_⟩:=q1.out.shape;refine h ⟨ao',us.length+1,xs'.length⟩ w' ⟨xs',by simpa using q1.out,?_,?_,q4.out _ ⟨0,rfl,by omega,by omega⟩ h3.2 (by intro v hv;simp at hv;subst hv;exact⟨u,rfl,by omega,by omega⟩)⟩ ⟨q3.out,h1.lt⟩
 ·have:=q2.out;rw[h2]at this;simpa[uv] using this
 ·intro v hv;simp only[AG,Bc]at hv;obtain hv|rfl:=hv
  ·exact h3.1 v hv
  ·exact hu
def pgo(l:List Int)(p:Nat)(out:List ByteArray):List ByteArray × Option Nat:=
 if h:p<l.length then
  if l.getD p 0<=0 then(out,some (p+1))
  else if (p:Int)+1+l.getD p 0<=l.length then pgo l (p+1+(l.getD p 0).toNat) (out++[lb ((l.drop (p+1)).take (l.getD p 0).toNat)])
  else(out++[lb []],none)
 else(out,none)
termination_by l.length - p
decreasing_by omega
def aft(l:List Int)(st:Option Nat)(z:Int)(out:List ByteArray):List ByteArray × Option Nat:=
 if z<=0 then(out,st) else match st with
  |none=>(out,none)
  |some p=>if (p:Int)+z<=l.length then pgo l (p+z.toNat) (out++[lb ((l.drop p).take z.toNat)]) else(out++[lb []],none)
theorem fF(l:List Int)(p:Nat)(h:p<l.length):(l.drop p).take 1=[l.getD p 0]:=by
 rw[El h,Am,AF h]
 rfl
theorem kU(l:List Int)(p:Nat)(h:p<l.length):tk l (some p) 1=[l.getD p 0]/\mv l.length (some p) 1=some (p+1)/\val (tk l (some p) 1)=l.getD p 0:=by
 have e:tk l (some p) 1=[l.getD p 0]:=by
  unfold tk;simp only;rw[if_pos ⟨by omega,by omega⟩];exact fF l p h
 refine⟨e,?_,by rw[e];simp[val]⟩;unfold mv;simp only;rw[if_pos ⟨by omega,by omega⟩]
 rfl
theorem WS(l:List Int)(p:Nat)(h:¬ p<l.length):tk l (some p) 1=[]/\mv l.length (some p) 1=none/\val (tk l (some p) 1)=0:=by
 have e:tk l (some p) 1=[]:=by
  unfold tk;simp only;rw[if_neg (by omega)]
 refine⟨e,?_,by rw[e];rfl⟩;unfold mv;simp only;rw[if_neg (by omega)]
theorem YR(l:List Int)(p:Nat)(out:List ByteArray):pgo l p out=aft l (mv l.length (some p) 1) (val (tk l (some p) 1)) out:=by
 by_cases h:p<l.length
 ·obtain⟨_,e2,e3⟩:=kU l p h;rw[e2,e3,pgo,dif_pos h];unfold aft;by_cases hz:l.getD p 0<=0
  ·rw[if_pos hz,if_pos hz]
  ·rw[if_neg hz,if_neg hz];simp only[Int.natCast_add,Int.natCast_one]
 ·obtain⟨_,e2,e3⟩:=WS l p h;rw[e2,e3,pgo,dif_neg h]
  rfl
theorem jP(l:List Int)(p:Nat)(z:Int)(out:List ByteArray)(hz:0<z):aft l (some p) z out=aft l (mv l.length (mv l.length (some p) z) 1) (val (tk l (mv l.length (some p) z) 1)) (out++[lb (tk l (some p) z)]):=by
 by_cases hf:(p:Int)+z<=l.length
 ·have e1:mv l.length (some p) z=some (p+z.toNat):=by unfold mv;simp only;rw[if_pos ⟨by omega,hf⟩]
  have e2:tk l (some p) z=(l.drop p).take z.toNat:=by unfold tk;simp only;rw[if_pos ⟨by omega,hf⟩]
  rw[e1,e2,<- YR];unfold aft;rw[if_neg (by omega)];simp only;rw[if_pos hf]
 ·have e1:mv l.length (some p) z=none:=by unfold mv;simp only;rw[if_neg (by omega)]
  have e2:tk l (some p) z=[]:=by unfold tk;simp only;rw[if_neg (by omega)]
  rw[e1,e2];unfold aft;rw[if_neg (by omega)];simp only;rw[if_neg hf]
  rfl
theorem gR(l:List Int)(st:Option Nat)(h:0<val (tk l st 1)):∃p,st=some p/\mv l.length st 1=some (p+1)/\p<l.length:=by
 cases st with
 |none=>simp[tk,val]at h
 |some p=>
  by_cases hp:p<l.length
  ·exact⟨p,rfl,(kU l p hp).2.1,hp⟩
  ·rw[(WS l p hp).2.2]at h;omega
theorem sC(l:List Int)(hb:∀z∈l,0<=z/\z<=255)(st:Option Nat):0<=val (tk l st 1)/\val (tk l st 1)<=255:=by
 cases st with
 |none=>simp[tk,val]
 |some p=>
  by_cases hp:p<l.length
  ·rw[(kU l p hp).2.2];exact Oz l hb p
  ·rw[(WS l p hp).2.2];omega
theorem Zz(l:List Int):∀(n p:Nat) (out:List ByteArray),l.length - p<=n->∃r,(pgo l p out).1=out++r
 |n,p,out,hn=>by
  rw[pgo];by_cases h:p<l.length
  ·rw[dif_pos h];by_cases hz:l.getD p 0<=0
   ·rw[if_pos hz];exact⟨[],by simp⟩
   ·rw[if_neg hz];by_cases hf:(p:Int)+1+l.getD p 0<=l.length
    ·rw[if_pos hf];cases n with
     |zero=>omega
     |succ n=>
      obtain⟨r,hr⟩:=Zz l n (p+1+(l.getD p 0).toNat) (out++[lb ((l.drop (p+1)).take (l.getD p 0).toNat)]) (by omega);exact⟨_::r,by rw[hr,AR];rfl⟩
    ·rw[if_neg hf];exact⟨_,rfl⟩
  ·rw[dif_neg h];exact⟨[],by simp⟩
theorem Us(l:List Int):∀(n p:Nat) (out o:List ByteArray) (q:Nat),l.length - p<=n->rgo l p out=some (o,q)->∃r,o=out++r
 |n,p,out,o,q,hn,hr=>by
  by_cases h:p<l.length/\l.getD p 0<=63
  ·by_cases h0:l.getD p 0=0
   ·rw[Kc l p out h h0]at hr;cases hr;exact⟨[],by simp⟩
   ·by_cases h1:(l.length:Int) - ((p:Int)+1)<l.getD p 0
    ·rw[MD l p out h h0 h1]at hr;cases hr
    ·rw[Ka l p out h h0 h1]at hr;cases n with
     |zero=>omega
     |succ n=>
      obtain⟨r,hr⟩:=Us l n _ _ o q (by omega) hr;exact⟨_::r,by rw[hr,AR];rfl⟩
  ·rw[MI l p out h]at hr;cases hr
def win(zs:List Int)(d:Nat):List Int:=(zs.drop d).take 255
theorem Od(zs:List Int)(d:Nat):(win zs d).length=min 255 (zs.length - d):=by simp[win]
theorem Yl(zs:List Int)(d p:Nat)(h:p<(win zs d).length):(win zs d).getD p 0=zs.getD (d+p) 0:=by
 rw[Od]at h;simp only[win,Am];rw[List.getElem?_take,if_pos (by omega),List.getElem?_drop]
theorem Yv(zs:List Int)(d p n:Nat)(h:p+n<=(win zs d).length):((win zs d).drop p).take n=(zs.drop (d+p)).take n:=by
 rw[Od]at h;apply List.ext_getElem?
 intro i;simp only[win,List.getElem?_take,List.getElem?_drop];by_cases hi:i<n
 ·rw[if_pos hi,if_pos hi,if_pos (by omega),Nat.add_assoc]
 ·rw[if_neg hi,if_neg hi]
theorem ZB(zs:List Int)(hb:∀z∈zs,0<=z/\z<=255)(d:Nat):∀(n p q:Nat) (out o:List ByteArray),(win zs d).length - p<=n->pgo (win zs d) p out=(o,some q)->nck o=0->rgo zs (d+p) out=some (o,d+q)
 |n,p,q,out,o,hn,hp,hk=>by
  rw[pgo]at hp;by_cases h:p<(win zs d).length
  ·rw[dif_pos h,Yl zs d p h]at hp;have hl:=Od zs d;have hbd:=Oz zs hb (d+p);by_cases hz:zs.getD (d+p) 0<=0
   ·rw[if_pos hz]at hp;cases hp;rw[Kc zs (d+p) out ⟨by omega,by omega⟩ (by omega)]
    rfl
   ·rw[if_neg hz]at hp;by_cases hf:(p:Int)+1+zs.getD (d+p) 0<=(win zs d).length
    ·rw[if_pos hf]at hp;have hsz:(lb (((win zs d).drop (p+1)).take (zs.getD (d+p) 0).toNat)).size=(zs.getD (d+p) 0).toNat:=by
      rw[Fv,CC,Bg];omega
     have hmem:lb (((win zs d).drop (p+1)).take (zs.getD (d+p) 0).toNat)∈o:=by
      obtain⟨r,hr⟩:=Zz (win zs d) (win zs d).length (p+1+(zs.getD (d+p) 0).toNat) (out++[lb (((win zs d).drop (p+1)).take (zs.getD (d+p) 0).toNat)]) (by omega);rw[hp]at hr;simp only at hr;rw[hr];simp
     have h63:=Lb ((BI hk).2 _ hmem);rw[hsz]at h63;cases n with
     |zero=>omega
     |succ n=>
      have:=ZB zs hb d n _ q _ o (by omega) hp hk;rw[Ka zs (d+p) out ⟨by omega,by omega⟩ (by omega) (by omega)];rw[Yv zs d (p+1) _ (by omega),show d+(p+1+(zs.getD (d+p) 0).toNat)=d+p+1+(zs.getD (d+p) 0).toNat by omega,show d+(p+1)=d+p+1 by omega]at this;exact this
    ·rw[if_neg hf]at hp;cases hp
  ·rw[dif_neg h]at hp;cases hp
theorem ZT(zs:List Int)(hb:∀z∈zs,0<=z/\z<=255)(d:Nat):∀(n p Q:Nat) (out o:List ByteArray),zs.length - (d+p)<=n->rgo zs (d+p) out=some (o,Q)->nck o=0->nsz out=p+1->∃q,pgo (win zs d) p out=(o,some q)/\Q=d+q
 |n,p,Q,out,o,hn,hr,hk,hs=>by
  have hl:=Od zs d;have hbd:=Oz zs hb (d+p);obtain⟨r,hpre⟩:=Us zs zs.length (d+p) out o Q (by omega) hr;have ho:=(BI hk).1;have hle:nsz out<=nsz o:=by rw[hpre];have:=NC out r;have:=Gt r;omega
  by_cases h:d+p<zs.length/\zs.getD (d+p) 0<=63
  ·have hw:p<(win zs d).length:=by omega
   by_cases h0:zs.getD (d+p) 0=0
   ·rw[Kc zs (d+p) out h h0]at hr;cases hr;refine⟨p+1,?_,rfl⟩;rw[pgo,dif_pos hw,Yl zs d p hw,if_pos (by omega)]
   ·by_cases h1:(zs.length:Int) - (((d+p:Nat):Int)+1)<zs.getD (d+p) 0
    ·rw[MD zs (d+p) out h h0 h1]at hr;cases hr
    ·rw[Ka zs (d+p) out h h0 h1]at hr;have hsz:(lb ((zs.drop (d+p+1)).take (zs.getD (d+p) 0).toNat)).size=(zs.getD (d+p) 0).toNat:=by
      rw[Fv,CC,Bg];omega
     have hs2:nsz (out++[lb ((zs.drop (d+p+1)).take (zs.getD (d+p) 0).toNat)])=(p+1+(zs.getD (d+p) 0).toNat)+1:=by
      rw[QG,hsz,hs]
     obtain⟨r2,hpre2⟩:=Us zs zs.length _ _ o Q (by omega) hr;have hle2:nsz (out++[lb ((zs.drop (d+p+1)).take (zs.getD (d+p) 0).toNat)])<=nsz o:=by rw[hpre2];have:=NC (out++[lb ((zs.drop (d+p+1)).take (zs.getD (d+p) 0).toNat)]) r2;have:=Gt r2;omega
     have hf:(p:Int)+1+zs.getD (d+p) 0<=(win zs d).length:=by omega
     cases n with
     |zero=>omega
     |succ n=>
      rw[show d+p+1+(zs.getD (d+p) 0).toNat=d+(p+1+(zs.getD (d+p) 0).toNat) by omega]at hr;obtain⟨q,hq,hQ⟩:=ZT zs hb d n (p+1+(zs.getD (d+p) 0).toNat) Q _ o (by omega) hr hk hs2;refine⟨q,?_,hQ⟩;rw[pgo,dif_pos hw,Yl zs d p hw,if_neg (by omega),if_pos hf,Yv zs d (p+1) _ (by omega),show d+(p+1)=d+p+1 by omega];exact hq
  ·rw[MI zs (d+p) out h]at hr;cases hr
theorem ZV(zs:List Int)(hb:∀z∈zs,0<=z/\z<=255)(d:Nat)(hd:d<zs.length):Dt zs (d:Int)=match pgo (win zs d) 0 [] with
  |(_,none)=>([],0,8)
  |(out,some q)=>if nck out=0 then(out,((d+q:Nat):Int),0) else([],0,8):=by
 unfold Dt;rw[if_neg (by omega),BM];cases hp:pgo (win zs d) 0 [] with
 |mk o st=>
  have back:∀(o2:List ByteArray) (Q:Nat),rgo zs d []=some (o2,Q)->nck o2=0->∃q,pgo (win zs d) 0 []=(o2,some q)/\Q=d+q:=fun o2 Q h hk=>ZT zs hb d zs.length 0 Q [] o2 (by omega) h hk (by simp[nsz])
  cases st with
  |none=>
   simp only;cases hr:rgo zs d [] with
   |none=>rfl
   |some x=>
    obtain⟨o2,Q⟩:=x;simp only;by_cases hk:nck o2=0
    ·obtain⟨q,h1,_⟩:=back o2 Q hr hk;rw[hp]at h1;cases h1
    ·rw[if_neg hk]
  |some q=>
   simp only;by_cases hk:nck o=0
   ·have:=ZB zs hb d (win zs d).length 0 q [] o (by omega) hp hk;rw[Nat.add_zero]at this;rw[this]
   ·rw[if_neg hk];cases hr:rgo zs d [] with
    |none=>rfl
    |some x=>
     obtain⟨o2,Q⟩:=x;simp only;by_cases hk2:nck o2=0
     ·obtain⟨q2,h1,_⟩:=back o2 Q hr hk2;rw[hp]at h1;cases h1;exact absurd hk2 hk
     ·rw[if_neg hk2]
def YZ(l:List Int)(w:Ab)(e:Ending)(w':Ab):Prop:=
 ∃gr a' ca,e=.returned (.pointer (some ⟨gr,0,none⟩))/\Hid (w.heap.size<=gr/\DG w' gr (.slice a' l.length ca) 0 false/\Rd w' a' l/\l.length<=ca/\(a'=none->ca=0)/\Off a' gr/\(∀y o,a'=some ⟨y,o,none⟩->w.heap.size<=y/\y<w'.heap.size)/\Blw w w')
theorem cP{w1 wr w2 w':Ab}{gr:Nat}{v:Ao}{o:Obj}(h1:w1.grownBy wr (some gr))(h2:wr.grownBy w2 (some gr))(h3:(w2.alloc o).grownBy w' v.ownBlock)(hv:∀g,v.ownBlock=some g->w1.heap.size<=g):w1.grownBy w' (some gr):=by
 have hz:w2.heap.size<=(w2.alloc o).heap.size:=by simp
 refine⟨h3.os.trans (h2.os.trans h1.os),h3.tape.trans (h2.tape.trans h1.tape),h3.output.trans (h2.output.trans h1.output),Aj h1.size (Aj h2.size (Aj hz h3.size)),fun k hk hne=>?_⟩;have hk1:=Ap hk h1.size;have hk2:=Ap hk1 h2.size;refine(h3.block k (Ap hk2 hz) (fun e=>by have:=hv k e.symm;omega)).trans ?_;exact(EP w2 o k hk2).trans ((h2.block k hk1 hne).trans (h1.block k hk hne))
theorem eA{w1 wr w2 w':Ab}{gr:Nat}{v:Ao}{o:Obj}(hg:gr<w1.heap.size)(h1:w1.grownBy wr (some gr))(h2:wr.grownBy w2 (some gr))(h3:(w2.alloc o).grownBy w' v.ownBlock)(hv:∀g,v.ownBlock=some g->w1.heap.size<=g):w'.heap[gr]?=w2.heap[gr]?:=by
 have hz:w2.heap.size<=(w2.alloc o).heap.size:=by simp
 have hk2:=Ap (Ap hg h1.size) h2.size;exact(h3.block gr (Ap hk2 hz) (fun e=>by have:=hv gr e.symm;omega)).trans (EP w2 o gr hk2)
theorem BF.keepOff{B:Nat}{w w':Ab}{v:Ao}{n:Nat}{ss:List ByteArray}{M gr:Nat}(h:BF B w v n ss M)(hg:w.grownBy w' (some gr))(hB:gr<B):BF B w' v n ss M:=
 ⟨h.1.keep fun g e hlt=>hg.block g hlt (fun e'=>by have:=h.1.lt g e;have:g=gr:=Bf e';omega),h.2⟩
theorem Pk{w1 wr w2:Ab}{gr:Nat}(h1:w1.grownBy wr (some gr))(h2:wr.grownBy w2 (some gr)):w1.grownBy w2 (some gr):=
 ⟨h2.os.trans h1.os,h2.tape.trans h1.tape,h2.output.trans h1.output,Aj h1.size h2.size,fun k hk hne=>(h2.block k (Ap hk h1.size) hne).trans (h1.block k hk hne)⟩
theorem MJ{B gr:Nat}{w w1 w2:Ab}(h:Below B w w1)(hg:w1.grownBy w2 (some gr))(hB:B<=gr)(h0:B<=w1.heap.size):Below B w w2:=h.grown hg h0 (fun k e=>by cases e;exact hB)
theorem kV(b o len cap p0 M:Nat)(zs:List Int)(w:Ab)(hr:Rd w (some ⟨b,o,none⟩) zs)(hl:zs.length=len)(hm:len<=140737488355328)(hc:len<=cap/\cap<=9223372036854775807)(hp0:p0<len)(hM:M=min (len - p0) 255) :
  Ag Aa 275 #[.slice (some ⟨b,o,none⟩) len cap,.int .i64 p0] w (YL (Dt zs p0) w):=by
 have HX:Hid (Dt zs (p0:Int)=match pgo (win zs p0) 0 [] with
  |(_,none)=>([],0,8)
  |(out,some q)=>if nck out=0 then(out,((p0+q:Nat):Int),0) else([],0,8)):=ZV zs hr.2 p0 (by omega)
 have HWL:Hid ((win zs p0).length=M):=by show _=_;rw[Od,hl,hM];omega
 have HWB:Hid (∀z∈win zs p0,0<=z/\z<=255):=fun z hz=>hr.2 z (CT (Be hz))
 have KN:Hid (∀N,N=M->Ag Aa 259 #[.slice (some ⟨b,o+p0,none⟩) N (cap - p0)] w (YZ (win zs p0) w)):=by
  intro N hN;subst hN;have hcut:Rd w (some ⟨b,o+p0,none⟩) (win zs p0):=by
   have:=hr.cut p0 N (by omega) (a':=some ⟨b,o+p0,none⟩) (fun _ b' o' e=>by cases e;rfl);have e:(zs.drop p0).take N=win zs p0:=by
    unfold win;rw[hM,List.take_eq_take_iff,Bg,hl];omega
   rw[e]at this;exact this
  have:=Zv ⟨b,o+p0,none⟩ (cap - p0) (win zs p0) w hcut (by rw[HWL.out];omega);rw[HWL.out]at this;unfold YZ;rw[HWL.out];exact this
 generalize win zs p0=l at*;obtain⟨R,hR⟩:∃R,Dt zs (p0:Int)=R:=⟨_,rfl⟩;rw[hR]at HX ⊢;have h1:¬ (p0:Int)<0:=by omega
 have h2:¬ (len:Int)<=(p0:Int):=by omega
 have h3:(p0:Int)<=(len:Int):=by omega
 have h4:(p0:Int)<=(cap:Int):=by omega
 have h5:¬ cap=p0:=by omega
 go_enter Tryz.func275,Tryz.ntmps275;go_wp2_with fail
 all_goals
  refine(KN.out _ ?_).mono ?_
  ·omega
  rintro e w1 ⟨gr,a',ca,rfl,H1⟩;obtain⟨q1,q2,q3,q4,q5,q6,q7,q8⟩:=H1.out;rw[HWL.out]at q2 q4;have HE:Hid (Rd w1 a' l/\M<=ca/\(a'=none->ca=0)/\Off a' gr/\gr<w1.heap.size/\w.heap.size<=gr/\Blw w w1/\(∀y o,a'=some ⟨y,o,none⟩->y<w1.heap.size)):=⟨q3,q4,q5,q6,q2.lt,q1,q8,fun y o h=>(q7 y o h).2⟩;have HS0:Hid (RSt w1 gr a' M ca (some 0)/\w1.grownBy w1 (some gr)):=⟨⟨q2,Aw _⟩,DU _ _⟩;have hM2:M<=255:=by omega
  have KB:Hid (∀W st,RSt W gr a' M ca st->w1.grownBy W (some gr)->Ag Aa 279 #[.pointer (some ⟨gr,0,none⟩)] W fun e w'=>e=.returned (.int .i64 (val (tk l st 1)))/\Hid (RSt w' gr a' M ca (mv M st 1)/\W.grownBy w' (some gr))):=fun W st g1 g2=>MK gr a' M ca l st W g1 (HE.out.1.grown g2 HE.out.2.2.2.1) HWL.out HE.out.2.1 (by omega) HE.out.2.2.1 HE.out.2.2.2.1
  have KT:Hid (∀W st n,RSt W gr a' M ca st->w1.grownBy W (some gr)->Ag Aa 263 #[.pointer (some ⟨gr,0,none⟩),.int .i64 n] W fun e w'=>∃v ys,e=.returned v/\Hid (Own W.heap.size w' v (tk l st n).length ys/\ys.take (tk l st n).length=tk l st n/\RSt w' gr a' M ca (mv M st n)/\W.grownBy w' (some gr))):=fun W st n g1 g2=>Ta gr a' M ca l st n W g1 (HE.out.1.grown g2 HE.out.2.2.2.1) HWL.out HE.out.2.1 (by omega) HE.out.2.2.1 HE.out.2.2.2.1
  have KD:Hid (∀W st,RSt W gr a' M ca st->w1.grownBy W (some gr)->Ag Aa 265 #[.pointer (some ⟨gr,0,none⟩)] W fun e w'=>e=.returned (.bool st.isNone)/\Hid (RSt w' gr a' M ca st/\W.grownBy w' (some gr))):=fun W st g1 g2=>VB gr a' M ca l st W g1 (HE.out.1.grown g2 HE.out.2.2.2.1) HWL.out HE.out.2.1 (by omega) HE.out.2.2.1 HE.out.2.2.2.1
  have KA:Hid (∀W st,RSt W gr a' M ca st->w1.grownBy W (some gr)->Ag Aa 276 #[.pointer (some ⟨gr,0,none⟩)] W fun e w'=>e=.returned (.int .i64 (pos st))/\Hid (RSt w' gr a' M ca st/\W.grownBy w' (some gr))):=fun W st g1 g2=>Yu gr a' M ca l st W g1 (HE.out.1.grown g2 HE.out.2.2.2.1) HWL.out HE.out.2.1 (by omega) HE.out.2.2.1 HE.out.2.2.2.1
  go_wp2_with fail;refine(KB.out _ _ HS0.out.1 HS0.out.2).mono ?_;rintro e w2 ⟨rfl,H2⟩;have HI0:Hid (pgo l 0 []=aft l (mv M (some 0) 1) (val (tk l (some 0) 1)) []/\(0<val (tk l (some 0) 1)->∃p,mv M (some 0) 1=some p/\([]:List ByteArray).length<p/\p<=M)/\0<=val (tk l (some 0) 1)/\val (tk l (some 0) 1)<=255):=by
   refine⟨?_,?_,sC l HWB.out _⟩
   ·have:=YR l 0 [];rw[HWL.out]at this;exact this
   ·intro hz;obtain⟨p,e1,e2,e3⟩:=gR l (some 0) hz;rw[HWL.out]at e2 e3;exact⟨p+1,e2,by simp,by omega⟩
  generalize val (tk l (some 0) 1)=z0 at*;generalize mv M (some 0) 1=st0 at*;go_wp2_with fail;go_loopw [9,10] (fun v x wr=>∃(z:Int) (st:Option Nat) (out:List ByteArray),x=.int .i64 z/\0<=z/\z<=255/\out.length<=256/\Hid (pgo l 0 []=aft l st z out)/\Hid (0<z->∃p,st=some p/\out.length<p/\p<=M)/\Hid (RSt wr gr a' M ca st/\w1.grownBy wr (some gr))/\Hid ((∃ys,BF w1.heap.size wr v out.length ys 1000000000000/\ys.take out.length=out)/\∀s∈out,s.size<=255)) (fun v _ _=>match v with | .slice _ n _=>300 - n|_=>0)
  case atStart=>exact⟨z0,st0,[],rfl,HI0.out.2.2.1,HI0.out.2.2.2,by simp,HI0.out.1,HI0.out.2.1,H2,⟨[],BF.nil _ _ _,rfl⟩,by simp⟩
  case round=>
   obtain⟨z,st,out,rfl,hz0,hz255,hol,HG,HP,HS,HW⟩:=hrel;obtain⟨ys,hO,hT⟩:=HW.out.1;obtain⟨ao,hv,hao⟩:=hO.shape;subst hv;have HO:Hid (BF w1.heap.size wr (.slice ao out.length ys.length) out.length ys 1000000000000/\ys.take out.length=out):=⟨hO,hT⟩;generalize hyl:ys.length=yl at*;clear hyl;by_cases hz:0<z
   ·obtain⟨p,rfl,hop,hpM⟩:=HP.out hz;have HST:Hid (pgo l 0 []=aft l (mv M (mv M (some p) z) 1) (val (tk l (mv M (some p) z) 1)) (out++[lb (tk l (some p) z)])):=by
     have:=jP l p z out hz;rw[HWL.out]at this;show _=_;rw[HG.out,this]
    have HNX:Hid ((0<val (tk l (mv M (some p) z) 1)->∃p2,mv M (mv M (some p) z) 1=some p2/\(out++[lb (tk l (some p) z)]).length<p2/\p2<=M)/\0<=val (tk l (mv M (some p) z) 1)/\val (tk l (mv M (some p) z) 1)<=255):=by
     refine⟨?_,sC l HWB.out _⟩;intro h;obtain⟨p2,e1,e2,e3⟩:=gR l _ h;rw[HWL.out]at e2 e3;refine⟨p2+1,e2,?_,by omega⟩;unfold mv at e1;simp only at e1;by_cases hf:0<=z/\(p:Int)+z<=M
     ·rw[if_pos hf]at e1;have:p+z.toNat=p2:=by simpa using e1
      rw[Af,Ch];omega
     ·rw[if_neg hf]at e1;cases e1
    have hfs:(lb (tk l (some p) z)).size<=255:=by
     have:=Rb l (some p) z.toNat;rw[show((z.toNat:Nat):Int)=z by omega]at this;rw[Fv];omega
    have KTz:Hid (Ag Aa 263 #[.pointer (some ⟨gr,0,none⟩),.int .i64 z] wr fun e w'=>∃v ys,e=.returned v/\Hid (Own wr.heap.size w' v (tk l (some p) z).length ys/\ys.take (tk l (some p) z).length=tk l (some p) z/\RSt w' gr a' M ca (mv M (some p) z)/\wr.grownBy w' (some gr))):=KT.out wr (some p) z HS.out.1 HS.out.2;have HLB:Hid (∀W ao n c,Rd W ao (tk l (some p) z)->(tk l (some p) z).length=n->(convert 39 9 (.slice ao n c)).run Aa W=.ok (.string (lb (tk l (some p) z))) W):=fun W ao n c g1 g2=>Hk ao n c _ W g1 g2
    have KB2:Hid (∀W,RSt W gr a' M ca (mv M (some p) z)->w1.grownBy W (some gr)->Ag Aa 279 #[.pointer (some ⟨gr,0,none⟩)] W fun e w'=>e=.returned (.int .i64 (val (tk l (mv M (some p) z) 1)))/\Hid (RSt w' gr a' M ca (mv M (mv M (some p) z) 1)/\W.grownBy w' (some gr))):=fun W=>KB.out W _
    generalize val (tk l (mv M (some p) z) 1)=z2 at*;generalize mv M (mv M (some p) z) 1=st2 at*;generalize mv M (some p) z=stz at*;generalize tk l (some p) z=tz at*;generalize lb tz=f at*;obtain⟨n2,hn2⟩:∃n,tz.length=n:=⟨_,rfl⟩;rw[hn2]at KTz;clear KB KT KD KA HG HP;go_wp2_with fail;refine KTz.out.mono ?_;rintro e w2 ⟨v2,zs2,rfl,H2⟩;obtain⟨ao2,hv2,hA2⟩:=H2.out.1.addr;subst hv2;have hcv:∀c,(convert 39 9 (.slice ao2 n2 c)).run Aa w2=.ok (.string f) w2:=fun c=>HLB.out w2 ao2 _ _ (by have:=hA2.rdTake n2;rw[H2.out.2.1]at this;exact this) hn2
    have HO2:Hid (BF w1.heap.size (w2.alloc (.cells #[.string f] 9)) (.slice ao out.length yl) out.length ys 1000000000000/\ys.take out.length=out):=⟨(HO.out.1.keepOff H2.out.2.2.2 HE.out.2.2.2.2.1).below ((Ae _ _).alloc (Ad _) _),HO.out.2⟩;have HZ2:Hid (w1.heap.size<=(w2.alloc (.cells #[.string f] 9)).heap.size):=by have:=HS.out.2.size;have:=H2.out.2.2.2.size;show _<=_;simp;omega
    clear KTz HLB hA2;generalize zs2.length=c2 at*;go_wp2_with (at_builtin;refine BA tyN _ rfl _ _ 23 9 BV rfl w1.heap.size _ out.length ys 1000000000000 rfl HO2.out.1 (some ⟨w2.heap.size,0,none⟩) 1 1 [f] rfl (EN w2 f) rfl (by intro s hs;simp at hs;subst hs;omega) (by omega) HZ2.out ?_;intro v' w' ys' hO' hT' hG';have HG2:Hid ((w2.alloc (.cells #[.string f] 9)).grownBy w' (Ce ao out.length yl).ownBlock):=hG';clear hG');have hown:=HO.out.1.1.lt;have HR3:Hid (RSt w' gr a' M ca stz/\w1.grownBy w' (some gr)):=⟨H2.out.2.2.1.same (eA HE.out.2.2.2.2.1 HS.out.2 H2.out.2.2.2 HG2.out hown),cP HS.out.2 H2.out.2.2.2 HG2.out hown⟩;refine(KB2.out _ HR3.out.1 HR3.out.2).mono ?_;rintro e w4 ⟨rfl,H4⟩;obtain⟨ao',hv',_⟩:=hO'.out.shape;subst hv';go_wp2;refine⟨⟨z2,st2,out++[f],rfl,HNX.out.2.1,HNX.out.2.2,by rw[Af,Ch];omega,HST,HNX.out.1,⟨H4.out.1,Pk HR3.out.2 H4.out.2⟩,⟨ys',?_,?_⟩,?_⟩,?_⟩
    ·rw[Af];exact hO'.out.keepOff H4.out.2 HE.out.2.2.2.2.1
    ·rw[Af];exact hT'.out.trans (by rw[HO2.out.2])
    ·intro s hs;obtain hs|hs:=AG.1 hs
     ·exact HW.out.2 s hs
     ·simp at hs;subst hs;exact hfs
    ·simp;omega
   ·obtain rfl:z=0:=by omega
    have hR:pgo l 0 []=(out,st):=HG.out;rw[hR]at HX;clear hR HG HP KB KT;cases st with
    |none=>
     have e:=HX.out;simp only at e;subst e;have KDz:=KD.out wr none HS.out.1 HS.out.2;have KD2:Hid (Ag Aa 265 #[.pointer (some ⟨gr,0,none⟩)] wr fun e w'=>e=.returned (.bool true)/\Hid (RSt w' gr a' M ca none/\wr.grownBy w' (some gr))):=KDz;clear KDz HX KD KA;go_wp2_with fail;refine KD2.out.mono ?_;rintro e w2 ⟨rfl,H2⟩;go_wp2
     go_ret3
     exact Nn rfl (MJ (MJ HE.out.2.2.2.2.2.2.1 HS.out.2 HE.out.2.2.2.2.2.1 HE.out.2.2.2.2.2.2.1.size) H2.out.2 HE.out.2.2.2.2.2.1 (Aj HE.out.2.2.2.2.2.2.1.size HS.out.2.size))
    |some q=>
     have hqM:q<=M:=HS.out.1.2;have KD2:Hid (Ag Aa 265 #[.pointer (some ⟨gr,0,none⟩)] wr fun e w'=>e=.returned (.bool false)/\Hid (RSt w' gr a' M ca (some q)/\wr.grownBy w' (some gr))):=KD.out wr (some q) HS.out.1 HS.out.2;have KA2:Hid (∀W,RSt W gr a' M ca (some q)->w1.grownBy W (some gr)->Ag Aa 276 #[.pointer (some ⟨gr,0,none⟩)] W fun e w'=>e=.returned (.int .i64 q)/\Hid (RSt w' gr a' M ca (some q)/\W.grownBy w' (some gr))):=fun W g1 g2=>KA.out W (some q) g1 g2
     have HZ:Hid (nsz out<=1000000000000):=by
      have:∀l:List ByteArray,(∀s∈l,s.size<=255)->nsz l<=256*l.length+1:=by
       intro l;induction l with
       |nil=>intro _;simp[nsz]
       |cons x l ih=>intro h;have:=ih (fun s hs=>h s (by simp[hs]));have:=h x (by simp);simp only[nsz,AP];omega
      have:=this out HW.out.2;show _<=_;omega
     have e:=HX.out;simp only at e;have HXX:Hid (R=if nck out=0 then(out,((p0+q:Nat):Int),0) else([],0,8)):=e;clear e HX KD KA;go_wp2_with fail;refine KD2.out.mono ?_;rintro e w2 ⟨rfl,H2⟩;have hO2:=HO.out.1.keepOff H2.out.2 HE.out.2.2.2.2.1;have hnm:Nm w2 ao out.length out:=⟨by have:=hO2.rd out.length;rw[HO.out.2]at this;exact this,rfl,HZ.out⟩;have KC:Hid (Ag Aa 19 #[.slice ao out.length yl] w2 fun e w'=>e=.returned (.int .i64 (nck out))/\w'=w2):=Gy yl hnm;have HO3:Hid (BF w1.heap.size w2 (.slice ao out.length yl) out.length ys 1000000000000):=hO2;have HG2:Hid (RSt w2 gr a' M ca (some q)/\w1.grownBy w2 (some gr)):=⟨H2.out.1,Pk HS.out.2 H2.out.2⟩;by_cases hk:nck out=0
     ·rw[hk]at KC;have e:=HXX.out;rw[if_pos hk]at e;subst e;have hadd:CV.wrap ((p0:Int)+(q:Int))=((p0+q:Nat):Int):=by rw[BZ];omega
      go_wp2_with fail;refine KC.out.mono ?_;rintro e w3 ⟨rfl,rfl⟩;go_wp2_with fail;refine(KA2.out _ HG2.out.1 HG2.out.2).mono ?_;rintro e w4 ⟨rfl,H4⟩;go_wp2
      go_ret3
      refine⟨_,ys,rfl,(HO3.out.keepOff H4.out.2 HE.out.2.2.2.2.1).mono HE.out.2.2.2.2.2.2.1.size,HO.out.2,MJ HE.out.2.2.2.2.2.2.1 (Pk HG2.out.2 H4.out.2) HE.out.2.2.2.2.2.1 HE.out.2.2.2.2.2.2.1.size⟩
     ·have e:=HXX.out;rw[if_neg hk]at e;subst e;generalize nck out=kk at*;have hq:=bne_iff_ne.2 hk;go_wp2_with fail;refine KC.out.mono ?_;rintro e w3 ⟨rfl,rfl⟩;go_wp2
      go_ret3
      exact Nn rfl (MJ HE.out.2.2.2.2.2.2.1 HG2.out.2 HE.out.2.2.2.2.2.1 HE.out.2.2.2.2.2.2.1.size)
theorem aI(a:Option Addr)(len cap:Nat)(zs:List Int)(d:Int)(w:Ab)(h:Rd w a zs)(hl:zs.length=len)(hm:len<=140737488355328)(hc:len<=cap/\cap<=9223372036854775807):Ag Aa 275 #[.slice a len cap,.int .i64 d] w (YL (Dt zs d) w):=by
 by_cases hd:d<0∨(len:Int)<=d
 ·have hp:Dt zs d=([],0,2):=by unfold Dt;rw[if_pos (by rw[hl];exact hd)]
  rw[hp];have hd':d<0∨(¬ d<0/\(len:Int)<=d):=by omega
  clear h hl hp hd;obtain hd|⟨hd,hd2⟩:=hd'
  all_goals
   go_enter Tryz.func275,Tryz.ntmps275;go_wp2
   go_ret3
   exact Nn rfl (Ae _ _)
 ·obtain⟨p,rfl⟩:∃p:Nat,d=(p:Int):=⟨d.toNat,by omega⟩;obtain h1|⟨b,o,rfl,_,_⟩:=h.1
  ·subst h1;simp at hl;omega
  ·exact kV b o len cap p _ zs w h hl hm hc (by omega) rfl
structure RS(Wb W:Ab)(g:Nat)(a:Option Addr)(len cap:Nat)(zs:List Int)(st:Option Nat):Prop where
 rst:RSt W g a len cap st
 kp:Wb.grownBy W (some g)
 rd:Rd Wb a zs
 hl:zs.length=len
 hc:len<=cap
 hd:a=none->cap=0
 off:Off a g
 gl:g<Wb.heap.size
 hm:len<=65535
theorem Ii{w1 wr w2:Ab}{gr:Nat}(h1:w1.grownBy wr (some gr))(h2:wr.grownBy w2 (some gr)):w1.grownBy w2 (some gr):=
 ⟨h2.os.trans h1.os,h2.tape.trans h1.tape,h2.output.trans h1.output,Aj h1.size h2.size,fun k hk hne=>(h2.block k (Ap hk h1.size) hne).trans (h1.block k hk hne)⟩
theorem RS.rdW{Wb W:Ab}{g:Nat}{a:Option Addr}{len cap:Nat}{zs:List Int}{st:Option Nat}(h:RS Wb W g a len cap zs st):Rd W a zs:=h.rd.grown h.kp h.off
theorem RS.to{Wb W W':Ab}{g:Nat}{a:Option Addr}{len cap:Nat}{zs:List Int}{st st':Option Nat}(h:RS Wb W g a len cap zs st)(h1:RSt W' g a len cap st')(h2:W.grownBy W' (some g)):RS Wb W' g a len cap zs st':=
 ⟨h1,Ii h.kp h2,h.rd,h.hl,h.hc,h.hd,h.off,h.gl,h.hm⟩
theorem RS.app{Wb W W':Ab}{g:Nat}{a:Option Addr}{len cap:Nat}{zs:List Int}{st:Option Nat}{o:Option Nat}(h:RS Wb W g a len cap zs st)(h2:W.grownBy W' o)(ho:∀j,o=some j->Wb.heap.size<=j):RS Wb W' g a len cap zs st:=by
 have hgW:g<W.heap.size:=Ap h.gl h.kp.size;refine⟨h.rst.same (h2.block g hgW (fun e=>by have:=ho g e.symm;have:=h.gl;omega)),?_,h.rd,h.hl,h.hc,h.hd,h.off,h.gl,h.hm⟩;exact⟨h2.os.trans h.kp.os,h2.tape.trans h.kp.tape,h2.output.trans h.kp.output,Aj h.kp.size h2.size,fun k hk hne=>(h2.block k (Ap hk h.kp.size) (fun e=>by have:=ho k e.symm;omega)).trans (h.kp.block k hk hne)⟩
theorem RS.below{Wb W W':Ab}{g:Nat}{a:Option Addr}{len cap:Nat}{zs:List Int}{st:Option Nat}(h:RS Wb W g a len cap zs st)(h2:Blw W W'):RS Wb W' g a len cap zs st:=h.app (o:=none) (Ee h2) (by rintro j ⟨⟩)
theorem Ea.kept{B g:Nat}{w w':Ab}{s:Sl}{us:List Nat}(h:Ea B w s us)(hg:w.grownBy w' (some g))(hB:g<B):Ea B w' s us:=h.keep fun j h1 h2=>hg.block j h2 (fun e=>by cases e;omega)
theorem Dk.kept{B g:Nat}{w w':Ab}{v:Ao}{nss:List (List ByteArray)}(h:Dk B w v nss)(hg:w.grownBy w' (some g))(hB:g<B):Dk B w' v nss:=h.keep fun j h1 h2=>hg.block j h2 (fun e=>by cases e;omega)
theorem Dk.stays{B:Nat}{w w':Ab}{v:Ao}{nss:List (List ByteArray)}(h:Dk B w v nss)(hb:Blw w w'):Dk B w' v nss:=h.keep fun j _ h2=>hb.block j h2
theorem Ea.stays{B:Nat}{w w':Ab}{s:Sl}{us:List Nat}(h:Ea B w s us)(hb:Blw w w'):Ea B w' s us:=h.keep fun j _ h2=>hb.block j h2
theorem BU.stays{B:Nat}{w w':Ab}{s:Sl}{nm:List ByteArray}(h:BU B w s nm)(hb:Blw w w'):BU B w' s nm:=h.keep fun j _ h2 _=>hb.block j h2
theorem BU.kept{B g:Nat}{w w':Ab}{s:Sl}{nm:List ByteArray}(h:BU B w s nm)(hg:w.grownBy w' (some g))(hB:g<B):BU B w' s nm:=h.keep fun j h1 h2 _=>hg.block j h2 (fun e=>by cases e;omega)
def pnu(zs:List Int)(st:Option Nat)(wd:Nat):Nat:=(val (tk zs st (wd:Int))).toNat
theorem eU(zs:List Int)(hb:∀z∈zs,0<=z/\z<=255)(st:Option Nat)(wd:Nat)(hw:wd<=4):pnu zs st wd<=4294967295/\(pnu zs st wd:Int)=val (tk zs st (wd:Int)):=by
 have h1:=Rb zs st wd;have h2:=Le (tk zs st (wd:Int)) (Ja zs st wd hb) (by omega);unfold pnu;omega
theorem VQ(Wb w:Ab)(g:Nat)(a:Option Addr)(len cap:Nat)(zs:List Int)(st:Option Nat)(wd:Nat)(hw:wd=1∨wd=2∨wd=4)(h:RS Wb w g a len cap zs st) :
  Ag Aa 278 #[.pointer (some ⟨g,0,none⟩),.int .i64 wd] w fun e w'=>e=.returned (.int .u32 (pnu zs st wd:Nat))/\Hid (RS Wb w' g a len cap zs (mv len st (wd:Int))/\w.grownBy w' (some g)):=by
 have HS:Hid (RS Wb w g a len cap zs st):=h;have hm:len<=140737488355328:=by have:=h.hm;omega
 have hbd:=eU zs h.rd.2 st wd (by omega);obtain rfl|rfl|rfl:=hw
 focus
  obtain⟨N,hN⟩:∃N,pnu zs st 1=N:=⟨_,rfl⟩;have K:Hid (Ag Aa 279 #[.pointer (some ⟨g,0,none⟩)] w fun e w'=>e=.returned (.int .i64 (N:Int))/\Hid (RSt w' g a len cap (mv len st 1)/\w.grownBy w' (some g))):=by
   have:=MK g a len cap zs st w h.rst h.rdW h.hl h.hc hm h.hd h.off;rw[<- hN,hbd.2];exact this
  rw[hN]at hbd ⊢;have hN4:=hbd.1;have hNm:(N:Int) % 4294967296=(N:Int):=by omega
 rotate_left
 focus
  obtain⟨N,hN⟩:∃N,pnu zs st 2=N:=⟨_,rfl⟩;have K:Hid (Ag Aa 288 #[.pointer (some ⟨g,0,none⟩)] w fun e w'=>e=.returned (.int .i64 (N:Int))/\Hid (RSt w' g a len cap (mv len st 2)/\w.grownBy w' (some g))):=by
   have:=iP g a len cap zs st w h.rst h.rdW h.hl h.hc hm h.hd h.off;rw[<- hN,hbd.2];exact this
  rw[hN]at hbd ⊢;have hN4:=hbd.1;have hNm:(N:Int) % 4294967296=(N:Int):=by omega
 rotate_left
 focus
  obtain⟨N,hN⟩:∃N,pnu zs st 4=N:=⟨_,rfl⟩;have K:Hid (Ag Aa 289 #[.pointer (some ⟨g,0,none⟩)] w fun e w'=>e=.returned (.int .u32 (N:Int))/\Hid (RSt w' g a len cap (mv len st 4)/\w.grownBy w' (some g))):=by
   have:=iI g a len cap zs st w h.rst h.rdW h.hl h.hc hm h.hd h.off;rw[<- hN,hbd.2];exact this
  rw[hN]
 rotate_left
 all_goals
  clear h hbd hN hm;go_enter Tryz.func278,Tryz.ntmps278;go_wp2_with fail;refine K.out.mono ?_;rintro e w1 ⟨rfl,H1⟩;go_wp2;go_ret;exact⟨by first|rfl|simp,HS.out.to H1.out.1 H1.out.2,H1.out.2⟩
def Dp(zs:List Int)(len:Nat):Option Nat->Nat->Nat->List Nat × Option Nat
 |st,_,0=>([],st)
 |st,wd,k+1=>let r:=Dp zs len st wd k;(r.1++[pnu zs r.2 wd],mv len r.2 (wd:Int))
theorem Ry(zs:List Int)(len:Nat)(st:Option Nat)(wd:Nat):∀k,(Dp zs len st wd k).1.length=k
 |0=>rfl
 |k+1=>by simp[Dp,Ry zs len st wd k]
theorem oC{w:Ab}{ops:Array Oper}{rest:List Oper}{o:Oper}{a:Act}{Q:Exit->Act->Ab->Prop}(hgd:o.guard=none)(s x:Operand)
  (ho:o.op=.call { callee:=.builtin .append,args:=#[s,x],argTypes:=#[38,38] }) (B:Nat) (s2:Sl) (us:List Nat) (hs:a.eval s=.slice s2.a s2.n s2.c) (hown:Ea B w s2 us)
  (ao:Addr) (hx:a.eval x=.slice (some ao) 1 1) (u:Nat) (hr:RdV w (some ao) [.int .u32 (u:Int)]) (hu:u<=4294967295) (hn:us.length<=1000) (hB:B<=w.heap.size)
  (h:∀(t':Sl) w',Hid (Ea B w' t' (us++[u]))->Hid (w.grownBy w' (Bm (.slice s2.a s2.n s2.c))/\∀j,(Bm (.slice s2.a s2.n s2.c))=some j->B<=j)->wpList Aa ops Q rest (a.put o.dst (.slice t'.a t'.n t'.c)) w') :
  wpList Aa ops Q (o::rest) a w:=by
 obtain⟨xs,h1,h2,h3⟩:=hown;refine Gn tyU w hgd s x 38 ho B _ us.length xs hs h1 _ 1 [.int .u32 (u:Int)] hx (NE Tryz.underlying38 hr rfl (by intro v hv;simp at hv;subst hv;rfl)) (by omega) (by simp only[Gi];omega) hB ?_;intro v' w' xs' q1 q2 q3 q4;obtain⟨ao',rfl,_⟩:=q1.out.shape;refine h ⟨ao',us.length+1,xs'.length⟩ w' ⟨xs',by simpa using q1.out,?_,?_,q4.out.1 _ ⟨0,rfl,by omega,by omega⟩ h3.2 (by intro v hv;simp at hv;subst hv;exact⟨u,rfl,by omega,by omega⟩)⟩ ⟨q3,h1.lt⟩
 ·have:=q2.out;rw[h2]at this;simpa[uv] using this
 ·intro v hv;simp only[AG,Bc]at hv;obtain hv|rfl:=hv
  ·exact h3.1 v hv
  ·exact hu
theorem TP(Wb w:Ab)(g:Nat)(a:Option Addr)(len cap:Nat)(zs:List Int)(st:Option Nat)(n wd:Nat)(hw:n=0∨wd=1∨wd=2∨wd=4)(hn:n<=1000)(h:RS Wb w g a len cap zs st) :
  Ag Aa 261 #[.pointer (some ⟨g,0,none⟩),.int .i64 n,.int .i64 wd] w fun e w'=>∃s:Sl,e=.returned (.slice s.a s.n s.c)/\Hid (Ea Wb.heap.size w' s (Dp zs len st wd n).1/\RS Wb w' g a len cap zs (Dp zs len st wd n).2):=by
 have HS:Hid (RS Wb w g a len cap zs st):=h;have HBD:Hid (∀z∈zs,0<=z/\z<=255):=h.rd.2;clear h;go_enter Tryz.func261,Tryz.ntmps261;go_wp2_with fail;go_loopw [7,9] (fun v i wr=>∃(k:Nat) (s:Sl),k<=n/\i=.int .i64 (k:Int)/\v=.slice s.a s.n s.c/\Hid (Ea Wb.heap.size wr s (Dp zs len st wd k).1/\RS Wb wr g a len cap zs (Dp zs len st wd k).2)) (fun _ i _=>n - (intOf i).toNat)
 case atStart=>exact⟨0,⟨none,0,0⟩,Aw _,rfl,rfl,VV _ _,HS.out⟩
 case round=>
  obtain⟨k,s,hk,rfl,rfl,HG⟩:=hrel;by_cases hlt:k<n
  ·have hlt':(k:Int)<(n:Int):=by omega
   have hw':wd=1∨wd=2∨wd=4:=by omega
   have hE:(Dp zs len st wd (k+1)).1=(Dp zs len st wd k).1++[pnu zs (Dp zs len st wd k).2 wd]/\(Dp zs len st wd (k+1)).2=mv len (Dp zs len st wd k).2 (wd:Int):=⟨rfl,rfl⟩;have HE:Hid ((Dp zs len st wd (k+1)).1=(Dp zs len st wd k).1++[pnu zs (Dp zs len st wd k).2 wd]/\(Dp zs len st wd (k+1)).2=mv len (Dp zs len st wd k).2 (wd:Int)):=hE;have HLN:Hid ((Dp zs len st wd k).1.length<=1000):=by rw[Ry];show k<=1000;omega
   clear hE;generalize Dp zs len st wd k=r0 at*;have K:Hid (Ag Aa 278 #[.pointer (some ⟨g,0,none⟩),.int .i64 wd] wr fun e w'=>e=.returned (.int .u32 (pnu zs r0.2 wd:Nat))/\Hid (RS Wb w' g a len cap zs (mv len r0.2 (wd:Int))/\wr.grownBy w' (some g))):=VQ Wb wr g a len cap zs r0.2 wd hw' HG.out.2;have hub:=(eU zs HBD.out r0.2 wd (by omega)).1;generalize pnu zs r0.2 wd=u at*;generalize mv len r0.2 (wd:Int)=st1 at*;go_wp2_with fail;refine K.out.mono ?_;rintro e w1 ⟨rfl,H1⟩;have HU5:Hid (Ea Wb.heap.size (w1.alloc (.cells #[.int .u32 (u:Int)] 36)) s r0.1/\RS Wb (w1.alloc (.cells #[.int .u32 (u:Int)] 36)) g a len cap zs st1):=⟨(HG.out.1.kept H1.out.2 HG.out.2.gl).stays ((Ae _ _).alloc (Ad _) _),H1.out.1.below ((Ae _ _).alloc (Ad _) _)⟩;have HO5:Hid (RdV (w1.alloc (.cells #[.int .u32 (u:Int)] 36)) (some ⟨w1.heap.size,0,none⟩) [.int .u32 (u:Int)]):=rS w1 u;go_wp2_with (at_builtin;refine oC rfl _ _ rfl Wb.heap.size s r0.1 rfl HU5.out.1 ⟨w1.heap.size,0,none⟩ rfl u HO5.out hub HLN.out HU5.out.2.kp.size ?_;intro t6 W6 HG6 HX6);refine⟨⟨k+1,t6,by omega,by go_num,rfl,?_⟩,by simp[intOf];omega⟩;refine⟨by rw[HE.out.1];exact HG6.out,by rw[HE.out.2];exact HU5.out.2.app HX6.out.1 HX6.out.2⟩
  ·have hge:¬ (k:Int)<(n:Int):=by omega
   have hkn:k=n:=by omega
   subst hkn;go_wp2_with fail;go_ret;exact⟨s,rfl,HG⟩
def Sq(zs:List Int)(len:Nat)(st:Option Nat):List ByteArray × Option Nat:=((Dt zs (pos st)).1,jm len st (if (Dt zs (pos st)).2.2=0 then(Dt zs (pos st)).2.1 else -1))
def BO(zs:List Int)(len:Nat)(st:Option Nat):Nat->List (List ByteArray) × Option Nat
 |0=>([],st)
 |k+1=>((BO zs len st k).1++[(Sq zs len (BO zs len st k).2).1],(Sq zs len (BO zs len st k).2).2)
theorem Jj(zs:List Int)(len:Nat)(st:Option Nat):∀k,(BO zs len st k).1.length=k
 |0=>rfl
 |k+1=>by simp[BO,Jj zs len st k]
theorem xJ(w:Ab)(s:Sl):RdV (w.alloc (.cells #[.slice s.a s.n s.c] 23)) (some ⟨w.heap.size,0,none⟩) [.slice s.a s.n s.c]:=by
 refine .inr ⟨w.heap.size,0,rfl,by simp,fun i hi=>?_⟩;have:i=0:=by simp at hi;omega
 subst this;unfold Az;rw[Au]
 rfl
def RP2(B:Nat)(r:List ByteArray × Int × Int)(w:Ab)(e:Ending)(w':Ab):Prop:=
 ∃s:Sl,e=.returned (.tuple #[.slice s.a s.n s.c,.int .i64 r.2.1,.int .i64 r.2.2])/\Hid (BU B w' s r.1/\Blw w w')
theorem rp2{r:List ByteArray × Int × Int}{w:Ab}{e:Ending}{w':Ab}{B:Nat}(hB:B<=w.heap.size)(h:YL r w e w'):RP2 B r w e w':=by
 obtain⟨v,ys,rfl,H⟩:=h;obtain⟨h1,h2,h3⟩:=H.out;obtain⟨ao,rfl,_⟩:=h1.shape;exact⟨⟨ao,r.1.length,ys.length⟩,rfl,⟨ys,h1.mono hB,h2⟩,h3⟩
theorem Sp(Wb w:Ab)(g:Nat)(a:Option Addr)(len cap:Nat)(zs:List Int)(st:Option Nat)(n:Nat)(a0:Option Addr)(c0:Nat)(hn:n<=1000)(hr0:∀W,Wb.grownBy W (some g)->Rd W a0 zs)(hc0:len<=c0/\c0<=9223372036854775807)(h:RS Wb w g a len cap zs st) :
  Ag Aa 260 #[.pointer (some ⟨g,0,none⟩),.slice a0 len c0,.int .i64 n] w fun e w'=>∃s:Sl,e=.returned (.slice s.a s.n s.c)/\Hid (Dk Wb.heap.size w' (.slice s.a s.n s.c) (BO zs len st n).1/\RS Wb w' g a len cap zs (BO zs len st n).2):=by
 have HS:Hid (RS Wb w g a len cap zs st):=h;have HR0:Hid ((∀W,Wb.grownBy W (some g)->Rd W a0 zs)/\zs.length=len/\len<=65535/\len<=c0/\c0<=9223372036854775807):=⟨hr0,h.hl,h.hm,hc0⟩;clear h hr0 hc0;go_enter Tryz.func260,Tryz.ntmps260;go_wp2_with fail;go_loopw [7,12] (fun v i wr=>∃(k:Nat) (s:Sl),k<=n/\i=.int .i64 (k:Int)/\v=.slice s.a s.n s.c/\Hid (Dk Wb.heap.size wr (.slice s.a s.n s.c) (BO zs len st k).1/\RS Wb wr g a len cap zs (BO zs len st k).2)) (fun _ i _=>n - (intOf i).toNat)
 case atStart=>exact⟨0,⟨none,0,0⟩,Aw _,rfl,rfl,Dk.nil _ _,HS.out⟩
 case round=>
  obtain⟨k,s,hk,rfl,rfl,HG⟩:=hrel;by_cases hlt:k<n
  ·have hlt':(k:Int)<(n:Int):=by omega
   have HE:Hid ((BO zs len st (k+1)).1=(BO zs len st k).1++[(Sq zs len (BO zs len st k).2).1]/\(BO zs len st (k+1)).2=(Sq zs len (BO zs len st k).2).2):=⟨rfl,rfl⟩;have HLN:Hid ((BO zs len st k).1.length<=1000):=by rw[Jj];show k<=1000;omega
   generalize BO zs len st k=r0 at*;have KA:Hid (Ag Aa 276 #[.pointer (some ⟨g,0,none⟩)] wr fun e w'=>e=.returned (.int .i64 (pos r0.2))/\Hid (RSt w' g a len cap r0.2/\wr.grownBy w' (some g))):=Yu g a len cap zs r0.2 wr HG.out.2.rst HG.out.2.rdW HG.out.2.hl HG.out.2.hc (by have:=HG.out.2.hm;omega) HG.out.2.hd HG.out.2.off;have KR:Hid (∀W,Wb.grownBy W (some g)->Ag Aa 275 #[.slice a0 len c0,.int .i64 (pos r0.2)] W (RP2 Wb.heap.size (Dt zs (pos r0.2)) W)):=by
    intro W hW;obtain⟨q1,q3,q4,q5⟩:=HR0.out;refine(aI a0 len c0 zs (pos r0.2) W (q1 W hW) q3 (by omega) q5).mono ?_;intro e w' hh;exact rp2 hW.size hh
   have KJ:Hid (∀W x,RS Wb W g a len cap zs r0.2->Ag Aa 277 #[.pointer (some ⟨g,0,none⟩),.int .i64 x] W fun e w'=>e=.returned (.tuple #[])/\Hid (RSt w' g a len cap (jm len r0.2 x)/\W.grownBy w' (some g))):=fun W x hW=>cR g a len cap zs r0.2 x W hW.rst hW.rdW hW.hl hW.hc (by have:=hW.hm;omega) hW.hd hW.off
   have HX:Hid (Sq zs len r0.2=((Dt zs (pos r0.2)).1,jm len r0.2 (if (Dt zs (pos r0.2)).2.2=0 then(Dt zs (pos r0.2)).2.1 else -1))):=(show _=_ from rfl);generalize Dt zs (pos r0.2)=nr at*;obtain⟨nm,nx,er⟩:=nr;generalize pos r0.2=pp at*;simp only at KR HX;go_wp2_with fail;refine KA.out.mono ?_;rintro e w1 ⟨rfl,H1⟩;have HS1:Hid (RS Wb w1 g a len cap zs r0.2/\Dk Wb.heap.size w1 (.slice s.a s.n s.c) r0.1):=⟨HG.out.2.to H1.out.1 H1.out.2,HG.out.1.kept H1.out.2 HG.out.2.gl⟩;clear KA H1;go_wp2_with fail;refine(KR.out _ HS1.out.1.kp).mono ?_;rintro e w2 ⟨s2,rfl,H2⟩;simp only at H2;have HS2:Hid (RS Wb w2 g a len cap zs r0.2/\Dk Wb.heap.size w2 (.slice s.a s.n s.c) r0.1/\BU Wb.heap.size w2 s2 nm):=⟨HS1.out.1.below H2.out.2,HS1.out.2.stays H2.out.2,H2.out.1⟩;clear KR HS1 H2;obtain⟨y,hy⟩:∃y,y=(if er=0 then nx else -1):=⟨_,rfl⟩;have HY:Hid (Sq zs len r0.2=(nm,jm len r0.2 y)):=by show _=_;rw[hy];exact HX.out
   clear HX;by_cases he:er=0
   focus
    have he':(er != 0)=false:=by simp[he]
    rw[if_pos he]at hy;subst hy;clear he;go_wp2_with fail;refine(KJ.out _ _ HS2.out.1).mono ?_;rintro e w3 ⟨rfl,H3⟩;have hnb:Blw w3 (w3.alloc (.cells #[.slice s2.a s2.n s2.c] 23)):=(Ae _ _).alloc (Ad _) _;have HU5:Hid (RS Wb (w3.alloc (.cells #[.slice s2.a s2.n s2.c] 23)) g a len cap zs (jm len r0.2 y)/\Dk Wb.heap.size (w3.alloc (.cells #[.slice s2.a s2.n s2.c] 23)) (.slice s.a s.n s.c) r0.1/\BU Wb.heap.size (w3.alloc (.cells #[.slice s2.a s2.n s2.c] 23)) s2 nm):=⟨(HS2.out.1.to H3.out.1 H3.out.2).below hnb,(HS2.out.2.1.kept H3.out.2 HS2.out.1.gl).stays hnb,(HS2.out.2.2.kept H3.out.2 HS2.out.1.gl).stays hnb⟩
   rotate_left
   focus
    have he':(er != 0)=true:=by simp[he]
    rw[if_neg he]at hy;subst hy;clear he;go_wp2_with fail;refine(KJ.out _ _ HS2.out.1).mono ?_;rintro e w3 ⟨rfl,H3⟩;have hnb:Blw w3 (w3.alloc (.cells #[.slice s2.a s2.n s2.c] 23)):=(Ae _ _).alloc (Ad _) _;have HU5:Hid (RS Wb (w3.alloc (.cells #[.slice s2.a s2.n s2.c] 23)) g a len cap zs (jm len r0.2 (-1))/\Dk Wb.heap.size (w3.alloc (.cells #[.slice s2.a s2.n s2.c] 23)) (.slice s.a s.n s.c) r0.1/\BU Wb.heap.size (w3.alloc (.cells #[.slice s2.a s2.n s2.c] 23)) s2 nm):=⟨(HS2.out.1.to H3.out.1 H3.out.2).below hnb,(HS2.out.2.1.kept H3.out.2 HS2.out.1.gl).stays hnb,(HS2.out.2.2.kept H3.out.2 HS2.out.1.gl).stays hnb⟩
   rotate_left
   all_goals
    have HO5:Hid (RdV (w3.alloc (.cells #[.slice s2.a s2.n s2.c] 23)) (some ⟨w3.heap.size,0,none⟩) [.slice s2.a s2.n s2.c]):=xJ w3 s2;clear hnb H3 HS2;go_wp2_with (at_builtin;refine lM rfl _ _ rfl Wb.heap.size (.slice s.a s.n s.c) r0.1 rfl HU5.out.2.1 ⟨w3.heap.size,0,none⟩ rfl s2 nm HO5.out HU5.out.2.2 HLN.out HU5.out.1.kp.size ?_;intro t6 W6 HG6 HX6);refine⟨⟨k+1,t6,by omega,by go_num,rfl,?_⟩,by simp[intOf];omega⟩;rw[HE.out.1,HE.out.2,HY.out];exact⟨HG6.out,HU5.out.1.app HX6.out.1 HX6.out.2⟩
  ·have hge:¬ (k:Int)<(n:Int):=by omega
   have hkn:k=n:=by omega
   subst hkn;go_wp2_with fail;go_ret;exact⟨s,rfl,HG⟩
theorem UP(Wb w:Ab)(g:Nat)(a:Option Addr)(len cap:Nat)(zs:List Int)(st:Option Nat)(n:Int)(h:RS Wb w g a len cap zs st) :
  Ag Aa 263 #[.pointer (some ⟨g,0,none⟩),.int .i64 n] w fun e w'=>∃s:Sl,e=.returned (.slice s.a s.n s.c)/\Hid (GO Wb.heap.size w' s (tk zs st n)/\RS Wb w' g a len cap zs (mv len st n)/\w.grownBy w' (some g)):=by
 refine(Ta g a len cap zs st n w h.rst h.rdW h.hl h.hc (by have:=h.hm;omega) h.hd h.off).mono ?_;rintro e w' ⟨v,ys,rfl,H⟩;obtain⟨h1,h2,h3,h4⟩:=H.out;obtain⟨ao,rfl,_⟩:=h1.addr;exact⟨⟨ao,(tk zs st n).length,ys.length⟩,rfl,⟨ys,Vw h1 h.kp.size,h2⟩,h.to h3 h4,h4⟩
theorem RM{w:Ab}{ops:Array Oper}{rest:List Oper}{o:Oper}{a:Act}{Q:Exit->Act->Ab->Prop}(hgd:o.guard=none)(s x:Operand)
  (ho:o.op=.call { callee:=.builtin .append,args:=#[s,x],argTypes:=#[22,22] }) (B:Nat) (s2:Sl) (ts:List ByteArray) (hs:a.eval s=.slice s2.a s2.n s2.c) (hown:BU B w s2 ts)
  (ao:Addr) (hx:a.eval x=.slice (some ao) 1 1) (u:ByteArray) (hr:RdT w (some ao) [u]) (hu:u.size<=1000000000000) (hn:ts.length<=1000000) (hB:B<=w.heap.size)
  (h:∀(t':Sl) w',Hid (BU B w' t' (ts++[u]))->Hid (w.grownBy w' (Bm (.slice s2.a s2.n s2.c))/\∀j,(Bm (.slice s2.a s2.n s2.c))=some j->B<=j)->Hid (t'.n=ts.length+1)->wpList Aa ops Q rest (a.put o.dst (.slice t'.a t'.n t'.c)) w') :
  wpList Aa ops Q (o::rest) a w:=by
 obtain⟨ys,h1,h2⟩:=hown;refine BA tyT w hgd s x 22 9 Dy ho B _ ts.length ys 1000000000000 hs h1 (some ao) 1 1 [u] hx hr rfl (by intro z hz;simp at hz;subst hz;exact hu) (by omega) hB ?_;intro v' w' zs q1 q2 q3;obtain⟨ao',rfl,_⟩:=q1.out.shape;refine h ⟨ao',ts.length+1,zs.length⟩ w' ⟨zs,by simpa using q1.out,?_⟩ ⟨q3,h1.1.lt⟩ rfl;have:=q2.out;rw[h2]at this;simpa using this
theorem Em.grown{w w':Ab}{b g:Nat}{f:Fs}(h:Em w b f)(hg:w.grownBy w' (some g))(hne:g<b):Em w' b f:=by
 obtain⟨h0,h1,h2,h3,h4,h5,h6,h7,hl⟩:=h;have hb:w'.heap[b]?=w.heap[b]?:=hg.block b hl (fun e=>by cases e;omega);exact⟨(AE hb).trans h0,(AE hb).trans h1,(AE hb).trans h2,(AE hb).trans h3,(AE hb).trans h4,(AE hb).trans h5,(AE hb).trans h6,(AE hb).trans h7,Ap hl hg.size⟩
theorem Em.app{w w':Ab}{b:Nat}{f:Fs}{o:Option Nat}(h:Em w b f)(hg:w.grownBy w' o)(hne:∀j,o=some j->b<j):Em w' b f:=by
 obtain⟨h0,h1,h2,h3,h4,h5,h6,h7,hl⟩:=h;have hb:w'.heap[b]?=w.heap[b]?:=hg.block b hl (fun e=>by have:=hne b e.symm;omega);exact⟨(AE hb).trans h0,(AE hb).trans h1,(AE hb).trans h2,(AE hb).trans h3,(AE hb).trans h4,(AE hb).trans h5,(AE hb).trans h6,(AE hb).trans h7,Ap hl hg.size⟩
theorem BU.mono{B B':Nat}{w:Ab}{s:Sl}{nm:List ByteArray}(h:BU B w s nm)(hB:B'<=B):BU B' w s nm:=by
 obtain⟨ys,h1,h2⟩:=h;exact⟨ys,h1.mono hB,h2⟩
theorem uM(len:Nat)(st:Option Nat)(n:Int)(h:∀k,st=some k->k<=len):(lft len (mv len st n)).toNat<=(lft len st).toNat:=by
 cases st with
 |none=>simp[mv,lft]
 |some k=>
  have:=h k rfl;simp only[mv];by_cases hc:0<=n/\(k:Int)+n<=len
  ·rw[if_pos hc];simp only[lft];omega
  ·rw[if_neg hc];simp[lft]
theorem nS(len:Nat)(st:Option Nat)(h:∀k,st=some k->k<=len)(hp:0<lft len st):(lft len (mv len st 1)).toNat+1<=(lft len st).toNat/\∀k,mv len st 1=some k->k<=len:=by
 cases st with
 |none=>simp[lft]at hp
 |some k=>
  have:=h k rfl;simp only[lft]at hp;have hc:(0:Int)<=1/\(k:Int)+1<=(len:Int):=by omega
  simp only[mv];rw[if_pos hc];constructor
  ·simp[lft];omega
  ·intro j hj;injection hj with hj;omega
theorem La(zs:List Int)(len:Nat)(hl:zs.length=len)(st:Option Nat)(n:Int):(tk zs st n).length<=len:=by
 unfold tk;split
 ·split
  ·simp;omega
  ·simp
 ·simp
def IS(zs:List Int)(len:Nat):Nat->Option Nat->List ByteArray × Option Nat
 |0,st=>([],st)
 |k+1,st=>if 0<lft len st then(lb (tk zs (mv len st 1) (val (tk zs st 1)))::(IS zs len k (mv len (mv len st 1) (val (tk zs st 1)))).1,(IS zs len k (mv len (mv len st 1) (val (tk zs st 1)))).2) else([],st)
theorem Ob(zs:List Int)(len k:Nat)(st:Option Nat)(h:¬ 0<lft len st):IS zs len k st=([],st):=by
 cases k with
 |zero=>rfl
 |succ k=>unfold IS;rw[if_neg h]
def lenOf:Ao->Nat
 | .slice _ n _=>n
 |_=>0
theorem Sr(Wb w:Ab)(g:Nat)(a:Option Addr)(len cap:Nat)(zs:List Int)(st:Option Nat)(nn nf nu wd tg:Nat)(nr:Int)(hbd:∀z∈zs,0<=z/\z<=255)(h:RS Wb w g a len cap zs st) :
  Ag Aa 262 #[.agg #[.int .i64 nn,.int .i64 nf,.int .i64 nu,.int .i64 wd,.int .i64 (-1),.int .i64 tg,.int .i64 0,.int .i64 nr],.pointer (some ⟨g,0,none⟩)] w fun e w'=>∃s:Sl,e=.returned (.slice s.a s.n s.c)/\Hid (BU Wb.heap.size w' s (IS zs len (len+1) st).1/\RS Wb w' g a len cap zs (IS zs len (len+1) st).2):=by
 have HB0:Below w.heap.size w (w.alloc (.cells #[.int .i64 nn,.int .i64 nf,.int .i64 nu,.int .i64 wd,.int .i64 (-1),.int .i64 tg,.int .i64 0,.int .i64 nr] 146)):=(Ae _ _).alloc (Ad _) _;have HS:Hid (RS Wb (w.alloc (.cells #[.int .i64 nn,.int .i64 nf,.int .i64 nu,.int .i64 wd,.int .i64 (-1),.int .i64 tg,.int .i64 0,.int .i64 nr] 146)) g a len cap zs st):=h.below HB0;have HX:Hid (Em (w.alloc (.cells #[.int .i64 nn,.int .i64 nf,.int .i64 nu,.int .i64 wd,.int .i64 (-1),.int .i64 tg,.int .i64 0,.int .i64 nr] 146)) w.heap.size ⟨nn,nf,nu,wd,-1,tg,0,nr⟩):=Em.new w ⟨nn,nf,nu,wd,-1,tg,0,nr⟩;have hbg:Wb.heap.size<=w.heap.size:=h.kp.size;have hgl:=h.gl;have hlm:=h.hm;have HBD:Hid (∀z∈zs,0<=z/\z<=255):=hbd;obtain⟨PR,hPR⟩:∃PR,IS zs len (len+1) st=PR:=⟨_,rfl⟩;have HPR:Hid (IS zs len (len+1) st=PR):=hPR;rw[hPR];have hst0:∀k,st=some k->k<=len:=h.rst.le;have HST:Hid ((lft len st).toNat<=len):=by
  show _<=_;cases st with
  |none=>simp[lft]
  |some k=>have:=hst0 k rfl;simp[lft]
 clear h HB0 hPR hbd hst0;go_enter Tryz.func262,Tryz.ntmps262
 go_upto_region 1 with fail
 generalize (w.alloc (.cells #[.int .i64 nn,.int .i64 nf,.int .i64 nu,.int .i64 wd,.int .i64 (-1),.int .i64 tg,.int .i64 0,.int .i64 nr] 146))=W1 at*;obtain⟨b,hb⟩:∃b,b=w.heap.size:=⟨_,rfl⟩;rw[<- hb]at HX hbg ⊢;have Hb:Hid (b=w.heap.size):=hb;clear hb;obtain⟨B1,hB1⟩:∃B1,B1=W1.heap.size:=⟨_,rfl⟩;have HB1:Hid (B1=W1.heap.size/\b<B1/\Wb.heap.size<=B1):=⟨hB1,by have:=HX.out.2.2.2.2.2.2.2.2;omega,by have:=HX.out.2.2.2.2.2.2.2.2;omega⟩;clear hB1;go_wp2_with fail;go_loopw [5] (fun v wr=>∃(s:Sl) (l:List ByteArray) (st':Option Nat) (k:Nat),v=.slice s.a s.n s.c/\s.n<=len/\Hid (s.n=l.length/\l.length+(lft len st').toNat<=len/\(lft len st').toNat<=k)/\Hid (PR=(l++(IS zs len k st').1,(IS zs len k st').2))/\Hid (BU B1 wr s l/\RS Wb wr g a len cap zs st'/\Em wr b ⟨nn,nf,nu,wd,-1,tg,0,nr⟩/\B1<=wr.heap.size)) (fun v _=>len+1 - lenOf v)
 case atStart=>exact⟨⟨none,0,0⟩,[],st,len+1,rfl,Aw _,⟨rfl,by have:=HST.out;simp;omega,by have:=HST.out;omega⟩,by show PR=_;rw[<- HPR.out];simp,QD _ _,HS.out,HX.out,by have:=HB1.out;omega⟩
 case round=>
  obtain⟨s,l,st',k,rfl,hsn,HN,HP,HG⟩:=hrel;have s4:=HG.out.2.2.1.2.2.2.2.1;have s6:=HG.out.2.2.1.2.2.2.2.2.2.1;simp only at s4 s6;have KL:Hid (Ag Aa 264 #[.pointer (some ⟨g,0,none⟩)] wr fun e w'=>e=.returned (.int .i64 (lft len st'))/\Hid (RSt w' g a len cap st'/\wr.grownBy w' (some g))):=Pg g a len cap zs st' wr HG.out.2.1.rst HG.out.2.1.rdW HG.out.2.1.hl HG.out.2.1.hc (by omega) HG.out.2.1.hd HG.out.2.1.off;have hq1:¬ (s.n:Int) < -1:=by omega
  by_cases hlf:0<lft len st'
  ·have HMV:=nS len st' HG.out.2.1.rst.le hlf;have HMV2:=uM len (mv len st' 1) (val (tk zs st' 1)) HMV.2;have hN:=HN.out;obtain⟨k',rfl⟩:∃k',k=k'+1:=⟨k - 1,by omega⟩;have HP2:Hid (PR=((l++[lb (tk zs (mv len st' 1) (val (tk zs st' 1)))])++(IS zs len k' (mv len (mv len st' 1) (val (tk zs st' 1)))).1,(IS zs len k' (mv len (mv len st' 1) (val (tk zs st' 1)))).2)):=by
    show _=_;rw[HP.out];conv=>lhs;unfold IS
    rw[if_pos hlf];simp
   have HN2:Hid (l.length+1+(lft len (mv len (mv len st' 1) (val (tk zs st' 1)))).toNat<=len/\(lft len (mv len (mv len st' 1) (val (tk zs st' 1)))).toNat<=k'/\s.n=l.length):=⟨by omega,by omega,hN.1⟩;have hls:(lb (tk zs (mv len st' 1) (val (tk zs st' 1)))).size<=1000000000000:=by rw[Fv];have:=La zs len HG.out.2.1.hl (mv len st' 1) (val (tk zs st' 1));omega
   have KB:Hid (∀W,RS Wb W g a len cap zs st'->Ag Aa 279 #[.pointer (some ⟨g,0,none⟩)] W fun e w'=>e=.returned (.int .i64 (val (tk zs st' 1)))/\Hid (RSt w' g a len cap (mv len st' 1)/\W.grownBy w' (some g))):=fun W hW=>MK g a len cap zs st' W hW.rst hW.rdW hW.hl hW.hc (by omega) hW.hd hW.off
   generalize val (tk zs st' 1)=z at*;generalize mv len st' 1=st1 at*;have KT:Hid (∀W,RS Wb W g a len cap zs st1->Ag Aa 263 #[.pointer (some ⟨g,0,none⟩),.int .i64 z] W fun e w'=>∃s:Sl,e=.returned (.slice s.a s.n s.c)/\Hid (GO Wb.heap.size w' s (tk zs st1 z)/\RS Wb w' g a len cap zs (mv len st1 z)/\W.grownBy w' (some g))):=fun W hW=>UP Wb W g a len cap zs st1 z hW
   have HLB:Hid (∀W ao n c,Rd W ao (tk zs st1 z)->(tk zs st1 z).length=n->(convert 39 9 (.slice ao n c)).run Aa W=.ok (.string (lb (tk zs st1 z))) W):=fun W ao n c g1 g2=>Hk ao n c _ W g1 g2
   generalize mv len st1 z=st2 at*;generalize tk zs st1 z=tks at*;generalize hfl:lb tks=f at*;clear HMV HMV2 hN HN HP hfl;go_wp2_with fail;refine KL.out.mono ?_;rintro e w1 ⟨rfl,H1⟩;have HS1:Hid (BU B1 w1 s l/\RS Wb w1 g a len cap zs st'/\Em w1 b ⟨nn,nf,nu,wd,-1,tg,0,nr⟩/\B1<=w1.heap.size):=⟨HG.out.1.kept H1.out.2 (by have:=HB1.out;omega),HG.out.2.1.to H1.out.1 H1.out.2,HG.out.2.2.1.grown H1.out.2 (by omega),Aj HG.out.2.2.2 H1.out.2.size⟩;clear KL H1 s4 s6 HG;go_wp2_with fail;refine(KB.out _ HS1.out.2.1).mono ?_;rintro e w2 ⟨rfl,H2⟩;have HS2:Hid (BU B1 w2 s l/\RS Wb w2 g a len cap zs st1/\Em w2 b ⟨nn,nf,nu,wd,-1,tg,0,nr⟩/\B1<=w2.heap.size):=⟨HS1.out.1.kept H2.out.2 (by have:=HB1.out;omega),HS1.out.2.1.to H2.out.1 H2.out.2,HS1.out.2.2.1.grown H2.out.2 (by omega),Aj HS1.out.2.2.2 H2.out.2.size⟩;clear KB H2 HS1;go_wp2_with fail;refine(KT.out _ HS2.out.2.1).mono ?_;rintro e w3 ⟨s3,rfl,H3⟩;have HS3:Hid (BU B1 w3 s l/\RS Wb w3 g a len cap zs st2/\Em w3 b ⟨nn,nf,nu,wd,-1,tg,0,nr⟩/\B1<=w3.heap.size):=⟨HS2.out.1.kept H3.out.2.2 (by have:=HB1.out;omega),H3.out.2.1,HS2.out.2.2.1.grown H3.out.2.2 (by omega),Aj HS2.out.2.2.2 H3.out.2.2.size⟩;have hcv:∀c,(convert 39 9 (.slice s3.a s3.n c)).run Aa w3=.ok (.string f) w3:=fun c=>HLB.out w3 s3.a s3.n c H3.out.1.rd.rd H3.out.1.rd.len
   have hnb:Below w3.heap.size w3 (w3.alloc (.cells #[.string f] 9)):=(Ae _ _).alloc (Ad _) _;have HS4:Hid (BU B1 (w3.alloc (.cells #[.string f] 9)) s l/\RS Wb (w3.alloc (.cells #[.string f] 9)) g a len cap zs st2/\Em (w3.alloc (.cells #[.string f] 9)) b ⟨nn,nf,nu,wd,-1,tg,0,nr⟩/\B1<=(w3.alloc (.cells #[.string f] 9)).heap.size/\RdT (w3.alloc (.cells #[.string f] 9)) (some ⟨w3.heap.size,0,none⟩) [f]):=⟨HS3.out.1.stays hnb,HS3.out.2.1.below hnb,HS3.out.2.2.1.below hnb,Aj HS3.out.2.2.2 hnb.size,EN w3 f⟩;have hl6:l.length<=1000000:=by have:=HN2.out;omega
   clear hnb H3 HS2 HS3 HLB KT;generalize s3.a=za at*;generalize s3.n=zn at*;generalize s3.c=zc at*;go_wp2_with (at_builtin;refine RM rfl _ _ rfl B1 s l rfl HS4.out.1 ⟨w3.heap.size,0,none⟩ rfl f HS4.out.2.2.2.2 hls hl6 HS4.out.2.2.2.1 ?_;intro t6 W6 HG6 HX6 HT6);refine⟨⟨t6,l++[f],st2,k',rfl,by have:=HN2.out;have:=HT6.out;omega,⟨by rw[HT6.out];simp,by rw[Af,Ch];exact HN2.out.1,HN2.out.2.1⟩,HP2,HG6.out,HS4.out.2.1.app HX6.out.1 (fun j hj=>Aj HB1.out.2.2 (HX6.out.2 j hj)),HS4.out.2.2.1.app HX6.out.1 (fun j hj=>Ap HB1.out.2.1 (HX6.out.2 j hj)),Aj HS4.out.2.2.2.1 HX6.out.1.size⟩,?_⟩;have h1:=HT6.out;have h2:=HN2.out;show len+1 - t6.n<len+1 - s.n;omega
  ·have HE:Hid (PR=(l,st')):=by
    show _=_;rw[HP.out,Ob zs len k st' hlf];simp
   clear HP HN;go_wp2_with fail;refine KL.out.mono ?_;rintro e w1 ⟨rfl,H1⟩;have HS1:Hid (BU B1 w1 s l/\RS Wb w1 g a len cap zs st'/\Em w1 b ⟨nn,nf,nu,wd,-1,tg,0,nr⟩/\B1<=w1.heap.size):=⟨HG.out.1.kept H1.out.2 (by have:=HB1.out;omega),HG.out.2.1.to H1.out.1 H1.out.2,HG.out.2.2.1.grown H1.out.2 (by omega),Aj HG.out.2.2.2 H1.out.2.size⟩;clear KL H1 s4 s6 HG;have s4:=HS1.out.2.2.1.2.2.2.2.1;simp only at s4;go_wp2_with fail;obtain⟨wz,hz⟩:∃z,z=w1:=⟨_,rfl⟩;subst hz;go_loopw [5] (fun v wr=>wr=wz/\v=.slice s.a s.n s.c) (fun _ _=>0)
   case atStart=>exact⟨rfl,rfl⟩
   case round=>
    obtain⟨hwz,rfl⟩:=hrel;subst hwz;go_wp2_with fail;go_ret;exact⟨s,rfl,by rw[HE.out];exact HS1.out.1.mono HB1.out.2.2,by rw[HE.out];exact HS1.out.2.1⟩
theorem Ut(Wb w:Ab)(g:Nat)(a:Option Addr)(len cap:Nat)(zs:List Int)(st:Option Nat)(nn nf nu wd tg:Nat)(nr:Int)(h:RS Wb w g a len cap zs st) :
  Ag Aa 262 #[.agg #[.int .i64 nn,.int .i64 nf,.int .i64 nu,.int .i64 wd,.int .i64 0,.int .i64 tg,.int .i64 0,.int .i64 nr],.pointer (some ⟨g,0,none⟩)] w fun e w'=>∃s:Sl,e=.returned (.slice s.a s.n s.c)/\Hid (BU Wb.heap.size w' s []/\RS Wb w' g a len cap zs st):=by
 have HB0:Blw w (w.alloc (.cells #[.int .i64 nn,.int .i64 nf,.int .i64 nu,.int .i64 wd,.int .i64 0,.int .i64 tg,.int .i64 0,.int .i64 nr] 146)):=(Ae _ _).alloc (Ad _) _;have HS:Hid (RS Wb (w.alloc (.cells #[.int .i64 nn,.int .i64 nf,.int .i64 nu,.int .i64 wd,.int .i64 0,.int .i64 tg,.int .i64 0,.int .i64 nr] 146)) g a len cap zs st):=h.below HB0;have HX:Hid (Em (w.alloc (.cells #[.int .i64 nn,.int .i64 nf,.int .i64 nu,.int .i64 wd,.int .i64 0,.int .i64 tg,.int .i64 0,.int .i64 nr] 146)) w.heap.size ⟨nn,nf,nu,wd,0,tg,0,nr⟩):=Em.new w ⟨nn,nf,nu,wd,0,tg,0,nr⟩;clear h HB0;go_enter Tryz.func262,Tryz.ntmps262
 go_upto_region 1 with fail
 generalize (w.alloc (.cells #[.int .i64 nn,.int .i64 nf,.int .i64 nu,.int .i64 wd,.int .i64 0,.int .i64 tg,.int .i64 0,.int .i64 nr] 146))=W1 at*;generalize w.heap.size=b at*;have s4:=HX.out.2.2.2.2.1;have s6:=HX.out.2.2.2.2.2.2.1;simp only at s4 s6;go_wp2_with fail;go_loopw [5] (fun v wr=>wr=W1/\v=.slice none 0 0) (fun _ _=>0)
 case atStart=>exact⟨rfl,rfl⟩
 case round=>
  obtain⟨hwz,rfl⟩:=hrel;subst hwz;go_wp2_with fail;obtain⟨wz,hz⟩:∃z,z=wr:=⟨_,rfl⟩;subst hz;go_loopw [5] (fun v wr=>wr=wz/\v=.slice none 0 0) (fun _ _=>0)
  case atStart=>exact⟨rfl,rfl⟩
  case round=>
   obtain⟨hwz,rfl⟩:=hrel;subst hwz;go_wp2_with fail;go_ret;exact⟨⟨none,0,0⟩,rfl,QD _ _,HS.out⟩
def PZ(zs:List Int)(len:Nat)(st:Option Nat):List ByteArray × Option Nat:=
 let z:=val (tk zs st 1)
 let s1:=mv len st 1
 let s2:=mv len s1 z
 ([lb (tk zs s1 z),lb (tk zs s2 (lft len s2))],mv len s2 (lft len s2))
theorem Ss(Wb w:Ab)(g:Nat)(a:Option Addr)(len cap:Nat)(zs:List Int)(st:Option Nat)(nn nf nu wd tg:Nat)(nr:Int)(h:RS Wb w g a len cap zs st) :
  Ag Aa 262 #[.agg #[.int .i64 nn,.int .i64 nf,.int .i64 nu,.int .i64 wd,.int .i64 2,.int .i64 tg,.int .i64 1,.int .i64 nr],.pointer (some ⟨g,0,none⟩)] w fun e w'=>∃s:Sl,e=.returned (.slice s.a s.n s.c)/\Hid (BU Wb.heap.size w' s (PZ zs len st).1/\RS Wb w' g a len cap zs (PZ zs len st).2):=by
 have HB0:Below w.heap.size w (w.alloc (.cells #[.int .i64 nn,.int .i64 nf,.int .i64 nu,.int .i64 wd,.int .i64 2,.int .i64 tg,.int .i64 1,.int .i64 nr] 146)):=(Ae _ _).alloc (Ad _) _;have HS:Hid (RS Wb (w.alloc (.cells #[.int .i64 nn,.int .i64 nf,.int .i64 nu,.int .i64 wd,.int .i64 2,.int .i64 tg,.int .i64 1,.int .i64 nr] 146)) g a len cap zs st):=h.below HB0;have HX:Hid (Em (w.alloc (.cells #[.int .i64 nn,.int .i64 nf,.int .i64 nu,.int .i64 wd,.int .i64 2,.int .i64 tg,.int .i64 1,.int .i64 nr] 146)) w.heap.size ⟨nn,nf,nu,wd,2,tg,1,nr⟩):=Em.new w ⟨nn,nf,nu,wd,2,tg,1,nr⟩;have hbg:Wb.heap.size<=w.heap.size:=h.kp.size;have hgl:=h.gl;have hlm:=h.hm;have hhl:=h.hl;obtain⟨PR,hPR⟩:∃PR,PZ zs len st=PR:=⟨_,rfl⟩;have HPR:Hid (PR=([lb (tk zs (mv len st 1) (val (tk zs st 1))),lb (tk zs (mv len (mv len st 1) (val (tk zs st 1))) (lft len (mv len (mv len st 1) (val (tk zs st 1)))))],mv len (mv len (mv len st 1) (val (tk zs st 1))) (lft len (mv len (mv len st 1) (val (tk zs st 1)))))):=by show _=_;rw[<- hPR];rfl
 rw[hPR];have KB:Hid (∀W,RS Wb W g a len cap zs st->Ag Aa 279 #[.pointer (some ⟨g,0,none⟩)] W fun e w'=>e=.returned (.int .i64 (val (tk zs st 1)))/\Hid (RSt w' g a len cap (mv len st 1)/\W.grownBy w' (some g))):=fun W hW=>MK g a len cap zs st W hW.rst hW.rdW hW.hl hW.hc (by omega) hW.hd hW.off
 clear h HB0 hPR;generalize val (tk zs st 1)=z at*;generalize mv len st 1=st1 at*;have KT:Hid (∀W,RS Wb W g a len cap zs st1->Ag Aa 263 #[.pointer (some ⟨g,0,none⟩),.int .i64 z] W fun e w'=>∃s:Sl,e=.returned (.slice s.a s.n s.c)/\Hid (GO Wb.heap.size w' s (tk zs st1 z)/\RS Wb w' g a len cap zs (mv len st1 z)/\W.grownBy w' (some g))):=fun W hW=>UP Wb W g a len cap zs st1 z hW
 have HLB:Hid (∀W ao n c,Rd W ao (tk zs st1 z)->(tk zs st1 z).length=n->(convert 39 9 (.slice ao n c)).run Aa W=.ok (.string (lb (tk zs st1 z))) W):=fun W ao n c g1 g2=>Hk ao n c _ W g1 g2
 have hls:(lb (tk zs st1 z)).size<=1000000000000:=by rw[Fv];have:=La zs len hhl st1 z;omega
 generalize mv len st1 z=st2 at*;generalize tk zs st1 z=tks at*;generalize lb tks=f at*;have KL:Hid (∀W,RS Wb W g a len cap zs st2->Ag Aa 264 #[.pointer (some ⟨g,0,none⟩)] W fun e w'=>e=.returned (.int .i64 (lft len st2))/\Hid (RSt w' g a len cap st2/\W.grownBy w' (some g))):=fun W hW=>Pg g a len cap zs st2 W hW.rst hW.rdW hW.hl hW.hc (by omega) hW.hd hW.off
 have KT2:Hid (∀W,RS Wb W g a len cap zs st2->Ag Aa 263 #[.pointer (some ⟨g,0,none⟩),.int .i64 (lft len st2)] W fun e w'=>∃s:Sl,e=.returned (.slice s.a s.n s.c)/\Hid (GO Wb.heap.size w' s (tk zs st2 (lft len st2))/\RS Wb w' g a len cap zs (mv len st2 (lft len st2))/\W.grownBy w' (some g))):=fun W hW=>UP Wb W g a len cap zs st2 (lft len st2) hW
 have HLB2:Hid (∀W ao n c,Rd W ao (tk zs st2 (lft len st2))->(tk zs st2 (lft len st2)).length=n->(convert 39 9 (.slice ao n c)).run Aa W=.ok (.string (lb (tk zs st2 (lft len st2)))) W):=fun W ao n c g1 g2=>Hk ao n c _ W g1 g2
 have hls2:(lb (tk zs st2 (lft len st2))).size<=1000000000000:=by rw[Fv];have:=La zs len hhl st2 (lft len st2);omega
 generalize lft len st2=y at*;generalize mv len st2 y=st3 at*;generalize tk zs st2 y=tks2 at*;generalize lb tks2=f2 at*;clear hhl;go_enter Tryz.func262,Tryz.ntmps262
 go_upto_region 1 with fail
 generalize (w.alloc (.cells #[.int .i64 nn,.int .i64 nf,.int .i64 nu,.int .i64 wd,.int .i64 2,.int .i64 tg,.int .i64 1,.int .i64 nr] 146))=W1 at*;obtain⟨b,hb⟩:∃b,b=w.heap.size:=⟨_,rfl⟩;rw[<- hb]at HX hbg ⊢;have Hb:Hid (b=w.heap.size):=hb;clear hb;obtain⟨B1,hB1⟩:∃B1,B1=W1.heap.size:=⟨_,rfl⟩;have HB1:Hid (B1=W1.heap.size/\b<B1/\Wb.heap.size<=B1):=⟨hB1,by have:=HX.out.2.2.2.2.2.2.2.2;omega,by have:=HX.out.2.2.2.2.2.2.2.2;omega⟩;clear hB1;go_wp2_with fail;go_loopw [5] (fun v wr=>∃(s:Sl) (l:List ByteArray) (st':Option Nat),v=.slice s.a s.n s.c/\((s.n=0/\l=[]/\st'=st)∨(s.n=1/\l=[f]/\st'=st2))/\Hid (BU B1 wr s l/\RS Wb wr g a len cap zs st'/\Em wr b ⟨nn,nf,nu,wd,2,tg,1,nr⟩/\B1<=wr.heap.size)) (fun v _=>2 - lenOf v)
 case atStart=>exact⟨⟨none,0,0⟩,[],st,rfl,.inl ⟨rfl,rfl,rfl⟩,QD _ _,HS.out,HX.out,by have:=HB1.out;omega⟩
 case round=>
  obtain⟨s,l,st',rfl,hph,HG⟩:=hrel;have s4:=HG.out.2.2.1.2.2.2.2.1;have s6:=HG.out.2.2.1.2.2.2.2.2.2.1;simp only at s4 s6;obtain⟨hn0,rfl,rfl⟩|⟨hn0,rfl,rfl⟩:=hph
  ·have hq:(s.n:Int)<1:=by omega
   have HN0:Hid (s.n=0):=hn0;clear hn0;have HS1:Hid (BU B1 wr s []/\RS Wb wr g a len cap zs st'/\Em wr b ⟨nn,nf,nu,wd,2,tg,1,nr⟩/\B1<=wr.heap.size):=HG;clear KL KT2 HLB2;go_wp2_with fail;refine(KB.out _ HS1.out.2.1).mono ?_;rintro e w2 ⟨rfl,H2⟩;have HS2:Hid (BU B1 w2 s []/\RS Wb w2 g a len cap zs st1/\Em w2 b ⟨nn,nf,nu,wd,2,tg,1,nr⟩/\B1<=w2.heap.size):=⟨HS1.out.1.kept H2.out.2 (by have:=HB1.out;omega),HS1.out.2.1.to H2.out.1 H2.out.2,HS1.out.2.2.1.grown H2.out.2 (by omega),Aj HS1.out.2.2.2 H2.out.2.size⟩;clear KB H2 HS1 HG;go_wp2_with fail;refine(KT.out _ HS2.out.2.1).mono ?_;rintro e w3 ⟨s3,rfl,H3⟩;have HS3:Hid (BU B1 w3 s []/\RS Wb w3 g a len cap zs st2/\Em w3 b ⟨nn,nf,nu,wd,2,tg,1,nr⟩/\B1<=w3.heap.size):=⟨HS2.out.1.kept H3.out.2.2 (by have:=HB1.out;omega),H3.out.2.1,HS2.out.2.2.1.grown H3.out.2.2 (by omega),Aj HS2.out.2.2.2 H3.out.2.2.size⟩;have hcv:∀c,(convert 39 9 (.slice s3.a s3.n c)).run Aa w3=.ok (.string f) w3:=fun c=>HLB.out w3 s3.a s3.n c H3.out.1.rd.rd H3.out.1.rd.len
   have hnb:Below w3.heap.size w3 (w3.alloc (.cells #[.string f] 9)):=(Ae _ _).alloc (Ad _) _;have HS4:Hid (BU B1 (w3.alloc (.cells #[.string f] 9)) s []/\RS Wb (w3.alloc (.cells #[.string f] 9)) g a len cap zs st2/\Em (w3.alloc (.cells #[.string f] 9)) b ⟨nn,nf,nu,wd,2,tg,1,nr⟩/\B1<=(w3.alloc (.cells #[.string f] 9)).heap.size/\RdT (w3.alloc (.cells #[.string f] 9)) (some ⟨w3.heap.size,0,none⟩) [f]):=⟨HS3.out.1.stays hnb,HS3.out.2.1.below hnb,HS3.out.2.2.1.below hnb,Aj HS3.out.2.2.2 hnb.size,EN w3 f⟩;clear hnb H3 HS2 HS3 HLB KT;generalize s3.a=za at*;generalize s3.n=zn at*;generalize s3.c=zc at*;go_wp2_with (at_builtin;refine RM rfl _ _ rfl B1 s [] rfl HS4.out.1 ⟨w3.heap.size,0,none⟩ rfl f HS4.out.2.2.2.2 hls (by simp) HS4.out.2.2.2.1 ?_;intro t6 W6 HG6 HX6 HT6);refine⟨⟨t6,[f],st2,rfl,.inr ⟨HT6.out,rfl,rfl⟩,HG6.out,HS4.out.2.1.app HX6.out.1 (fun j hj=>Aj HB1.out.2.2 (HX6.out.2 j hj)),HS4.out.2.2.1.app HX6.out.1 (fun j hj=>Ap HB1.out.2.1 (HX6.out.2 j hj)),Aj HS4.out.2.2.2.1 HX6.out.1.size⟩,?_⟩;have h1:=HT6.out;have h2:=HN0.out;simp only[CZ]at h1;show 2 - t6.n<2 - s.n;omega
  ·have hq:¬ (s.n:Int)<1:=by omega
   have HN0:Hid (s.n=1):=hn0;clear hn0;clear KB KT HLB;go_wp2_with fail;obtain⟨wz,hz⟩:∃z,z=wr:=⟨_,rfl⟩;subst hz;go_loopw [5] (fun v wr=>∃(s':Sl) (l:List ByteArray) (st'':Option Nat),v=.slice s'.a s'.n s'.c/\((s'.n=1/\l=[f]/\st''=st')∨(s'.n=2/\l=[f,f2]/\st''=st3))/\Hid (BU B1 wr s' l/\RS Wb wr g a len cap zs st''/\Em wr b ⟨nn,nf,nu,wd,2,tg,1,nr⟩/\B1<=wr.heap.size)) (fun v _=>3 - lenOf v)
   case atStart=>exact⟨s,[f],st',rfl,.inl ⟨HN0.out,rfl,rfl⟩,HG.out⟩
   case round=>
    clear s4 s6 HG hq HN0;obtain⟨s',l,st'',rfl,hph,HG⟩:=hrel;have s4:=HG.out.2.2.1.2.2.2.2.1;simp only at s4;obtain⟨hn0,rfl,rfl⟩|⟨hn0,rfl,rfl⟩:=hph
    ·have hq:(s'.n:Int)<2:=by omega
     have HN0:Hid (s'.n=1):=hn0;clear hn0;go_wp2_with fail;refine(KL.out _ HG.out.2.1).mono ?_;rintro e w2 ⟨rfl,H2⟩;have HS2:Hid (BU B1 w2 s' [f]/\RS Wb w2 g a len cap zs st''/\Em w2 b ⟨nn,nf,nu,wd,2,tg,1,nr⟩/\B1<=w2.heap.size):=⟨HG.out.1.kept H2.out.2 (by have:=HB1.out;omega),HG.out.2.1.to H2.out.1 H2.out.2,HG.out.2.2.1.grown H2.out.2 (by omega),Aj HG.out.2.2.2 H2.out.2.size⟩;clear KL H2 HG s4;go_wp2_with fail;refine(KT2.out _ HS2.out.2.1).mono ?_;rintro e w3 ⟨s3,rfl,H3⟩;have HS3:Hid (BU B1 w3 s' [f]/\RS Wb w3 g a len cap zs st3/\Em w3 b ⟨nn,nf,nu,wd,2,tg,1,nr⟩/\B1<=w3.heap.size):=⟨HS2.out.1.kept H3.out.2.2 (by have:=HB1.out;omega),H3.out.2.1,HS2.out.2.2.1.grown H3.out.2.2 (by omega),Aj HS2.out.2.2.2 H3.out.2.2.size⟩;have hcv:∀c,(convert 39 9 (.slice s3.a s3.n c)).run Aa w3=.ok (.string f2) w3:=fun c=>HLB2.out w3 s3.a s3.n c H3.out.1.rd.rd H3.out.1.rd.len
     have hnb:Below w3.heap.size w3 (w3.alloc (.cells #[.string f2] 9)):=(Ae _ _).alloc (Ad _) _;have HS4:Hid (BU B1 (w3.alloc (.cells #[.string f2] 9)) s' [f]/\RS Wb (w3.alloc (.cells #[.string f2] 9)) g a len cap zs st3/\Em (w3.alloc (.cells #[.string f2] 9)) b ⟨nn,nf,nu,wd,2,tg,1,nr⟩/\B1<=(w3.alloc (.cells #[.string f2] 9)).heap.size/\RdT (w3.alloc (.cells #[.string f2] 9)) (some ⟨w3.heap.size,0,none⟩) [f2]):=⟨HS3.out.1.stays hnb,HS3.out.2.1.below hnb,HS3.out.2.2.1.below hnb,Aj HS3.out.2.2.2 hnb.size,EN w3 f2⟩;clear hnb H3 HS2 HS3 HLB2 KT2;generalize s3.a=za at*;generalize s3.n=zn at*;generalize s3.c=zc at*;go_wp2_with (at_builtin;refine RM rfl _ _ rfl B1 s' [f] rfl HS4.out.1 ⟨w3.heap.size,0,none⟩ rfl f2 HS4.out.2.2.2.2 hls2 (by simp) HS4.out.2.2.2.1 ?_;intro t6 W6 HG6 HX6 HT6);refine⟨⟨t6,[f,f2],st3,rfl,.inr ⟨HT6.out,rfl,rfl⟩,HG6.out,HS4.out.2.1.app HX6.out.1 (fun j hj=>Aj HB1.out.2.2 (HX6.out.2 j hj)),HS4.out.2.2.1.app HX6.out.1 (fun j hj=>Ap HB1.out.2.1 (HX6.out.2 j hj)),Aj HS4.out.2.2.2.1 HX6.out.1.size⟩,?_⟩;have h1:=HT6.out;have h2:=HN0.out;simp only[AP,CZ]at h1;show 3 - t6.n<3 - s'.n;omega
    ·have hq:¬ (s'.n:Int)<2:=by omega
     clear hn0;clear KL KT2 HLB2;go_wp2_with fail;go_ret;exact⟨s',rfl,by rw[HPR.out];exact HG.out.1.mono HB1.out.2.2,by rw[HPR.out];exact HG.out.2.1⟩
theorem Ea.keepTy{B:Nat}{w w':Ab}{s:Sl}{us:List Nat}(h:Ea B w s us)(hb:∀j,B<=j->j<w.heap.size->(∃zs,Co w j 36 zs)->w'.heap[j]?=w.heap[j]?):Ea B w' s us:=by
 obtain⟨xs,h1,h2,h3⟩:=h;refine⟨xs,?_,h2,h3⟩;obtain h1|⟨g,e,hg,hblk,hn⟩:=h1
 ·exact .inl h1
 ·exact .inr ⟨g,e,hg,hblk.same (hb g hg hblk.lt ⟨_,hblk⟩),hn⟩
theorem TR{w:Ab}{j:Nat}{t1 t2:BH}{xs ys:List Ao}(h1:Co w j t1 xs)(h2:Co w j t2 ys):t1=t2:=by
 have hh:w.heap[j]?=some (.cells xs.toArray t1 (0,0)):=h1;have hh':w.heap[j]?=some (.cells ys.toArray t2 (0,0)):=h2;rw[hh]at hh';injection hh' with hh'
 injection hh'
theorem Vr{w:Ab}{ops:Array Oper}{o:Oper}{a:Act}{K:Act->Ab->Prop}{Q:Exit->Act->Ab->Prop}{E:Prop}(hgd:o.guard=none)(s x:Operand)
  (ho:o.op=.call { callee:=.builtin .append,args:=#[s,x],argTypes:=#[37,37] }) (B:Nat) (s1 s2:Sl) (n1 n2:List (List ByteArray)) (hs:a.eval s=.slice s1.a s1.n s1.c) (hx:a.eval x=.slice s2.a s2.n s2.c) (h1:Dk B w (.slice s1.a s1.n s1.c) n1) (h2:Dk B w (.slice s2.a s2.n s2.c) n2) (hn:n1.length+n2.length<=1000) (hB:B<=w.heap.size)
  (h:∀(t':Sl) w',Hid (Dk B w' (.slice t'.a t'.n t'.c) (n1++n2))->Hid (∃o,w.grownBy w' o/\∀j,o=some j->B<=j/\∃zs,Co w j 23 zs)->K (a.put o.dst (.slice t'.a t'.n t'.c)) w') :
  if FQ o (yielded ops a.tmps)=true then Oper.wp Aa o a w K Q else E:=by
 obtain⟨xs,o1,q1⟩:=h1;obtain⟨ys,o2,q2⟩:=h2;have hl2:=o2.le;obtain⟨ao2,e2,_⟩:=o2.shape;have hsn:s2.n=n2.length:=by injection e2
 have o2':EI B w 23 (.slice s2.a n2.length s2.c) n2.length ys:=by rw[hsn]at o2;exact o2
 have hrd:=o2'.rd n2.length;have hlen:(ys.take n2.length).length=s2.n:=by rw[CC,hsn];exact Nat.min_eq_left hl2.1
 have hone:∀u∈ys.take n2.length,u.oneCell'=true:=by
  intro u hu;obtain⟨i,hi,rfl⟩:=List.getElem_of_mem hu;rw[CC]at hi;obtain⟨z,e1,_⟩:=q2 i (by omega);rw[List.getElem_take];rw[AF (by omega)]at e1;injection e1 with e1
  rw[e1]
  rfl
 refine FT vW hgd s x 37 ho B _ n1.length xs hs o1 _ s2.n (ys.take n2.length) hx (NE Tryz.underlying37 hrd hlen hone) (by omega) (by simp only[Gi];omega) hB ?_;intro v' w' xs' r1 r2 r3 r4;obtain⟨ao',rfl,_⟩:=r1.out.shape;have hle:=r1.out.le;have hx':xs'.take (n1.length+s2.n)=xs.take n1.length++ys.take n2.length:=r2.out;have hl1:(xs.take n1.length).length=n1.length:=by have:=o1.le.1;rw[CC];omega
 have hB1:∀j,Bm (.slice s1.a s1.n s1.c)=some j->B<=j/\∃zs,Co w j 23 zs:=by
  intro j hj;refine⟨o1.lt j hj,?_⟩;obtain⟨e3,_⟩|⟨g,e3,_,hblk,_⟩:=o1
  ·rw[e3]at hj;cases hj
  ·rw[e3]at hj;have e4:g=j:=(Bf hj);subst e4;exact⟨_,hblk⟩
 have hkb:∀j,B<=j->j<w.heap.size->(∃zs,Co w j 9 zs)->w'.heap[j]?=w.heap[j]?:=by
  rintro j _ hj ⟨zs,hz⟩;refine r3.out.block j hj (fun e=>?_);obtain⟨_,zs',hz'⟩:=hB1 j e.symm;exact absurd (TR hz hz') (by decide)
 refine h ⟨ao',n1.length+s2.n,xs'.length⟩ w' ⟨xs',by rw[Af,<- hsn];exact r1.out,fun i hi=>?_⟩ ⟨_,r3.out,hB1⟩;rw[Af]at hi;by_cases hlt:i<n1.length
 ·obtain⟨z,e1,e3⟩:=q1 i hlt;refine⟨z,?_,?_⟩
  ·have h3:(xs'.take (n1.length+s2.n))[i]?=(xs.take n1.length++ys.take n2.length)[i]?:=by rw[hx']
   rw[CK (by omega),List.getElem?_append_left (by omega),CK hlt,e1]at h3;exact h3
  ·rw[List.getElem_append_left hlt];exact e3.keep hkb
 ·obtain⟨z,e1,e3⟩:=q2 (i - n1.length) (by omega);refine⟨z,?_,?_⟩
  ·have h3:(xs'.take (n1.length+s2.n))[i]?=(xs.take n1.length++ys.take n2.length)[i]?:=by rw[hx']
   rw[CK (by omega),List.getElem?_append_right (by omega),hl1,CK (by omega),e1]at h3;exact h3
  ·rw[List.getElem_append_right (by omega)];exact e3.keep hkb
def Fe(f:Fs)(zs:List Int)(len:Nat)(st:Option Nat):List ByteArray × Option Nat:=if f.nt = -1 then IS zs len (len+1) st else if f.nt=2 then PZ zs len st else([],st)
theorem So(t:Nat)(Wb w:Ab)(g:Nat)(a:Option Addr)(len cap:Nat)(zs:List Int)(st:Option Nat)(h:RS Wb w g a len cap zs st) :
  Ag Aa 262 #[.agg #[.int .i64 (fs t).nn,.int .i64 (fs t).nf,.int .i64 (fs t).nu,.int .i64 (fs t).wd,.int .i64 (fs t).nt,.int .i64 (fs t).tg,.int .i64 (fs t).tl,.int .i64 (fs t).nr],.pointer (some ⟨g,0,none⟩)] w fun e w'=>∃s:Sl,e=.returned (.slice s.a s.n s.c)/\Hid (BU Wb.heap.size w' s (Fe (fs t) zs len st).1/\RS Wb w' g a len cap zs (Fe (fs t) zs len st).2):=by
 obtain⟨ht,e⟩|⟨ht,e⟩|⟨ht,e⟩|⟨ht,e⟩|⟨ht,e⟩|⟨ht,e⟩|⟨ht,e⟩|⟨ht,e⟩|⟨ht,e⟩:=Ew t;all_goals rw[e]
 all_goals first
  |exact Ut Wb w g a len cap zs st _ _ _ _ _ _ h
  |exact Sr Wb w g a len cap zs st _ _ _ _ _ _ h.rd.2 h
  |exact Ss Wb w g a len cap zs st _ _ _ _ _ _ h
def Ec(f:Fs)(zs:List Int)(len:Nat):Dat × Option Nat:=
 let r1:=BO zs len (some 0) f.nf
 let r2:=Dp zs len r1.2 f.wd f.nu
 let r3:=BO zs len r2.2 (f.nn - f.nf)
 let r4:=Fe f zs len r3.2
 let r5:List Int × Option Nat:=if f.nr=0 then([],r4.2) else(tk zs r4.2 (lft len r4.2),mv len r4.2 (lft len r4.2))
 (⟨r1.1++r3.1,r2.1,r4.1,r5.1⟩,r5.2)
def Stp(zs:List Int)(st st':Option Nat)(b:List Int):Prop:=∀q,st'=some q->∃p,st=some p/\(p<=zs.length->q<=zs.length/\zs.drop p=b++zs.drop q)
theorem Stp.nil(zs:List Int)(st:Option Nat):Stp zs st st []:=fun q hq=>⟨q,hq,fun h=>⟨h,rfl⟩⟩
theorem Stp.trans{zs:List Int}{a b c:Option Nat}{x y:List Int}(h1:Stp zs a b x)(h2:Stp zs b c y):Stp zs a c (x++y):=by
 intro q hq;obtain⟨p,e,hp⟩:=h2 q hq;obtain⟨p0,e0,hp0⟩:=h1 p e;refine⟨p0,e0,fun h=>?_⟩;obtain⟨h3,h4⟩:=hp0 h;obtain⟨h5,h6⟩:=hp h3;exact⟨h5,by rw[h4,h6,AR]⟩
theorem Stp.take(zs:List Int)(st:Option Nat)(n:Int):Stp zs st (mv zs.length st n) (tk zs st n):=by
 intro q hq;cases st with
 |none=>cases hq
 |some k=>
  simp only[mv]at hq;split at hq
  ·rename_i h
   cases hq;refine⟨k,rfl,fun _=>⟨by omega,?_⟩⟩;simp only[tk];rw[if_pos h,<- List.drop_drop,BE]
  ·cases hq
theorem Ov{zs:List Int}{p:Nat}{b R:List Int}(h:zs.drop p=b++R)(hp:p<=zs.length):zs=zs.take p++(b++R)/\(zs.take p).length=p/\zs.drop (p+b.length)=R/\p+b.length<=zs.length:=by
 refine⟨by rw[<- h,BE],by simp;omega,?_,?_⟩
 ·rw[<- List.drop_drop,h];simp
 ·have:=congrArg FH h;simp at this;omega
theorem Uq{zs:List Int}{k:Nat}{n:Int}{q:Nat}(h:mv zs.length (some k) n=some q):(tk zs (some k) n).length=n.toNat/\0<=n/\q=k+n.toNat:=by
 simp only[mv]at h;split at h
 ·rename_i hc
  cases h;simp only[tk];rw[if_pos hc];refine⟨by simp;omega,hc.1,trivial⟩
 ·cases h
theorem jQ(l:List Int)(wd:Nat)(hw:wd=1∨wd=2∨wd=4)(hl:l.length=wd)(hb:∀z∈l,0<=z/\z<=255):BR (val l).toNat wd=l:=by
 obtain rfl|rfl|rfl:=hw
 ·obtain⟨a,rfl⟩:=Sk hl;have:=hb a (by simp);simp[BR,val];omega
 ·obtain⟨a,b,rfl⟩:=WI hl;have h1:=hb a (by simp);have h2:=hb b (by simp);simp[BR,val];omega
 ·obtain _|⟨a,_|⟨b,_|⟨c,_|⟨d,_|⟨e,l⟩⟩⟩⟩⟩:=l <;> simp at hl;have h1:=hb a (by simp);have h2:=hb b (by simp);have h3:=hb c (by simp);have h4:=hb d (by simp);simp[BR,val];omega
theorem Stp.num(zs:List Int)(hb:∀z∈zs,0<=z/\z<=255)(st:Option Nat)(wd:Nat)(hw:wd=1∨wd=2∨wd=4):Stp zs st (mv zs.length st (wd:Int)) (BR (pnu zs st wd) wd):=by
 intro q hq;have h:=Stp.take zs st (wd:Int) q hq;obtain⟨p,rfl,h⟩:=h;refine⟨p,rfl,fun hp=>?_⟩;have hl:=(Uq hq).1;unfold pnu;rw[jQ _ wd hw (by omega) (Ja zs _ _ hb)];exact h hp
theorem Stp.us(zs:List Int)(hb:∀z∈zs,0<=z/\z<=255)(st:Option Nat)(wd:Nat)(hw:wd=1∨wd=2∨wd=4):∀k,Stp zs st (Dp zs zs.length st wd k).2 ((Dp zs zs.length st wd k).1.flatMap fun n=>BR n wd)
 |0=>Stp.nil zs st
 |k+1=>by
  have ih:=Stp.us zs hb st wd hw k;have:=ih.trans (Stp.num zs hb (Dp zs zs.length st wd k).2 wd hw);simpa[Dp] using this
theorem bX(l:List Int)(hb:∀z∈l,0<=z/\z<=255):∀(n p:Nat) (out o:List ByteArray) (q:Nat),l.length - p<=n->rgo l p out=some (o,q)->∃r,o=out++r/\q<=l.length/\l.drop p=nby r++(0::l.drop q):=by
 intro n;induction n with
 |zero=>
  intro p out o q hn h;rw[MI l p out (by omega)]at h;cases h
 |succ n ih=>
  intro p out o q hn h;by_cases h1:p<l.length/\l.getD p 0<=63
  ·have hd:l.drop p=l.getD p 0::l.drop (p+1):=by
    rw[El h1.1];simp[Am,h1.1]
   have hc:0<=l.getD p 0:=by
    have:=hb l[p] (AU h1.1);simpa[Am,h1.1] using this.1
   by_cases h0:l.getD p 0=0
   ·rw[Kc l p out h1 h0]at h;cases h;refine⟨[],by simp,by omega,?_⟩;rw[hd,h0]
    rfl
   ·by_cases h2:(l.length:Int) - ((p:Int)+1)<l.getD p 0
    ·rw[MD l p out h1 h0 h2]at h;cases h
    ·rw[Ka l p out h1 h0 h2]at h;obtain⟨r,e1,e2,e3⟩:=ih _ _ _ _ (by omega) h;refine⟨lb ((l.drop (p+1)).take (l.getD p 0).toNat)::r,by rw[e1];simp,e2,?_⟩;have hlen:((l.drop (p+1)).take (l.getD p 0).toNat).length=(l.getD p 0).toNat:=by rw[CC,Bg];omega
     have hnm:Ai (lb ((l.drop (p+1)).take (l.getD p 0).toNat))=(l.drop (p+1)).take (l.getD p 0).toNat:=IQ _ fun z hz=>hb z (CT (Be hz))
     have hf:nby (lb ((l.drop (p+1)).take (l.getD p 0).toNat)::r)=((lb ((l.drop (p+1)).take (l.getD p 0).toNat)).size:Int)::(Ai (lb ((l.drop (p+1)).take (l.getD p 0).toNat))++nby r):=by simp[nby]
     rw[hf,Fv,hlen,hnm,hd];have hz:(((l.getD p 0).toNat:Nat):Int)=l.getD p 0:=by omega
     have e4:(l.drop (p+1)).drop (l.getD p 0).toNat=l.drop (p+1+(l.getD p 0).toNat):=List.drop_drop;rw[hz,Ay,AR,<- e3,<- e4,BE]
  ·rw[MI l p out h1]at h;cases h
theorem VA{zs:List Int}(hb:∀z∈zs,0<=z/\z<=255){p:Nat}(h:(Dt zs (p:Int)).2.2=0):∃q:Nat,(Dt zs (p:Int)).2.1=(q:Int)/\q<=zs.length/\zs.drop p=nmB (Dt zs (p:Int)).1++zs.drop q:=by
 by_cases h1:(p:Int)<0∨(zs.length:Int)<=(p:Int)
 ·have e:Dt zs (p:Int)=([],0,2):=by unfold Dt;rw[if_pos h1]
  rw[e]at h;exact absurd h (by decide)
 ·cases hr:rgo zs p [] with
  |none=>
   have e:Dt zs (p:Int)=([],0,8):=by unfold Dt;rw[if_neg h1,BM,hr]
   rw[e]at h;exact absurd h (by decide)
  |some x=>
   obtain⟨o,q⟩:=x;by_cases hk:nck o=0
   ·have e:Dt zs (p:Int)=(o,(q:Int),0):=by unfold Dt;rw[if_neg h1,BM,hr];simp[hk]
    obtain⟨r,e1,e2,e3⟩:=bX zs hb _ p [] o q (Ad _) hr;rw[e];refine⟨q,rfl,e2,?_⟩;simp at e1;subst e1;rw[e3];simp[nmB]
   ·have e:Dt zs (p:Int)=([],0,8):=by unfold Dt;rw[if_neg h1,BM,hr];simp[hk]
    rw[e]at h;exact absurd h (by decide)
theorem Stp.nm(zs:List Int)(hb:∀z∈zs,0<=z/\z<=255)(st:Option Nat):Stp zs st (Sq zs zs.length st).2 (nmB (Sq zs zs.length st).1):=by
 intro q hq;cases st with
 |none=>cases hq
 |some p=>
  refine⟨p,rfl,fun hp=>?_⟩;have hq':jm zs.length (some p) (if (Dt zs (p:Int)).2.2=0 then(Dt zs (p:Int)).2.1 else -1)=some q:=hq;show q<=zs.length/\zs.drop p=nmB (Dt zs (p:Int)).1++zs.drop q;by_cases h0:(Dt zs (p:Int)).2.2=0
  ·obtain⟨r,e1,e2,e3⟩:=VA hb h0;rw[if_pos h0,e1]at hq';simp only[jm]at hq';rw[if_pos ⟨by omega,by omega⟩,BM]at hq';cases hq';exact⟨e2,e3⟩
  ·rw[if_neg h0]at hq';simp only[jm]at hq';rw[if_neg (by omega)]at hq';cases hq'
theorem Stp.nms(zs:List Int)(hb:∀z∈zs,0<=z/\z<=255)(st:Option Nat):∀k,Stp zs st (BO zs zs.length st k).2 ((BO zs zs.length st k).1.flatMap nmB)
 |0=>Stp.nil zs st
 |k+1=>by
  have ih:=Stp.nms zs hb st k;have:=ih.trans (Stp.nm zs hb (BO zs zs.length st k).2);simpa[BO] using this
theorem Wn(s:ByteArray)(r:List ByteArray):nby (s::r)=((s.size:Int)::Ai s)++nby r:=by simp[nby]
theorem Stp.text(zs:List Int)(hb:∀z∈zs,0<=z/\z<=255)(st:Option Nat):Stp zs st (mv zs.length (mv zs.length st 1) (val (tk zs st 1))) (((lb (tk zs (mv zs.length st 1) (val (tk zs st 1)))).size:Int)::Ai (lb (tk zs (mv zs.length st 1) (val (tk zs st 1))))):=by
 intro q hq;obtain⟨p1,e1,hB⟩:=Stp.take zs _ _ q hq;obtain⟨p0,rfl,hA⟩:=Stp.take zs _ _ p1 e1;have h1:=Uq e1;rw[e1]at hq hB ⊢;have h2:=Uq hq;obtain⟨c,hc⟩:=Sk (l:=tk zs (some p0) 1) (by simpa using h1.1);have hv:val (tk zs (some p0) 1)=c:=by rw[hc];simp[val]
 refine⟨p0,rfl,fun hp=>?_⟩;obtain⟨a1,a2⟩:=hA hp;obtain⟨b1,b2⟩:=hB a1;refine⟨b1,?_⟩;have hnm:Ai (lb (tk zs (some p1) (val (tk zs (some p0) 1))))=tk zs (some p1) (val (tk zs (some p0) 1)):=IQ _ (Ja zs _ _ hb);rw[hnm,Fv,h2.1,a2,b2,hc];have:(((val (tk zs (some p0) 1)).toNat:Nat):Int)=c:=by omega
 rw[hc]at this;rw[this];simp
theorem Stp.texts(zs:List Int)(hb:∀z∈zs,0<=z/\z<=255):∀(k:Nat) (st:Option Nat),Stp zs st (IS zs zs.length k st).2 (nby (IS zs zs.length k st).1)
 |0,st=>Stp.nil zs st
 |k+1,st=>by
  by_cases h:0<lft zs.length st
  ·have ih:=Stp.texts zs hb k (mv zs.length (mv zs.length st 1) (val (tk zs st 1)));have:=(Stp.text zs hb st).trans ih;unfold IS;rw[if_pos h];simp only;rw[Wn];exact this
  ·rw[Ob zs zs.length (k+1) st h];exact Stp.nil zs st
theorem Stp.two(zs:List Int)(hb:∀z∈zs,0<=z/\z<=255)(st:Option Nat):Stp zs st (PZ zs zs.length st).2 (ptB 1 (PZ zs zs.length st).1):=by
 have h1:=Stp.text zs hb st;have h2:=h1.trans (Stp.take zs (mv zs.length (mv zs.length st 1) (val (tk zs st 1))) (lft zs.length (mv zs.length (mv zs.length st 1) (val (tk zs st 1)))));have e:ptB 1 (PZ zs zs.length st).1=(((lb (tk zs (mv zs.length st 1) (val (tk zs st 1)))).size:Int)::Ai (lb (tk zs (mv zs.length st 1) (val (tk zs st 1)))))++tk zs (mv zs.length (mv zs.length st 1) (val (tk zs st 1))) (lft zs.length (mv zs.length (mv zs.length st 1) (val (tk zs st 1)))):=by
  have hn:Ai (lb (tk zs (mv zs.length (mv zs.length st 1) (val (tk zs st 1))) (lft zs.length (mv zs.length (mv zs.length st 1) (val (tk zs st 1))))))=tk zs (mv zs.length (mv zs.length st 1) (val (tk zs st 1))) (lft zs.length (mv zs.length (mv zs.length st 1) (val (tk zs st 1)))):=IQ _ (Ja zs _ _ hb);simp[ptB,PZ,nby,hn]
 rw[e];exact h2
theorem iY(zs:List Int)(len:Nat)(st:Option Nat):(PZ zs len st).1.length=2:=rfl
theorem Stp.txs(t:Nat)(zs:List Int)(hb:∀z∈zs,0<=z/\z<=255)(st:Option Nat):Stp zs st (Fe (fs t) zs zs.length st).2 (ptB ((Fe (fs t) zs zs.length st).1.length - (fs t).tl) (Fe (fs t) zs zs.length st).1):=by
 obtain⟨ht,e⟩|⟨ht,e⟩|⟨ht,e⟩|⟨ht,e⟩|⟨ht,e⟩|⟨ht,e⟩|⟨ht,e⟩|⟨ht,e⟩|⟨ht,e⟩:=Ew t;all_goals rw[e];unfold Fe
 all_goals first
  |exact Stp.two zs hb st
  |(simp only[if_true];rw[UJ];exact Stp.texts zs hb _ st)
  |exact Stp.nil zs st
theorem wW(t:Nat):(fs t).nu=0∨(fs t).wd=1∨(fs t).wd=2∨(fs t).wd=4:=by
 obtain⟨_,e⟩|⟨_,e⟩|⟨_,e⟩|⟨_,e⟩|⟨_,e⟩|⟨_,e⟩|⟨_,e⟩|⟨_,e⟩|⟨_,e⟩:=Ew t <;> rw[e] <;> simp
theorem VE(t:Nat)(zs:List Int)(hb:∀z∈zs,0<=z/\z<=255)(hp:(Ec (fs t) zs zs.length).2=some zs.length)(hck:Bw t (Ec (fs t) zs zs.length).1=0):CD t (Ec (fs t) zs zs.length).1=zs:=by
 obtain⟨_,hfit,_,_⟩:=Eg hck;have hw:=(rR t _ hfit).2.2.2.2.2;rw[<- hw];have hu:Stp zs (BO zs zs.length (some 0) (fs t).nf).2 (Dp zs zs.length (BO zs zs.length (some 0) (fs t).nf).2 (fs t).wd (fs t).nu).2 ((Dp zs zs.length (BO zs zs.length (some 0) (fs t).nf).2 (fs t).wd (fs t).nu).1.flatMap fun n=>BR n (fs t).wd):=by
  obtain h|h:=wW t
  ·rw[h];exact Stp.nil _ _
  ·exact Stp.us zs hb _ _ h _
 have h123:=(((Stp.nms zs hb (some 0) (fs t).nf).trans hu).trans (Stp.nms zs hb _ ((fs t).nn - (fs t).nf))).trans (Stp.txs t zs hb _);have hr:Stp zs (some 0) (Ec (fs t) zs zs.length).2 (((BO zs zs.length (some 0) (fs t).nf).1.flatMap nmB++(Dp zs zs.length (BO zs zs.length (some 0) (fs t).nf).2 (fs t).wd (fs t).nu).1.flatMap (fun n=>BR n (fs t).wd)++(BO zs zs.length (Dp zs zs.length (BO zs zs.length (some 0) (fs t).nf).2 (fs t).wd (fs t).nu).2 ((fs t).nn - (fs t).nf)).1.flatMap nmB++ptB ((Fe (fs t) zs zs.length (BO zs zs.length (Dp zs zs.length (BO zs zs.length (some 0) (fs t).nf).2 (fs t).wd (fs t).nu).2 ((fs t).nn - (fs t).nf)).2).1.length - (fs t).tl) (Fe (fs t) zs zs.length (BO zs zs.length (Dp zs zs.length (BO zs zs.length (some 0) (fs t).nf).2 (fs t).wd (fs t).nu).2 ((fs t).nn - (fs t).nf)).2).1)++(Ec (fs t) zs zs.length).1.raw):=by
  refine h123.trans ?_;unfold Ec;simp only;split
  ·exact Stp.nil _ _
  ·exact Stp.take _ _ _
 obtain⟨p,e,h⟩:=hr _ hp;cases e;obtain⟨_,h2⟩:=h (Aw _);have hk:(BO zs zs.length (some 0) (fs t).nf).1.length=(fs t).nf:=Jj _ _ _ _;have e1:(Ec (fs t) zs zs.length).1.ns.take (fs t).nf=(BO zs zs.length (some 0) (fs t).nf).1:=by
  show((BO zs zs.length (some 0) (fs t).nf).1++_).take (fs t).nf=_;rw[List.take_left' hk]
 have e2:(Ec (fs t) zs zs.length).1.ns.drop (fs t).nf=(BO zs zs.length (Dp zs zs.length (BO zs zs.length (some 0) (fs t).nf).2 (fs t).wd (fs t).nu).2 ((fs t).nn - (fs t).nf)).1:=by
  show((BO zs zs.length (some 0) (fs t).nf).1++_).drop (fs t).nf=_;rw[List.drop_left' hk]
 rw[e1,e2];rw[List.drop_zero,List.drop_length,List.append_nil]at h2;exact h2.symm
theorem mK{zs:List Int}{p:Nat}{n:List ByteArray}{R:List Int}(h:zs.drop p=nmB n++R)(hp:p<=zs.length)(hk:nck n=0):Sq zs zs.length (some p)=(n,some (p+nsz n)):=by
 obtain⟨e1,e2,_,e4⟩:=Ov h hp;have hg:=Kh (zs.take p) R n hk;rw[<- e1,e2]at hg;obtain⟨g1,_,_,g4⟩:=iX hg;simp only[Sq,pos,g4,jm,if_true];rw[if_pos ⟨by omega,by omega⟩];simp;omega
theorem Ux{zs:List Int}{p:Nat}{ns:List (List ByteArray)}{R:List Int}(h:zs.drop p=ns.flatMap nmB++R)(hp:p<=zs.length)(hk:∀n∈ns,nck n=0):∀k,k<=ns.length->BO zs zs.length (some p) k=(ns.take k,some (p+((ns.take k).flatMap nmB).length))
 |0,_=>by simp[BO]
 |k+1,hk1=>by
  have ih:=Ux h hp hk k (by omega);have hd:zs.drop p=(ns.take k).flatMap nmB++((ns.drop k).flatMap nmB++R):=by
   rw[h,<- AR,<- Dm,BE]
  obtain⟨_,_,e3,e4⟩:=Ov hd hp;have hdk:ns.drop k=ns[k]::ns.drop (k+1):=El (by omega);rw[hdk,Cn,AR]at e3;have h1:=mK e3 e4 (hk _ (AU _));simp only[BO,ih,h1];rw[AH (by omega),Dm];simp[Qq];omega
theorem YD{zs:List Int}{p wd:Nat}{us:List Nat}{R:List Int}(h:zs.drop p=us.flatMap (fun n=>BR n wd)++R)(hp:p<=zs.length)(hw:us=[]∨wd=1∨wd=2∨wd=4)(hu:∀u∈us,u<=Cg wd):∀k,k<=us.length->Dp zs zs.length (some p) wd k=(us.take k,some (p+((us.take k).flatMap (fun n=>BR n wd)).length))
 |0,_=>by simp[Dp]
 |k+1,hk1=>by
  have ih:=YD h hp hw hu k (by omega);have hw':wd=1∨wd=2∨wd=4:=hw.resolve_left (fun e=>by rw[e]at hk1;simp at hk1);have hd:zs.drop p=(us.take k).flatMap (fun n=>BR n wd)++((us.drop k).flatMap (fun n=>BR n wd)++R):=by
   rw[h,<- AR,<- Dm,BE]
  obtain⟨_,_,e3,e4⟩:=Ov hd hp;have hdk:us.drop k=us[k]::us.drop (k+1):=El (by omega);rw[hdk,Cn,AR]at e3;have hl:=Fm us[k] wd hw';obtain⟨_,_,e5,e6⟩:=Ov e3 e4;have hm:=hu us[k] (AU _);have htk:tk zs (some (p+((us.take k).flatMap (fun n=>BR n wd)).length)) (wd:Int)=BR us[k] wd:=by
   simp only[tk];rw[if_pos ⟨by omega,by omega⟩,e3,BM,Bs (by omega),Al (by omega)]
  have h1:pnu zs (some (p+((us.take k).flatMap (fun n=>BR n wd)).length)) wd=us[k]:=by
   unfold pnu;rw[htk];refine Vj _ _ ?_;obtain rfl|rfl|rfl:=hw'
   ·exact .inl ⟨rfl,by simpa[Cg] using hm⟩
   ·exact .inr (.inl ⟨rfl,by simpa[Cg] using hm⟩)
   ·exact .inr (.inr ⟨rfl,by simpa[Cg] using hm⟩)
  have h2:mv zs.length (some (p+((us.take k).flatMap (fun n=>BR n wd)).length)) (wd:Int)=some (p+((us.take k).flatMap (fun n=>BR n wd)).length+wd):=by
   simp only[mv];rw[if_pos ⟨by omega,by omega⟩];simp
  simp only[Dp,ih,h1,h2];rw[AH (by omega),Dm];simp[hl];omega
theorem YB{zs:List Int}{p:Nat}{s:ByteArray}{R:List Int}(h:zs.drop p=((s.size:Int)::Ai s)++R)(hp:p<=zs.length):val (tk zs (some p) 1)=(s.size:Int)/\mv zs.length (some p) 1=some (p+1)/\tk zs (some (p+1)) (s.size:Int)=Ai s/\mv zs.length (some (p+1)) (s.size:Int)=some (p+1+s.size)/\zs.drop (p+1+s.size)=R/\p+1+s.size<=zs.length:=by
 obtain⟨_,_,e3,e4⟩:=Ov h hp;have hn:=Av s;simp only[AP]at e3 e4;have e1:zs.drop (p+1)=Ai s++R:=by rw[<- List.drop_drop,h];rfl
 refine⟨?_,?_,?_,?_,?_,by omega⟩
 ·simp only[tk];rw[if_pos ⟨by omega,by omega⟩,h];simp[val]
 ·simp only[mv];rw[if_pos ⟨by omega,by omega⟩];simp
 ·simp only[tk];rw[if_pos ⟨by omega,by omega⟩,e1,BM,Bs (by omega),Al (by omega)]
 ·simp only[mv];rw[if_pos ⟨by omega,by omega⟩];simp
 ·rw[<- e3];congr 1;omega
theorem Zh{zs:List Int}:∀(l:List ByteArray) (p k:Nat),zs.drop p=nby l->p<=zs.length->l.length<k->IS zs zs.length k (some p)=(l,some zs.length)
 |[],p,k,h,hp,hk=>by
  have:zs.length - p=0:=by have:=congrArg FH h;simpa[nby] using this
  rw[Ob zs zs.length k (some p) (by simp[lft];omega)];have:p=zs.length:=by omega
  rw[this]
 |s::r,p,0,h,hp,hk=>by simp at hk
 |s::r,p,k+1,h,hp,hk=>by
  rw[Wn]at h;obtain⟨e1,e2,e3,e4,e5,e6⟩:=YB h hp;have ih:=Zh r (p+1+s.size) k e5 e6 (by simp at hk;omega);unfold IS;rw[if_pos (by simp[lft];omega),e1,e2,e4,e3,ih];have:lb (Ai s)=s:=Ey s;rw[this]
theorem YO{zs:List Int}{P:Nat}{X:List Int}(hP:zs.drop P=X)(hPl:P<=zs.length):tk zs (some P) (lft zs.length (some P))=X/\mv zs.length (some P) (lft zs.length (some P))=some zs.length:=by
 have hlP:=congrArg FH hP;rw[Bg]at hlP;have hf:lft zs.length (some P)=(zs.length:Int) - (P:Int):=rfl;rw[hf];constructor
 ·simp only[tk];rw[if_pos ⟨by omega,by omega⟩,hP,Al (by omega)]
 ·simp only[mv];rw[if_pos ⟨by omega,by omega⟩];congr 1;omega
theorem qP{zs:List Int}{p:Nat}{s r:ByteArray}(h:zs.drop p=((s.size:Int)::Ai s)++Ai r)(hp:p<=zs.length):PZ zs zs.length (some p)=([s,r],some zs.length):=by
 obtain⟨e1,e2,e3,e4,e5,e6⟩:=YB h hp;obtain⟨h1,h2⟩:=YO e5 e6;have hs:lb (Ai s)=s:=Ey s;have hr:lb (Ai r)=r:=Ey r;unfold PZ;simp only[e1,e2,e3,e4,h1,h2,hs,hr]
theorem vF(l:List ByteArray):l.length<=(nby l).length:=by
 have:=Ot l;have:=Gt l;omega
theorem mJ(a b:ByteArray):ptB 1 [a,b]=((a.size:Int)::Ai a)++Ai b:=by simp[ptB,nby]
theorem eS(t:Nat)(d:Dat)(zs:List Int)(hck:Bw t d=0)(hw:CD t d=zs):Ec (fs t) zs zs.length=(d,some zs.length):=by
 obtain⟨hm,hfit,hns,hsz⟩:=Eg hck;obtain⟨_,w1,w2,w3,w4,w5⟩:=rR t d hfit;rw[hw]at w5;have hfe:=XC t d;rw[hfit]at hfe;simp only[AA]at hfe;have hcnt:=hfe.1;unfold Qc at hcnt;simp only[AA]at hcnt;obtain⟨⟨⟨c1,c2⟩,c3⟩,c4⟩:=hcnt;rw[Bb _ _ (by omega)]at c1 c2;have c1':d.ns.length=(fs t).nn:=by have:=of_decide_eq_true c1;omega
 have c2':d.us.length=(fs t).nu:=by have:=of_decide_eq_true c2;omega
 have hun:=((Ue t d).1 hfit).un;rw[<- w3]at hun;have hww:d.us=[]∨(fs t).wd=1∨(fs t).wd=2∨(fs t).wd=4:=by
  obtain h|h:=wW t
  ·exact .inl (IH (by omega))
  ·exact .inr h
 have z1:zs.drop 0=(d.ns.take (fs t).nf).flatMap nmB++(d.us.flatMap (fun n=>BR n (fs t).wd)++((d.ns.drop (fs t).nf).flatMap nmB++(ptB (d.ts.length - (fs t).tl) d.ts++d.raw))):=by
  rw[List.drop_zero,<- w5];simp
 have q1:=Ux z1 (Aw _) (fun n hn=>hns n (Be hn)) (fs t).nf (by simp;omega);rw[List.take_take,Nat.min_self]at q1;obtain⟨_,_,z2,l2⟩:=Ov z1 (Aw _);have q2:=YD z2 l2 hww hun (fs t).nu (by omega);have ht1:d.us.take (fs t).nu=d.us:=Al (by omega);rw[ht1]at q2;obtain⟨_,_,z3,l3⟩:=Ov z2 l2;have q3:=Ux z3 l3 (fun n hn=>hns n (CT hn)) ((fs t).nn - (fs t).nf) (by simp;omega);have ht2:(d.ns.drop (fs t).nf).take ((fs t).nn - (fs t).nf)=d.ns.drop (fs t).nf:=Al (by simp;omega);rw[ht2]at q3;obtain⟨_,_,z4,l4⟩:=Ov z3 l3;have q4:Fe (fs t) zs zs.length (some (0+((d.ns.take (fs t).nf).flatMap nmB).length+(d.us.flatMap (fun n=>BR n (fs t).wd)).length+((d.ns.drop (fs t).nf).flatMap nmB).length))=(d.ts,some (0+((d.ns.take (fs t).nf).flatMap nmB).length+(d.us.flatMap (fun n=>BR n (fs t).wd)).length+((d.ns.drop (fs t).nf).flatMap nmB).length+(ptB (d.ts.length - (fs t).tl) d.ts).length))/\((fs t).nr=0->d.raw=[]):=by
  clear q1 q2 q3 z1 z2 z3 l2 l3;generalize 0+((d.ns.take (fs t).nf).flatMap nmB).length+(d.us.flatMap (fun n=>BR n (fs t).wd)).length+((d.ns.drop (fs t).nf).flatMap nmB).length=p at*;have hlz:(zs.drop p).length=zs.length - p:=by simp
  obtain⟨ht,e⟩|⟨ht,e⟩|⟨ht,e⟩|⟨ht,e⟩|⟨ht,e⟩|⟨ht,e⟩|⟨ht,e⟩|⟨ht,e⟩|⟨ht,e⟩:=Ew t;all_goals rw[e]at c3 c4 z4 ⊢
  all_goals simp only at z4 c3 c4 ⊢
  case inr.inr.inr.inr.inr.inr.inl=>
   have hraw:d.raw=[]:=BJ (by rw[Bb _ _ (by omega)]at c4;simpa using c4);rw[hraw,UJ,List.append_nil]at z4;have:=vF d.ts;refine⟨?_,fun _=>hraw⟩;unfold Fe;rw[if_pos rfl,Zh d.ts p _ z4 l4 (by rw[z4]at hlz;omega),UJ];rw[z4]at hlz;congr 2;omega
  case inr.inr.inr.inr.inr.inr.inr.inl=>
   have hraw:d.raw=[]:=BJ (by rw[Bb _ _ (by omega)]at c4;simpa using c4);have h2:d.ts.length=2:=by rw[Bb _ _ (by omega)]at c3;simp at c3;omega
   obtain⟨a,b,hab⟩:=WI h2;refine⟨?_,fun _=>hraw⟩;rw[hab,hraw,List.append_nil]at z4;have z5:zs.drop p=ptB 1 [a,b]:=z4;rw[mJ]at z5;unfold Fe;rw[if_neg (by decide),if_pos rfl,qP z5 l4,hab];rw[z4]at hlz;congr 2;omega
  all_goals
   have hts:d.ts=[]:=BJ (by rw[Bb _ _ (by omega)]at c3;simpa using c3);refine⟨?_,?_⟩
   ·rw[hts];unfold Fe;simp[ptB,nby]
   ·first
     |(intro h;exact absurd h (by decide))
     |(intro _;exact BJ (by rw[Bb _ _ (by omega)]at c4;simpa using c4))
 obtain⟨q4,hraw⟩:=q4;obtain⟨_,_,z5,l5⟩:=Ov z4 l4;unfold Ec;simp only[q1,q2,q3,q4];have hlz:=congrArg FH z5;rw[Bg]at hlz;have hnn:d.ns.take (fs t).nf++d.ns.drop (fs t).nf=d.ns:=BE _ _;rw[hnn];split
 ·rename_i h
  have hr:=hraw h;rw[hr]at hlz;have hP:=Nat.le_antisymm l5 (Nat.le_of_sub_eq_zero hlz);rw[hP,<- hr]
 ·obtain⟨r1,r2⟩:=YO z5 l5;rw[r1,r2]
theorem bP(t:Nat)(zs:List Int)(hb:∀z∈zs,0<=z/\z<=255):(if (Ec (fs t) zs zs.length).2=some zs.length/\Bw t (Ec (fs t) zs zs.length).1=0 then some (Ec (fs t) zs zs.length).1 else none)=JI t zs:=by
 refine UZ ?_ ?_
 ·intro d h;split at h
  ·rename_i hc
   cases h;exact⟨hc.2,VE t zs hb hc.1 hc.2⟩
  ·cases h
 ·intro h d hck hw;have:=eS t d zs hck hw;rw[this]at h;simp only at h;rw[if_pos ⟨trivial,hck⟩]at h;cases h
end Go.Proofs.YtoppdmlmhigogaaGreatDoor
