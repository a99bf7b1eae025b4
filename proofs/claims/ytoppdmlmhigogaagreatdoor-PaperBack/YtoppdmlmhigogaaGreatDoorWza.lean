/- Texts laid together, in parts: Row Tl Tm Base Own Str Byt Bld Bld2 Txt Fld Ord Par Nr Ns Nt Nu Gr Sp. -/
import Derived.WalkKit
import Derived.ProofKit
import Derived.Below
import Derived.OwnWalk
import Derived.Laws.AppendOwn
import Derived.Laws.CopyOwn
import Derived.Deep.AppendSrc
import Derived.Test.YtoppdmlmhigogaaGreatDoorRows
import Derived.WalkSpells
import Derived.Deep.QuietTactic
import Derived.BigQuiet
import Derived.Deep.RegionHeld3
import Derived.Laws.BitsAllLaws
import Derived.Laws.IdiomStrings
import Derived.Lib.Builder
import Derived.Lib.UnsafeStr
import Derived.Lib.Bytealg
import Derived.Lib.ItoaNum
import Derived.Lib.AtoiTie
import Derived.Lib.AtoiBound
set_option maxRecDepth 100000
set_option maxHeartbeats 8000000
set_option linter.unusedVariables false
set_option linter.unusedSimpArgs false
open Array renaming getElem?_eq_some_iff → As, getElem?_eq_getElem → FO, getElem_modify → Ni
open Bool renaming and_eq_true → AA
open ByteArray renaming size_append → Lu
open ByteArray.toList renaming loop → Jt
open Go renaming World → Ab, Calls → Ag, Value → Ao, heap_alloc_new → Au, TypeId → BH, run_underlying → Cb, grownCap → EX, maxLen → Gi, info_parts → PT
open Go.Addr renaming add_lit → Js, add → Kk
open Go.Builtin renaming append_ → BQ, zeroCells → Er, unsafeString_ → Ib, lenOf → Il, firstCells → JD, unsafeSliceData_ → Km
open Go.Lib renaming byteCells → Ak, decDigits → Bl, byteCells_length → Dr, run_unsafeString_none → ML
open Go.Proofs.Tryz renaming prog → Aa, underlying39 → AI, underlying9 → AK, underlying5 → Ba, underlying23 → BV, underlying22 → Dy, underlying106 → Ho
open Go.RowKit.Below renaming refl → Ae, heap_setCell → Ar, heap_alloc → EP
open Go.Value renaming int → AL, ownBlock → Bm, slice → Ce
open Go.World renaming cell? → Az, cell?_of_block → AE, setCell → Dq, frozen? → Dv
open Go.World.grownBy renaming refl → DU
open Int renaming toNat_natCast → BM
open List renaming length_append → Af, take_of_length_le → Al, getD_eq_getElem?_getD → Am, mem_cons → Ax, cons_append → Ay, eq_nil_of_length_eq_zero → AC, getElem?_eq_getElem → AF, mem_append → AG, take_succ_eq_append_getElem → AH, replicate → AM, length_cons → AP, nil_append → AQ, append_assoc → AR, length_map → AS, getElem_mem → AU, mem_map → AY, mem_singleton → Bc, mem_of_mem_take → Be, length_drop → Bg, map_cons → Bh, take_append_of_le_length → Bs, take_append_drop → BE, length_singleton → Ch, flatMap_cons → Cn, mem_of_mem_drop → CT, length_nil → CZ, map_nil → Df, drop_eq_nil_of_le → DH, map_append → DL, drop_eq_getElem_cons → El, getElem?_eq_some_iff → EC, map_congr_left → ED, foldl_cons → EY, map_map → Fq, length → FH, foldl_append → FP, getElem?_set → Kn, length_replicate → LI, mem_replicate → MW, getElem?_eq_none → MX, foldl_nil → PV
open List.cons renaming injEq → PU
open Nat renaming le_refl → Ad, le_trans → Aj, lt_of_lt_of_le → Ap, zero_le → Aw, zero_add → Fg, strongRecOn → FI
open Option renaming bind_some → BL, isSome_iff_exists → Lt
open Option.some renaming inj → Bf
open UInt8 renaming ofNat → CS
namespace Go.Proofs.YtoppdmlmhigogaaGreatDoor
open Go.ChangeShapes Go.WideShapes Go.ChangeAt Go.RowKit
def RdV(w:Ab)(a:Option Addr)(xs:List Ao):Prop:=
 xs=[]∨∃b o,a=some ⟨b,o,none⟩/\b<w.heap.size/\∀i (h:i<xs.length),w.cell? ⟨b,o+i,none⟩=some xs[i]
abbrev Blw(w v:Ab):Prop:=Below w.heap.size w v
theorem RdV.below{w w':Ab}{a:Option Addr}{xs:List Ao}(h:RdV w a xs)(hb:Blw w w'):RdV w' a xs:=by
 obtain h1|⟨b,o,rfl,h1,h2⟩:=h
 ·exact .inl h1
 ·exact .inr ⟨b,o,rfl,Ap h1 hb.size,fun i hi=>(hb.cell (p:=⟨b,o+i,none⟩) h1).trans (h2 i hi)⟩
theorem RdV.cut{w:Ab}{a:Option Addr}{xs:List Ao}(h:RdV w a xs)(p n:Nat){a':Option Addr}
  (ha:p<xs.length->∀b o,a=some ⟨b,o,none⟩->a'=some ⟨b,o+p,none⟩):RdV w a' ((xs.drop p).take n):=by
 by_cases h0:(xs.drop p).take n=[]
 ·exact .inl h0
 ·obtain h1|⟨b,o,rfl,h1,h2⟩:=h
  ·subst h1;simp at h0
  ·have hp:p<xs.length:=by
    by_cases hp:p<xs.length
    ·exact hp
    ·rw[DH (by omega)]at h0;simp at h0
   refine .inr ⟨b,o+p,ha hp b o rfl,h1,fun i hi=>?_⟩;have hi2:p+i<xs.length:=by simp at hi;omega
   rw[Nat.add_assoc,h2 (p+i) hi2];simp
theorem RdV.cells{w:Ab}{a:Addr}{xs:List Ao}(h:RdV w (some a) xs):∀j u,xs[j]?=some u->w.cell? (a.add j)=some u:=by
 intro j u hu;obtain⟨hj,e⟩:=EC.1 hu;obtain h1|⟨b,o,e1,_,h2⟩:=h
 ·subst h1;simp at hj
 ·cases e1;rw[Js,h2 j hj,e]
def Co(w:Ab)(g:Nat)(t:BH)(xs:List Ao):Prop:=w.heap[g]?=some (.cells xs.toArray t (0,0))
theorem Co.lt{w:Ab}{g:Nat}{t:BH}{xs:List Ao}(h:Co w g t xs):g<w.heap.size:=(As.1 h).1
theorem Co.same{w w':Ab}{g:Nat}{t:BH}{xs:List Ao}(h:Co w g t xs)(hb:w'.heap[g]?=w.heap[g]?):Co w' g t xs:=hb.trans h
theorem Co.below{w w':Ab}{g:Nat}{t:BH}{xs:List Ao}(h:Co w g t xs)(hb:Blw w w'):Co w' g t xs:=h.same (hb.block g h.lt)
theorem Co.cell{w:Ab}{g:Nat}{t:BH}{xs:List Ao}(h:Co w g t xs)(i:Nat)(hi:i<xs.length):w.cell? ⟨g,i,none⟩=some xs[i]:=by
 have h':w.heap[g]?=_:=h;simp[Az,h',hi]
theorem Co.frozen{w:Ab}{g:Nat}{t:BH}{xs:List Ao}(h:Co w g t xs)(i:Nat):w.frozen? ⟨g,i,none⟩=false:=by
 have h':w.heap[g]?=_:=h;simp[Dv,h']
theorem Co.rd{w:Ab}{g:Nat}{t:BH}{xs:List Ao}(h:Co w g t xs)(n:Nat):RdV w (some ⟨g,0,none⟩) (xs.take n):=by
 refine .inr ⟨g,0,rfl,h.lt,fun i hi=>?_⟩;have:i<xs.length:=by simp at hi;omega
 rw[Fg,h.cell i this];simp
theorem Co.stored{w:Ab}{g:Nat}{t:BH}{xs:List Ao}(h:Co w g t xs)(i:Nat)(x:Ao):Co (w.setCell ⟨g,i,none⟩ x) g t (xs.set i x):=by
 have hg:=h.lt;have h1:w.heap[g]?=_:=h;have e:w.heap[g]=.cells xs.toArray t (0,0):=by
  rw[FO hg]at h1;exact Bf h1
 unfold Co;simp[Dq,hg,Ni,e]
theorem Co.cellsSet:∀(vs:List Ao) (o:Nat) {w:Ab} {g:Nat} {t:BH} {xs:List Ao},Co w g t xs->o+vs.length<=xs.length->
  Co (w.setCells g o vs) g t (xs.take o++vs++xs.drop (o+vs.length))/\w.grownBy (w.setCells g o vs) (some g)
 |[],o,w,g,t,xs,h,_=>⟨by simpa[World.setCells] using h,DU _ _⟩
 |v::r,o,w,g,t,xs,h,hl=>by
  have hl':o+1+r.length<=(xs.set o v).length:=by simp at hl ⊢;omega
  obtain⟨h1,h2⟩:=Co.cellsSet r (o+1) (h.stored o v) hl';have e1:(xs.set o v).take (o+1)++r++(xs.set o v).drop (o+1+r.length)=xs.take o++(v::r)++xs.drop (o+(v::r).length):=by
   have ho:o<xs.length:=by simp at hl;omega
   have ht:(xs.set o v).take (o+1)=xs.take o++[v]:=by
    rw[AH (by simpa using ho),List.take_set_of_le (Ad _)];simp
   have hd:(xs.set o v).drop (o+1+r.length)=xs.drop (o+(v::r).length):=by
    rw[List.drop_set_of_lt (by omega)];congr 1
    simp;omega
   rw[ht,hd];simp
  rw[e1]at h1;refine⟨h1,?_⟩;have h0:w.grownBy (w.setCell ⟨g,o,none⟩ v) (some g):=⟨rfl,rfl,rfl,by simp[Dq],fun k _ hk=>Ar _ _ _ _ (fun e=>hk (by simp[e]))⟩;exact⟨h2.os.trans h0.os,h2.tape.trans h0.tape,h2.output.trans h0.output,Aj h0.size h2.size,fun k hk hne=>(h2.block k (Ap hk h0.size) hne).trans (h0.block k hk hne)⟩
def EI(B:Nat)(w:Ab)(t:BH)(v:Ao)(n:Nat)(xs:List Ao):Prop:=
 (v=.slice none 0 0/\n=0/\xs=[]) ∨
 ∃g,v=.slice (some ⟨g,0,none⟩) n xs.length/\B<=g/\Co w g t xs/\n<=xs.length/\xs.length<=Gi
theorem EI.keep{B:Nat}{w w':Ab}{t:BH}{v:Ao}{n:Nat}{xs:List Ao}(h:EI B w t v n xs)(hb:∀g,v.ownBlock=some g->g<w.heap.size->w'.heap[g]?=w.heap[g]?):EI B w' t v n xs:=by
 obtain h|⟨g,rfl,h2,h3,h4⟩:=h
 ·exact .inl h
 ·exact .inr ⟨g,rfl,h2,h3.same (hb g rfl h3.lt),h4⟩
theorem EI.below{B:Nat}{w w':Ab}{t:BH}{v:Ao}{n:Nat}{xs:List Ao}(h:EI B w t v n xs)(hb:Blw w w'):EI B w' t v n xs:=h.keep fun g _ hg=>hb.block g hg
theorem EI.mono{B B':Nat}{w:Ab}{t:BH}{v:Ao}{n:Nat}{xs:List Ao}(h:EI B w t v n xs)(hB:B'<=B):EI B' w t v n xs:=by
 obtain h|⟨g,h1,h2,h3⟩:=h
 ·exact .inl h
 ·exact .inr ⟨g,h1,Aj hB h2,h3⟩
theorem EI.lt{B:Nat}{w:Ab}{t:BH}{v:Ao}{n:Nat}{xs:List Ao}(h:EI B w t v n xs):∀g,v.ownBlock=some g->B<=g:=by
 intro g hg;obtain⟨rfl,_⟩|⟨g',rfl,h2,_⟩:=h
 ·cases hg
 ·have:g'=g:=Bf hg;omega
theorem EI.shape{B:Nat}{w:Ab}{t:BH}{v:Ao}{n:Nat}{xs:List Ao}(h:EI B w t v n xs):∃ao,v=.slice ao n xs.length/\(ao=none->xs.length=0):=by
 obtain⟨rfl,rfl,rfl⟩|⟨g,rfl,_⟩:=h
 ·exact⟨none,rfl,fun _=>rfl⟩
 ·exact⟨_,rfl,fun h=>by cases h⟩
theorem EI.le{B:Nat}{w:Ab}{t:BH}{v:Ao}{n:Nat}{xs:List Ao}(h:EI B w t v n xs):n<=xs.length/\xs.length<=Gi:=by
 obtain⟨_,rfl,rfl⟩|⟨g,_,_,_,h4,h5⟩:=h
 ·exact⟨Ad _,Aw _⟩
 ·exact⟨h4,h5⟩
theorem EI.rd{B:Nat}{w:Ab}{t:BH}{ao:Option Addr}{n c:Nat}{xs:List Ao}(h:EI B w t (.slice ao n c) n xs)(m:Nat):RdV w ao (xs.take m):=by
 obtain⟨_,_,rfl⟩|⟨g,e,_,h3,_⟩:=h
 ·exact .inl (by simp)
 ·have:ao=some ⟨g,0,none⟩:=by injection e
  rw[this];exact h3.rd m
theorem EI.nil(B:Nat)(w:Ab)(t:BH):EI B w t (.slice none 0 0) 0 []:=.inl ⟨rfl,rfl,rfl⟩
theorem NE{P:Program}{w:Ab}{tx e':BH}(hk:P.underlying tx=some (.slice e')){ao:Option Addr}{m c:Nat}{news:List Ao}(hr:RdV w ao news)(hl:news.length=m)(h1:∀u∈news,u.oneCell'=true):Src P 1 tx (.slice ao m c) m news w:=by
 cases ao with
 |none=>
  have hn:news=[]:=by
   obtain h|⟨b,o,h,_⟩:=hr
   ·exact h
   ·cases h
  subst hn;subst hl;exact Src.ofNil w hk c
 |some a=>exact Src.ofSlice w hk a m c news (by simp[hl]) hr.cells h1
theorem Ps(z:Ao)(hz:z.cells=#[z])(k:Nat):Er z.cells k=(AM k z).toArray:=by
 rw[hz];apply Array.ext
 ·simp[Er]
 ·intro i h1 h2;simp[Er];have:i % 1=0:=by omega
  simp[this]
structure Li(P:Program)(t e:BH)(z:Ao)(bt:Nat):Prop where
 ht:P.underlying t=some (.slice e)
 hi:(P.info? e).map (fun i=>(i.zero,i.size,i.bytes))=some (some z,1,bt)
 hz:z.cells=#[z]
theorem IV{P:Program}{t e:BH}{z:Ao}{bt:Nat}(T:Li P t e z bt)(w:Ab)(B:Nat)(tx ty:BH)(v:Ao)(n:Nat)(xs:List Ao)(hown:EI B w e v n xs)
  (x:Ao) (m:Nat) (news:List Ao) (hs:Src P 1 tx x m news w) (hb:(n+m)*bt<=140737488355328) (h63:n+m<=Gi) (hB:B<=w.heap.size) :
  ∃v' w' xs',(BQ #[t,tx] ty #[v,x]).run P w=.ok v' w'/\EI B w' e v' (n+m) xs'/\xs'.take (n+m)=xs.take n++news/\w.grownBy w' v.ownBlock/\(∀Q:Ao->Prop,Q z->(∀u∈xs,Q u)->(∀u∈news,Q u)->∀u∈xs',Q u)/\(n+m<=xs.length->xs'.length=xs.length):=by
 obtain⟨i,hi,hz0,hz1,hz2⟩:=PT T.hi;have hs':Src P i.size tx x m news w:=by rw[hz1];exact hs
 have hnl:news.length=m:=by simpa using hs.newsLen
 have grow:∀(base:Option Addr) (old:Nat),v=.slice base n old->old<n+m->(JD i.size n (.slice base n old)).run P w.drew=.ok (xs.take n).toArray w.drew->(xs.take n).length=n->(n+m<=xs.length->False)->
   ∃v' w' xs',(BQ #[t,tx] ty #[v,x]).run P w=.ok v' w'/\EI B w' e v' (n+m) xs'/\xs'.take (n+m)=xs.take n++news/\w.grownBy w' v.ownBlock/\(∀Q:Ao->Prop,Q z->(∀u∈xs,Q u)->(∀u∈news,Q u)->∀u∈xs',Q u)/\(n+m<=xs.length->xs'.length=xs.length):=by
  intro base old hv ho hold htl hno;have hge:=grownCap_ge w (n+m) old e;have hle:=grownCap_le_maxLen w (n+m) old e h63;have hr':=run_append_grow_src (P:=P) w t tx ty e i z T.ht hi hz0 base n old (xs.take n) hold x m news hs' ho (by simp only[Gi]at h63;omega) (growslice_fits ho (by rw[hz2];exact hb));rw[Ps z T.hz]at hr';have e1:((xs.take n++news).toArray++(AM (EX w (n+m) old e - (n+m)) z).toArray)=(xs.take n++news++AM (EX w (n+m) old e - (n+m)) z).toArray:=by simp
  rw[e1]at hr';have hl:(xs.take n++news++AM (EX w (n+m) old e - (n+m)) z).length=EX w (n+m) old e:=by
   simp only[Af,htl,hnl,LI];omega
  rw[hv];refine⟨_,_,xs.take n++news++AM (EX w (n+m) old e - (n+m)) z,hr',.inr ⟨w.heap.size,by rw[hl],hB,Au w.drew _,by rw[hl];exact hge,by rw[hl];exact hle⟩,?_,⟨rfl,rfl,rfl,by simp,fun k hk _=>EP w.drew _ k hk⟩,?_,fun h=>(hno h).elim⟩
  ·rw[Bs (by simp only[Af,htl,hnl];omega)];exact Al (by simp only[Af,htl,hnl];omega)
  ·intro Q qz qx qn u hu;simp only[AG,MW]at hu;rcases hu with(hu|hu)|⟨_,rfl⟩
   ·exact qx u (Be hu)
   ·exact qn u hu
   ·exact qz
 obtain⟨rfl,rfl,rfl⟩|⟨g,rfl,hBg,hblk,hn,hm⟩:=hown
 ·by_cases hm0:m=0
  ·subst hm0;have hnews:=AC hnl;subst hnews;refine⟨.slice none 0 0,w,[],?_,.inl ⟨rfl,rfl,rfl⟩,by simp,DU _ _,(fun Q _ _ _ u hu=>nomatch hu),fun _=>rfl⟩;obtain⟨e',hk⟩|hk:=hs'.kind <;> simp[BQ,Cb T.ht,Cb hk,sizeOf,typeInfo,hi,hs'.len,hs'.cells]
  ·exact grow none 0 rfl (by omega) (run_firstCells_none w.drew i.size 0 0 0) (by simp) (fun h=>by simp at h;omega)
 ·by_cases hroom:n+m<=xs.length
  ·have hc:∀j,j<news.length->(w.cell? ⟨g,0+n*i.size+j,none⟩).isSome=true:=by
    intro j hj;have h2:0+n*i.size+j<xs.length:=by rw[hz1];omega
    rw[hblk.cell _ h2];rfl
   have hf:∀j,j<news.length->w.frozen? ⟨g,0+n*i.size+j,none⟩=false:=fun j _=>hblk.frozen _
   have hr':=run_append_room_src (P:=P) w t tx ty e i T.ht hi g 0 n xs.length x m news hs' hroom hc hf;obtain⟨hset,hgr⟩:Co (w.setCells g (0+n*i.size) news) g e (xs.take n++news++xs.drop (n+m))/\w.grownBy (w.setCells g (0+n*i.size) news) (some g):=by
    have:=Co.cellsSet news n hblk (by omega);rw[hnl]at this;rw[hz1,Nat.mul_one,Fg];exact this
   have hlen:(xs.take n++news++xs.drop (n+m)).length=xs.length:=by simp[hnl];omega
   refine⟨_,_,xs.take n++news++xs.drop (n+m),hr',.inr ⟨g,by rw[hlen],hBg,hset,by rw[hlen];exact hroom,by rw[hlen];exact hm⟩,?_,?_,?_,fun _=>hlen⟩
   ·rw[Bs (by simp[hnl];omega)];exact Al (by simp[hnl];omega)
   ·exact hgr
   ·intro Q qz qx qn u hu;simp only[AG]at hu;rcases hu with(hu|hu)|hu
    ·exact qx u (Be hu)
    ·exact qn u hu
    ·exact qx u (CT hu)
  ·refine grow (some ⟨g,0,none⟩) xs.length rfl (by omega) ?_ (by simp;omega) (fun h=>hroom h);have:=run_firstCells_some (P:=P) w.drew i.size n ⟨g,0,none⟩ n xs.length (xs.take n) (by rw[hz1];simp;omega) (fun j u hu=>(hblk.below (Ae _ _).drew).rd n |>.cells j u hu);exact this
theorem Gn{P:Program}{t e:BH}{z:Ao}{bt:Nat}(T:Li P t e z bt)(w:Ab){ops:Array Oper}{rest:List Oper}{o:Oper}{a:Act}{Q:Exit->Act->Ab->Prop}(hgd:o.guard=none)(s x:Operand)(tx:BH)
  (ho:o.op=.call { callee:=.builtin .append,args:=#[s,x],argTypes:=#[t,tx] }) (B:Nat) (v:Ao) (n:Nat) (xs:List Ao) (hs:a.eval s=v) (hown:EI B w e v n xs)
  (xv:Ao) (m:Nat) (news:List Ao) (hx:a.eval x=xv) (hsrc:Src P 1 tx xv m news w) (hb:(n+m)*bt<=140737488355328) (h63:n+m<=Gi) (hB:B<=w.heap.size)
  (h:∀v' w' xs',Hid (EI B w' e v' (n+m) xs')->Hid (xs'.take (n+m)=xs.take n++news)->w.grownBy w' v.ownBlock->Hid ((∀Q:Ao->Prop,Q z->(∀u∈xs,Q u)->(∀u∈news,Q u)->∀u∈xs',Q u)/\(n+m<=xs.length->xs'.length=xs.length))->wpList P ops Q rest (a.put o.dst v') w'):wpList P ops Q (o::rest) a w:=by
 refine wpList_plain hgd fun K hK=>?_
 obtain⟨v',w',xs',hrun,h2,h3,h4,h5⟩:=IV T w B tx o.type v n xs hown xv m news hsrc hb h63 hB;unfold Oper.wp execOp;simp only[ho,resolve,invoke,builtin,Sem.run_bind,Sem.run_pure,Result.andThen_ok,List.map_toArray,Bh,Df,hs,hx,hrun];exact hK _ _ (h v' w' xs' h2 h3 h4 h5)
theorem tyT:Li Aa 22 9 (.string ⟨#[]⟩) 16:=⟨Dy,by kernel_rfl,rfl⟩
theorem tyN:Li Aa 23 9 (.string ⟨#[]⟩) 16:=⟨BV,by kernel_rfl,rfl⟩
def tv(ss:List ByteArray):List Ao:=ss.map Value.string
theorem Jd(ss:List ByteArray):(tv ss).length=ss.length:=by simp[tv]
theorem wU(ss:List ByteArray)(i:Nat)(h:i<(tv ss).length):(tv ss)[i]=.string (ss[i]'(by rw[<- Jd];exact h)):=by simp[tv]
theorem XV(ss:List ByteArray):∀u∈tv ss,u.oneCell'=true:=by
 intro u hu;simp only[tv,AY]at hu;obtain⟨s,_,rfl⟩:=hu
 rfl
theorem Pt(a b:List ByteArray):tv (a++b)=tv a++tv b:=by simp[tv]
theorem Ld(a:List ByteArray)(n:Nat):(tv a).take n=tv (a.take n):=by simp[tv,List.map_take]
theorem pI(a:List ByteArray)(n:Nat):(tv a).drop n=tv (a.drop n):=by simp[tv,List.map_drop]
def RdT(w:Ab)(a:Option Addr)(ss:List ByteArray):Prop:=RdV w a (tv ss)
theorem RdT.below{w w':Ab}{a:Option Addr}{ss:List ByteArray}(h:RdT w a ss)(hb:Blw w w'):RdT w' a ss:=RdV.below h hb
theorem RdT.at{w:Ab}{a:Option Addr}{ss:List ByteArray}(h:RdT w a ss)(i:Nat)(hi:i<ss.length):∃b o,a=some ⟨b,o,none⟩/\b<w.heap.size/\w.cell? ⟨b,o+i,none⟩=some (.string ss[i]):=by
 obtain h|⟨b,o,rfl,h1,h2⟩:=h
 ·have:=congrArg FH h;rw[Jd]at this;simp at this;subst this;simp at hi
 ·refine⟨b,o,rfl,h1,?_⟩;rw[h2 i (by rw[Jd];exact hi),wU]
theorem TG(a b:Option Addr)(n c d:Nat)(ss:List ByteArray)(w:Ab)(hr:RdT w a ss)(hr':RdT w b ss)(hl:ss.length=n)(hn:n<=9223372036854775807) :
  Ag Aa 59 #[.slice a n c,.slice b n d] w fun e w'=>e=.returned (.bool true)/\Hid (Blw w w'):=by
 have HR:Hid (RdT w a ss/\RdT w b ss):=⟨hr,hr'⟩;have HL:Hid (ss.length=n):=hl;clear hr hr' hl;go_enter Tryz.func59,Tryz.ntmps59;go_wp2_with fail;go_loopw [5] (fun x wr=>∃k:Nat,k<=n/\x=.int .i64 k/\Hid (Blw w wr)) (fun x _=>n - (intOf x).toNat)
 case atStart=>exact⟨0,Aw _,rfl,Ae _ _⟩
 case round=>
  obtain⟨k,hk,rfl,HB⟩:=hrel;by_cases hlt:k<n
  ·have hlt':(k:Int)<(n:Int):=by omega
   have hks:k<ss.length:=by rw[HL.out];exact hlt
   obtain⟨b1,o1,rfl,l1,c1⟩:=(HR.out.1.below HB.out).at k hks;obtain⟨b2,o2,rfl,l2,c2⟩:=(HR.out.2.below HB.out).at k hks;generalize ss[k]=s at*;go_wp2_with fail;go_quiet (fail);have HB2:Hid (Blw w (wr.drewN nq)):=HB.out.trans ⟨rfl,rfl,rfl,Ad _,fun _ _=>rfl⟩;clear c1 c2;generalize wr.drewN nq=W2 at*;go_wp2;exact⟨⟨k+1,by omega,by go_num,HB2⟩,by simp[intOf];omega⟩
  ·have hge:(n:Int)<=(k:Int):=by omega
   go_wp2;go_ret;exact⟨rfl,HB.out⟩
def mk:ByteArray:=⟨#[108,101,110,116]⟩
def QS(M:Nat)(u:Ao):Prop:=∃s:ByteArray,u=.string s/\s.size<=M
theorem ZC{M:Nat}:∀xs:List Ao,(∀u∈xs,QS M u)->∃ys,xs=tv ys/\∀s∈ys,s.size<=M
 |[],_=>⟨[],rfl,by simp⟩
 |x::xs,h=>by
  obtain⟨ys,e1,e2⟩:=ZC xs (fun u hu=>h u (by simp[hu]));obtain⟨s,rfl,hs⟩:=h x (by simp);refine⟨s::ys,by rw[e1];rfl,fun q hq=>?_⟩;obtain rfl|hq:=Ax.1 hq
  ·exact hs
  ·exact e2 q hq
theorem Th{M:Nat}{ss:List ByteArray}(h:∀s∈ss,s.size<=M):∀u∈tv ss,QS M u:=by
 intro u hu;simp only[tv,AY]at hu;obtain⟨s,hs,rfl⟩:=hu;exact⟨s,rfl,h s hs⟩
theorem Ub:∀{a b:List ByteArray},tv a=tv b->a=b
 |[],[],_=>rfl
 |[],_::_,h=>by simp[tv]at h
 |_::_,[],h=>by simp[tv]at h
 |x::a,y::b,h=>by
  simp only[tv,Bh,PU,Value.string.injEq]at h;rw[h.1,Ub (a:=a) (b:=b) h.2]
def BF(B:Nat)(w:Ab)(v:Ao)(n:Nat)(ss:List ByteArray)(M:Nat):Prop:=EI B w 9 v n (tv ss)/\∀s∈ss,s.size<=M
theorem BF.below{B:Nat}{w w':Ab}{v:Ao}{n:Nat}{ss:List ByteArray}{M:Nat}(h:BF B w v n ss M)(hb:Blw w w'):BF B w' v n ss M:=⟨h.1.below hb,h.2⟩
theorem BF.mono{B B':Nat}{w:Ab}{v:Ao}{n:Nat}{ss:List ByteArray}{M:Nat}(h:BF B w v n ss M)(hB:B'<=B):BF B' w v n ss M:=⟨h.1.mono hB,h.2⟩
theorem BF.nil(B:Nat)(w:Ab)(M:Nat):BF B w (.slice none 0 0) 0 [] M:=⟨EI.nil B w 9,by simp⟩
theorem BF.rd{B:Nat}{w:Ab}{ao:Option Addr}{n c:Nat}{ss:List ByteArray}{M:Nat}(h:BF B w (.slice ao n c) n ss M)(m:Nat):RdT w ao (ss.take m):=by
 have:=h.1.rd m;rw[Ld]at this;exact this
theorem BF.shape{B:Nat}{w:Ab}{v:Ao}{n:Nat}{ss:List ByteArray}{M:Nat}(h:BF B w v n ss M):∃ao,v=.slice ao n ss.length/\(ao=none->ss.length=0):=by
 obtain⟨ao,h1,h2⟩:=h.1.shape;rw[Jd]at h1 h2;exact⟨ao,h1,h2⟩
theorem BF.le{B:Nat}{w:Ab}{v:Ao}{n:Nat}{ss:List ByteArray}{M:Nat}(h:BF B w v n ss M):n<=ss.length/\ss.length<=Gi:=by
 have:=h.1.le;rw[Jd]at this;exact this
theorem BA{t:BH}(T:Li Aa t 9 (.string ⟨#[]⟩) 16)(w:Ab){ops:Array Oper}{rest:List Oper}{o:Oper}{a:Act}{Q:Exit->Act->Ab->Prop}(hgd:o.guard=none)(s x:Operand)(tx e':BH)(hk:Aa.underlying tx=some (.slice e'))
  (ho:o.op=.call { callee:=.builtin .append,args:=#[s,x],argTypes:=#[t,tx] }) (B:Nat) (v:Ao) (n:Nat) (ss:List ByteArray) (M:Nat) (hs:a.eval s=v) (hown:BF B w v n ss M)
  (ao:Option Addr) (m c:Nat) (ns:List ByteArray) (hx:a.eval x=.slice ao m c) (hr:RdT w ao ns) (hl:ns.length=m) (hM:∀s∈ns,s.size<=M) (hb:n+m<=8796093022000) (hB:B<=w.heap.size)
  (h:∀v' w' ys,Hid (BF B w' v' (n+m) ys M)->Hid (ys.take (n+m)=ss.take n++ns)->w.grownBy w' v.ownBlock->wpList Aa ops Q rest (a.put o.dst v') w'):wpList Aa ops Q (o::rest) a w:=by
 refine Gn T w hgd s x tx ho B v n (tv ss) hs hown.1 (.slice ao m c) m (tv ns) hx (NE hk hr (by rw[Jd];exact hl) (XV ns)) (by omega) (by simp only[Gi];omega) hB ?_;intro v' w' xs' h1 h2 h3 h4;obtain⟨ys,rfl,hys⟩:=ZC (M:=M) xs' (h4.out.1 (QS M) ⟨⟨#[]⟩,rfl,Aw _⟩ (Th hown.2) (Th hM));refine h v' w' ys ⟨h1.out,hys⟩ ?_ h3;have h2':=h2.out;rw[Ld,Ld,<- Pt]at h2';exact Ub h2'
theorem EN(w:Ab)(s:ByteArray):RdT (w.alloc (.cells #[.string s] 9)) (some ⟨w.heap.size,0,none⟩) [s]:=by
 refine .inr ⟨w.heap.size,0,rfl,by simp,fun i hi=>?_⟩;have:i=0:=by simp[tv]at hi;omega
 subst this;simp[go_sem,tv]
def JS(ss:List ByteArray)(M:Nat)(w:Ab)(e:Ending)(w':Ab):Prop:=
 ∃v ys,e=.returned v/\Hid (BF w.heap.size w' v ss.length ys M/\ys.take ss.length=ss/\Blw w w')
theorem TD(a b:Option Addr)(n c d:Nat)(ss:List ByteArray)(w:Ab)(hr:RdT w a ss)(hr':RdT w b ss)(hl:ss.length=n)(hn:n<=9223372036854775807) :
  Ag Aa 25 #[.slice a n c,.slice b n d] w fun e w'=>e=.returned (.bool true)/\Hid (Blw w w'):=by
 have HX:Hid (Ag Aa 59 #[.slice a n c,.slice b n d] w fun e w'=>e=.returned (.bool true)/\Hid (Blw w w')):=TG a b n c d ss w hr hr' hl hn;clear hr hr' hl;go_enter Tryz.func25,Tryz.ntmps25;go_wp2_with fail;refine HX.out.mono ?_;rintro e w1 ⟨rfl,H1⟩;go_wp2;go_ret;exact⟨rfl,H1⟩
def Rd(w:Ab)(a:Option Addr)(zs:List Int):Prop:=
 (zs=[]∨∃b o,a=some ⟨b,o,none⟩/\b<w.heap.size/\∀i,i<zs.length->w.cell? ⟨b,o+i,none⟩=some (.int .u8 (zs.getD i 0)))/\∀z∈zs,0<=z/\z<=255
theorem Rd.bd{w:Ab}{a:Option Addr}{zs:List Int}(h:Rd w a zs)(i:Nat):0<=zs.getD i 0/\zs.getD i 0<=255:=by
 by_cases hi:i<zs.length
 ·have:=h.2 (zs.getD i 0) (by rw[Am,AF hi];simp);exact this
 ·rw[Am,MX (by omega)];simp
theorem Rd.below{w w':Ab}{a:Option Addr}{zs:List Int}(h:Rd w a zs)(hb:Blw w w'):Rd w' a zs:=by
 refine⟨?_,h.2⟩;obtain h1|⟨b,o,rfl,h1,h2⟩:=h.1
 ·exact .inl h1
 ·refine .inr ⟨b,o,rfl,Ap h1 hb.size,fun i hi=>?_⟩;rw[<- h2 i hi];exact hb.cell (p:=⟨b,o+i,none⟩) h1
theorem Rd.cut{w:Ab}{a:Option Addr}{zs:List Int}(h:Rd w a zs)(at_ n:Nat)(hn:at_+n<=zs.length){a':Option Addr}
  (ha:0<n->∀b o,a=some ⟨b,o,none⟩->a'=some ⟨b,o+at_,none⟩):Rd w a' ((zs.drop at_).take n):=by
 refine⟨?_,fun z hz=>h.2 z (CT (Be hz))⟩;by_cases h0:n=0
 ·left;subst h0;simp
 ·obtain h1|⟨b,o,rfl,h1,h2⟩:=h.1
  ·subst h1;simp at hn;omega
  ·refine .inr ⟨b,o+at_,ha (by omega) b o rfl,h1,fun i hi=>?_⟩;have hi':i<n:=by simp at hi;omega
   have:=h2 (at_+i) (by omega);rw[Nat.add_assoc,this];congr 2
   simp[Am,hi',List.getElem?_drop]
def val(zs:List Int):Int:=zs.foldl (fun n c=>n*256+c) 0
theorem gH(zs:List Int)(c:Int):val (zs++[c])=val zs*256+c:=by
 simp[val,FP]
theorem dY(zs:List Int)(h:∀z∈zs,0<=z/\z<=255):0<=val zs/\val zs<256 ^ zs.length:=by
 have:∀(l:List Int) (n:Int) (k:Nat),(∀z∈l,0<=z/\z<=255)->0<=n->n<256 ^ k->0<=l.foldl (fun n c=>n*256+c) n/\l.foldl (fun n c=>n*256+c) n<256 ^ (k+l.length):=by
  intro l;induction l with
  |nil=>intro n k _ h1 h2;exact⟨h1,h2⟩
  |cons c l ih=>
   intro n k hl h1 h2;have hc:=hl c (by simp);have:=ih (n*256+c) (k+1) (fun z hz=>hl z (by simp[hz])) (by omega) (by rw[Int.pow_succ];omega);simpa[Nat.add_assoc,Nat.add_comm 1] using this
 have t:=this zs 0 0 h (by omega) (by simp);rw[Fg]at t;exact t
theorem Kf(zs:List Int)(k:Nat)(h:k<zs.length):zs.take (k+1)=zs.take k++[zs.getD k 0]:=by
 rw[AH h];simp[Am,AF h]
theorem dL(zs:List Int)(h:∀z∈zs,0<=z/\z<=255)(k:Nat)(hk:k<=3):0<=val (zs.take k)/\val (zs.take k)<16777216:=by
 have hb:=dY (zs.take k) (fun z hz=>h z (Be hz));have hp:(256:Int) ^ (zs.take k).length<=256 ^ 3:=by
  have hl:(zs.take k).length<=3:=by simp;omega
  generalize (zs.take k).length=m at hl;have:m=0∨m=1∨m=2∨m=3:=by omega
  obtain rfl|rfl|rfl|rfl:=this <;> decide
 have h3:(256:Int) ^ 3=16777216:=by decide
 omega
theorem Le(zs:List Int)(h:∀z∈zs,0<=z/\z<=255)(hk:zs.length<=4):0<=val zs/\val zs<4294967296:=by
 have hb:=dY zs h;have hp:(256:Int) ^ zs.length<=256 ^ 4:=by
  generalize zs.length=m at hk;have:m=0∨m=1∨m=2∨m=3∨m=4:=by omega
  obtain rfl|rfl|rfl|rfl|rfl:=this <;> decide
 have h3:(256:Int) ^ 4=4294967296:=by decide
 omega
theorem kN(v c:Int)(h1:0<=v)(h2:v<16777216)(h3:0<=c)(h4:c<=255) :
  bits .or .u32 (v*256) (c % 4294967296)=v*256+c:=by
 have e2:c % 4294967296=c:=Int.emod_eq_of_lt (by omega) (by omega);rw[e2,u32_or _ _ (by omega) (by omega) (by omega) (by omega)];have:=nat_join 8 (v*256).toNat c.toNat (by omega) (by omega);rw[this];omega
def Blk(w:Ab)(g:Nat)(zs:List Int):Prop:=
 w.heap[g]?=some (.cells (zs.map (AL .u8)).toArray 5 (0,0))/\∀z∈zs,0<=z/\z<=255
theorem Blk.lt{w:Ab}{g:Nat}{zs:List Int}(h:Blk w g zs):g<w.heap.size:=by
 have:=h.1;by_cases hg:g<w.heap.size
 ·exact hg
 ·rw[Array.getElem?_eq_none (by omega)]at this;cases this
theorem Blk.same{w w':Ab}{g:Nat}{zs:List Int}(h:Blk w g zs)(hb:w'.heap[g]?=w.heap[g]?):Blk w' g zs:=⟨hb.trans h.1,h.2⟩
theorem Blk.below{w w':Ab}{g:Nat}{zs:List Int}(h:Blk w g zs)(hb:Blw w w'):Blk w' g zs:=h.same (hb.block g h.lt)
theorem Blk.cell{w:Ab}{g:Nat}{zs:List Int}(h:Blk w g zs)(i:Nat)(hi:i<zs.length):w.cell? ⟨g,i,none⟩=some (.int .u8 (zs.getD i 0)):=by
 simp[Az,h.1,hi]
theorem Blk.rd{w:Ab}{g:Nat}{zs:List Int}(h:Blk w g zs)(n:Nat):Rd w (some ⟨g,0,none⟩) (zs.take n):=by
 refine⟨.inr ⟨g,0,rfl,h.lt,fun i hi=>?_⟩,fun z hz=>h.2 z (Be hz)⟩;rw[Fg,h.cell i (by simp at hi;omega)];have:i<n:=by simp at hi;omega
 simp[Am,this]
theorem Rd.drew{w:Ab}{a:Option Addr}{zs:List Int}(h:Rd w a zs):Rd w.drew a zs:=h.below (Ae _ _).drew
theorem Tryz.info5:(Aa.info? 5).map (fun i=>(i.zero,i.size,i.bytes))=some (some (.int .u8 0),1,1):=by kernel_rfl
def Own(B:Nat)(w:Ab)(v:Ao)(n:Nat)(zs:List Int):Prop:=
 (v=.slice none 0 0/\n=0/\zs=[]) ∨
 ∃g,v=.slice (some ⟨g,0,none⟩) n zs.length/\B<=g/\Blk w g zs/\n<=zs.length/\zs.length<=Gi
theorem VG(k:Nat):Er (AL .u8 0).cells k=((AM k (0:Int)).map (AL .u8)).toArray:=by
 apply Array.ext
 ·simp[Er,Value.cells]
 ·intro i h1 h2;simp[Er,Value.cells];have:i % 1=0:=by omega
  simp[this]
theorem oX(k:Nat):madeCells (AL .u8 0).cells (k*1)=((AM k (0:Int)).map (AL .u8)).toArray:=by
 apply Array.ext
 ·simp[madeCells,Value.cells]
 ·intro i h1 h2;simp[madeCells,Value.cells];have:i % 1=0:=by omega
  simp[this]
theorem VZ{w:Ab}{x:Addr}{zs:List Int}(h:Rd w (some x) zs):∀j u,(zs.map (AL .u8))[j]?=some u->w.cell? (x.add j)=some u:=by
 intro j u hu;have hj:j<zs.length:=by simpa using(EC.1 hu).1
 obtain h1|⟨b,o,e,_,h2⟩:=h.1
 ·subst h1;simp at hj
 ·cases e;rw[Js,h2 j hj,<- hu];simp[hj]
theorem Sc(w:Ab)(B:Nat)(ty:BH)(v:Ao)(n:Nat)(zs:List Int)(hown:Own B w v n zs)
  (ao:Option Addr) (m c:Nat) (news:List Int) (hr:Rd w ao news) (hl:news.length=m) (hc:ao=none->c=0) (hb:n+m<=140737488355328) (hB:B<=w.heap.size) :
  ∃v' w' zs',(BQ #[39,39] ty #[v,.slice ao m c]).run Aa w=.ok v' w'/\Own B w' v' (n+m) zs'/\zs'.take (n+m)=zs.take n++news/\w.grownBy w' v.ownBlock:=by
 obtain⟨i,hi,hz0,hz1,hz2⟩:=PT Tryz.info5;cases ao with
 |none=>
  have hnews:news=[]:=by
   obtain h1|⟨b,o,h,_⟩:=hr.1
   ·exact h1
   ·cases h
  subst hnews;subst hl;rw[hc rfl];refine⟨v,w,zs,?_,hown,by simp,DU _ _⟩;obtain⟨rfl,rfl,rfl⟩|⟨g,rfl,hBg,hblk,hn,hm⟩:=hown
  ·simp[BQ,Cb AI,sizeOf,typeInfo,hi,Il,JD]
  ·simp[BQ,Cb AI,sizeOf,typeInfo,hi,Il,JD,hn,storeCells]
 |some a=>
  have hcs:=VZ hr;have hml:n+m<=Gi:=by simp only[Gi];omega
  have hlm:(news.map (AL .u8)).length=m*i.size:=by rw[hz1];simp[hl]
  have grown:∀(old:Nat),old<n+m->∀(row:Option Nat),(n=0∨n<=zs.length)->
    ∃zs':List Int,(.cells (((zs.take n).map (AL .u8)).toArray++(news.map (AL .u8)).toArray++Er (AL .u8 0).cells (EX w (n+m) old 5 - (n+m))) 5:Obj)=.cells (zs'.map (AL .u8)).toArray 5 (0,0)/\
    zs'.length=EX w (n+m) old 5/\zs'.take (n+m)=zs.take n++news/\(∀z∈zs',0<=z/\z<=255):=by
   intro old ho row hn;have hge:=grownCap_ge w (n+m) old 5;have hzb:∀z∈zs,0<=z/\z<=255:=by
    obtain⟨_,_,rfl⟩|⟨g,_,_,hblk,_⟩:=hown
    ·intro z hz;cases hz
    ·exact hblk.2
   have htl:(zs.take n).length=n:=by
    obtain rfl|hn:=hn
    ·simp
    ·simp;omega
   refine⟨zs.take n++news++AM (EX w (n+m) old 5 - (n+m)) 0,?_,?_,?_,?_⟩
   ·rw[VG];simp
   ·simp only[Af,htl,hl,LI];omega
   ·rw[Bs (by simp only[Af,htl,hl];omega)];exact Al (by simp only[Af,htl,hl];omega)
   ·intro z hz;simp only[AG,MW]at hz;rcases hz with(hz|hz)|⟨_,rfl⟩
    ·exact hzb z (Be hz)
    ·exact hr.2 z hz
    ·omega
  have fresh:∀(old:Nat),old<n+m->∀zs':List Int,zs'.length=EX w (n+m) old 5->(∀z∈zs',0<=z/\z<=255)->
    Own B (w.drew.alloc (.cells (zs'.map (AL .u8)).toArray 5 (0,0))) (.slice (some ⟨w.heap.size,0,none⟩) (n+m) (EX w (n+m) old 5)) (n+m) zs':=by
   intro old ho zs' hzl hzb;refine .inr ⟨w.heap.size,by rw[hzl],hB,⟨Au w.drew _,hzb⟩,?_,?_⟩
   ·rw[hzl];exact grownCap_ge w (n+m) old 5
   ·rw[hzl];exact grownCap_le_maxLen w (n+m) old 5 hml
  obtain⟨rfl,rfl,rfl⟩|⟨g,rfl,hBg,hblk,hn,hm⟩:=hown
  ·by_cases hm0:m=0
   ·subst hm0;have hnews:news=[]:=AC hl;subst hnews;refine⟨.slice none 0 0,w,[],?_,.inl ⟨rfl,rfl,rfl⟩,by simp,DU _ _⟩;simp[BQ,Cb AI,sizeOf,typeInfo,hi,Il,JD,loadCells,loadCellsFrom]
   ·have hr':=run_append_nil (P:=Aa) w 39 ty 5 i _ AI hi hz0 a m c (news.map (AL .u8)) hlm hcs (by omega) (by omega) (by rw[hz2];omega);obtain⟨zs',e1,e2,e3,e4⟩:=grown 0 (by omega) none (.inl rfl);have hf:=fresh 0 (by omega) zs' e2 e4;simp only[Fg,List.take_nil,Df,AQ,Array.empty_append,List.take_zero]at e1 e2 e3 hf ⊢;rw[e1]at hr';exact⟨_,_,zs',hr',hf,e3,⟨rfl,rfl,rfl,by simp,fun k hk _=>EP w.drew _ k hk⟩⟩
  ·by_cases hroom:n+m<=zs.length
   ·have hr':=run_append_room (P:=Aa) w 39 ty 5 i AI hi g n zs.length _ hblk.1 a m c (news.map (AL .u8)) hlm hcs (ints_oneCell _ _) hroom (by rw[hz1];simp[hl];omega);have e:(((zs.map (AL .u8)).toArray.toList.take (n*i.size))++news.map (AL .u8)++(zs.map (AL .u8)).toArray.toList.drop (n*i.size+(news.map (AL .u8)).length)).toArray=((zs.take n++news++zs.drop (n+m)).map (AL .u8)).toArray:=by
     rw[hz1];simp[hl]
    rw[e]at hr';have hlen:(zs.take n++news++zs.drop (n+m)).length=zs.length:=by simp[hl];omega
    refine⟨_,_,zs.take n++news++zs.drop (n+m),hr',.inr ⟨g,by rw[hlen],hBg,⟨setRow_heap w g _ _ 5 _ hblk.1,?_⟩,by rw[hlen];exact hroom,by rw[hlen];exact hm⟩,?_,
     ⟨rfl,rfl,rfl,by simp,fun k _ hk=>setRow_other w g k _ (fun e=>hk (by simp[Bm,e]))⟩⟩
    ·intro z hz;simp only[AG]at hz;rcases hz with(hz|hz)|hz
     ·exact hblk.2 z (Be hz)
     ·exact hr.2 z hz
     ·exact hblk.2 z (CT hz)
    ·rw[Bs (by simp[hl];omega)];exact Al (by simp[hl];omega)
   ·have holds:∀j u,((zs.take n).map (AL .u8))[j]?=some u->w.cell? ((⟨g,0,none⟩:Addr).add j)=some u:=VZ (hblk.rd n);have hr':=run_append_grow (P:=Aa) w 39 ty 5 i _ AI hi hz0 ⟨g,0,none⟩ n zs.length ((zs.take n).map (AL .u8)) (by rw[hz1];simp;omega) holds a m c (news.map (AL .u8)) hlm hcs (by omega) (by simp only[Gi]at hml;omega) (growslice_fits (by omega) (by rw[hz2];omega));obtain⟨zs',e1,e2,e3,e4⟩:=grown zs.length (by omega) none (.inr hn);have hf:=fresh zs.length (by omega) zs' e2 e4;rw[e1]at hr';exact⟨_,_,zs',hr',hf,e3,⟨rfl,rfl,rfl,by simp,fun k hk _=>EP w.drew _ k hk⟩⟩
theorem Cz(w:Ab){ops:Array Oper}{rest:List Oper}{o:Oper}{a:Act}{Q:Exit->Act->Ab->Prop}(hgd:o.guard=none)(s x:Operand)
  (ho:o.op=.call { callee:=.builtin .append,args:=#[s,x],argTypes:=#[39,39] }) (B:Nat) (v:Ao) (n:Nat) (zs:List Int) (hs:a.eval s=v) (hown:Own B w v n zs)
  (ao:Option Addr) (m c:Nat) (news:List Int) (hx:a.eval x=.slice ao m c) (hr:Rd w ao news) (hl:news.length=m) (hc:ao=none->c=0) (hb:n+m<=140737488355328) (hB:B<=w.heap.size)
  (h:∀v' w' zs',Hid (Own B w' v' (n+m) zs')->Hid (zs'.take (n+m)=zs.take n++news)->w.grownBy w' v.ownBlock->wpList Aa ops Q rest (a.put o.dst v') w'):wpList Aa ops Q (o::rest) a w:=by
 refine wpList_plain hgd fun K hK=>?_
 obtain⟨v',w',zs',hrun,h2,h3,h4⟩:=Sc w B o.type v n zs hown ao m c news hr hl hc hb hB;unfold Oper.wp execOp;simp only[ho,resolve,invoke,builtin,Sem.run_bind,Sem.run_pure,Result.andThen_ok,List.map_toArray,Bh,Df,hs,hx,hrun];exact hK _ _ (h v' w' zs' h2 h3 h4)
theorem Ls(w:Ab){ops:Array Oper}{rest:List Oper}{o:Oper}{a:Act}{Q:Exit->Act->Ab->Prop}(hgd:o.guard=none)(s x:Operand)
  (ho:o.op=.makeSlice 39 s x) (l n:Nat) (L C:Int) (hs:a.eval s=.int .i64 L) (hx:a.eval x=.int .i64 C) (hL:L=(l:Int)) (hC:C=(n:Int)) (hln:l<=n) (hn:n<=281474976710656)
  (h:wpList Aa ops Q rest (a.put o.dst (.slice (some ⟨w.heap.size,0,none⟩) l n)) (w.alloc (.cells ((AM n (0:Int)).map (AL .u8)).toArray 5))):wpList Aa ops Q (o::rest) a w:=by
 refine wpList_plain hgd fun K hK=>?_
 obtain⟨i,hi,hz0,hz1,hz2⟩:=PT Tryz.info5;have hrun:=run_make (P:=Aa) w 39 5 i _ AI hi hz0 .i64 .i64 (l:Int) (n:Int) (by omega) (by omega) (by rw[hz2];omega) (by omega);rw[hz1]at hrun;simp only[BM,oX]at hrun;subst hL;subst hC;unfold Oper.wp;simp only[execOp,ho,hs,hx,Sem.run_bind,hrun,Result.andThen];exact hK _ _ h
def txt(zs:List Int):List UInt8:=zs.map fun z=>CS z.toNat
theorem II(zs:List Int):(txt zs).length=zs.length:=by simp[txt]
theorem Hk(a:Option Addr)(n c:Nat)(zs:List Int)(w:Ab)(hr:Rd w a zs)(hl:zs.length=n) :
  (convert 39 9 (.slice a n c)).run Aa w=.ok (.string ⟨(txt zs).toArray⟩) w:=by
 cases a with
 |none=>
  obtain h1|⟨b,o,h,_⟩:=hr.1
  ·subst h1;subst hl;rw[run_convert_bytes_string w 39 9 5 none _ c AI Ba AK];simp[Conv.bytesToString,txt]
   rfl
  ·cases h
 |some x=>
  have:=run_convert_bytes_back (P:=Aa) w 39 9 5 x c (txt zs) AI Ba AK (fun j hj=>by
   obtain h1|⟨b,o,h,_,h2⟩:=hr.1
   ·subst h1;simp[txt]at hj
   ·cases h;have hj':j<zs.length:=by simpa[txt] using hj
    have e:=h2 j hj';have hz:=hr.2 (zs[j]) (AU hj');rw[Js,e];simp[txt,hj'];omega)
  rw[II,hl]at this;exact this
def Jk(B:Nat)(w:Ab)(ao:Option Addr)(n:Nat)(zs:List Int):Prop:=
 (ao=none/\n=0/\zs=[])∨∃g,ao=some ⟨g,0,none⟩/\B<=g/\Blk w g zs/\n<=zs.length/\zs.length<=Gi
def blk(ao:Option Addr):Option Nat:=ao.map (·.block)
theorem Own.addr{B:Nat}{w:Ab}{v:Ao}{n:Nat}{zs:List Int}(h:Own B w v n zs):∃ao,v=.slice ao n zs.length/\Jk B w ao n zs:=by
 obtain⟨rfl,rfl,rfl⟩|⟨g,rfl,hB,hb,hn,hm⟩:=h
 ·exact⟨none,rfl,.inl ⟨rfl,rfl,rfl⟩⟩
 ·exact⟨some ⟨g,0,none⟩,rfl,.inr ⟨g,rfl,hB,hb,hn,hm⟩⟩
theorem Jk.keep{B:Nat}{w w':Ab}{ao:Option Addr}{n:Nat}{zs:List Int}(h:Jk B w ao n zs)(hb:∀g,blk ao=some g->g<w.heap.size->w'.heap[g]?=w.heap[g]?):Jk B w' ao n zs:=by
 obtain h|⟨g,rfl,h2,h3,h4⟩:=h
 ·exact .inl h
 ·exact .inr ⟨g,rfl,h2,h3.same (hb g rfl h3.lt),h4⟩
theorem Jk.lt{B:Nat}{w:Ab}{ao:Option Addr}{n:Nat}{zs:List Int}(h:Jk B w ao n zs):∀g,blk ao=some g->B<=g/\g<w.heap.size:=by
 intro g hg;obtain⟨rfl,_⟩|⟨g',rfl,h2,h3,_⟩:=h
 ·cases hg
 ·have:g'=g:=Bf hg;subst this;exact⟨h2,h3.lt⟩
theorem Jk.rd{B:Nat}{w:Ab}{ao:Option Addr}{n:Nat}{zs:List Int}(h:Jk B w ao n zs):Rd w ao zs:=by
 obtain⟨rfl,_,rfl⟩|⟨g,rfl,h2,h3,_⟩:=h
 ·exact⟨.inl rfl,by simp⟩
 ·have:=h3.rd zs.length;rwa [Al (Ad _)]at this
theorem Jk.rdTake{B:Nat}{w:Ab}{ao:Option Addr}{n:Nat}{zs:List Int}(h:Jk B w ao n zs)(m:Nat):Rd w ao (zs.take m):=by
 obtain⟨rfl,_,rfl⟩|⟨g,rfl,h2,h3,_⟩:=h
 ·exact⟨.inl (by simp),by simp⟩
 ·exact h3.rd m
theorem Jk.nil{B:Nat}{w:Ab}{ao:Option Addr}{n:Nat}{zs:List Int}(h:Jk B w ao n zs):ao=none->zs.length=0:=by
 rintro rfl;obtain⟨_,_,rfl⟩|⟨g,h,_⟩:=h
 ·rfl
 ·cases h
theorem Jk.le{B:Nat}{w:Ab}{ao:Option Addr}{n:Nat}{zs:List Int}(h:Jk B w ao n zs):n<=zs.length/\zs.length<=Gi:=by
 obtain⟨_,rfl,rfl⟩|⟨g,_,_,_,h4,h5⟩:=h
 ·exact⟨Ad _,Aw _⟩
 ·exact⟨h4,h5⟩
def Ai(s:ByteArray):List Int:=s.data.toList.map fun b=>(b.toNat:Int)
theorem Av(s:ByteArray):(Ai s).length=s.size:=by simp[Ai]
theorem Ef(s:ByteArray)(i:Nat)(h:i<s.size):(Ai s).getD i 0=(s[i].toNat:Int):=by
 have h':i<s.data.toList.length:=by simpa using h
 simp[Ai,Am];rw[show s.data[i]?=some s[i] from FO h]
 rfl
theorem Lf(s:ByteArray)(i:Nat):0<=(Ai s).getD i 0/\(Ai s).getD i 0<=255:=by
 by_cases h:i<s.size
 ·rw[Ef s i h];have:=s[i].toNat_lt;omega
 ·rw[Am,MX (by rw[Av];omega)];simp
theorem Own.below{B:Nat}{w w':Ab}{v:Ao}{n:Nat}{zs:List Int}(h:Own B w v n zs)(hb:Blw w w'):Own B w' v n zs:=by
 obtain h|⟨g,h1,h2,h3,h4⟩:=h
 ·exact .inl h
 ·exact .inr ⟨g,h1,h2,h3.below hb,h4⟩
theorem Own.lt{B:Nat}{w:Ab}{v:Ao}{n:Nat}{zs:List Int}(h:Own B w v n zs):∀g,v.ownBlock=some g->B<=g:=by
 intro g hg;obtain⟨rfl,_⟩|⟨g',rfl,h2,_⟩:=h
 ·cases hg
 ·have:g'=g:=Bf hg;omega
theorem Uj(w:Ab)(z:Int)(hz:0<=z/\z<=255):Rd (w.alloc (.cells #[.int .u8 z] 5)) (some ⟨w.heap.size,0,none⟩) [z]:=by
 refine⟨.inr ⟨w.heap.size,0,rfl,by simp,fun i hi=>?_⟩,by simpa using hz⟩;have:i=0:=by simp at hi;omega
 subst this;simp[go_sem]
theorem AD{w:Ab}{g:Nat}{cur:Array Ao}{t:BH}{fr:Nat × Nat}(h:w.heap[g]?=some (.cells cur t fr))(i:Nat)(v:Ao) :
  (w.setCell ⟨g,i,none⟩ v).heap[g]?=some (.cells (cur.setIfInBounds i v) t fr):=by
 have hg:g<w.heap.size:=(As.1 h).1;have e:w.heap[g]=.cells cur t fr:=by
  rw[FO hg]at h;exact Bf h
 simp[Dq,hg,Ni,e]
def vis(c:Int):Bool:=decide (33<=c) && decide (c<=126)
def dgt(c:Int):Bool:=decide (48<=c) && decide (c<=57)
theorem mU(c:Int):vis c=true↔33<=c/\c<=126:=by simp[vis]
theorem Fz(c:Int):dgt c=true↔48<=c/\c<=57:=by simp[dgt]
theorem Cl{a b:Bool}(h:a=b):Ending.returned (.bool a)=.returned (.bool b):=by rw[h]
theorem YU(c:Int)(w:Ab):Ag Aa 168 #[.int .u8 c] w fun e w'=>e=.returned (.bool (vis c))/\w'=w:=by
 go_enter Tryz.func168,Tryz.ntmps168;go_wp2
 all_goals
  go_ret;exact⟨Cl (by simp[vis];try omega),rfl⟩
theorem Qj(c:Int)(w:Ab):Ag Aa 169 #[.int .u8 c] w fun e w'=>e=.returned (.bool (dgt c))/\w'=w:=by
 go_enter Tryz.func169,Tryz.ntmps169;go_wp2
 all_goals
  go_ret;exact⟨Cl (by simp[dgt];try omega),rfl⟩
def v2(a b:Int):Int:=10*(a - 48)+(b - 48)
def v3(a b c:Int):Int:=100*(a - 48)+10*(b - 48)+(c - 48)
def MS(l:List Int):Int × Int:=
 if l.length<4 then(0,0)
 else if dgt (l.getD 1 0) && dgt (l.getD 2 0) && dgt (l.getD 3 0) && decide (v3 (l.getD 1 0) (l.getD 2 0) (l.getD 3 0)<=255) then(v3 (l.getD 1 0) (l.getD 2 0) (l.getD 3 0),4)
 else(0,0)
def esc(l:List Int):Int × Int:=
 if l.length<=1 then(0,0)
 else if dgt (l.getD 1 0) then MS l
 else if vis (l.getD 1 0) then(l.getD 1 0,2) else(0,0)
def fr(l:List Int):Int × Int:=
 if !vis (l.getD 0 0) then(0,0)
 else if l.getD 0 0 == 92 then esc l
 else(l.getD 0 0,1)
def Ng(a b c:Int):Int × Int:=if dgt a && dgt b && dgt c && decide (v3 a b c<=255) then(v3 a b c,4) else(0,0)
theorem gK(t:ByteArray)(w:Ab)(ht:t.size<=9223372036854775807) :
  Ag Aa 170 #[.string t] w fun e w'=>e=.returned (.tuple #[.int .u8 (MS (Ai t)).1,.int .i64 (MS (Ai t)).2])/\w'=w:=by
 by_cases h4:t.size<4
 ·have h4':(t.size:Int)<4:=by omega
  have e:MS (Ai t)=(0,0):=by unfold MS;rw[if_pos (by rw[Av];exact h4)]
  go_enter Tryz.func170,Tryz.ntmps170;go_wp2;go_ret2;exact⟨by rw[e];rfl,rfl⟩
 ·have h4':¬ (t.size:Int)<4:=by omega
  have i1:1<t.size:=by omega
  have i2:2<t.size:=by omega
  have i3:3<t.size:=by omega
  have HE:Hid (MS (Ai t)=Ng (t[1].toNat:Int) (t[2].toNat:Int) (t[3].toNat:Int)):=by
   show MS (Ai t)=_;unfold MS Ng;rw[if_neg (by rw[Av];exact h4),Ef t 1 i1,Ef t 2 i2,Ef t 3 i3]
  have b1:=t[1].toNat_lt;have b2:=t[2].toNat_lt;have b3:=t[3].toNat_lt;go_enter Tryz.func170,Tryz.ntmps170;go_wp2_with fail
  go_loop [4,10] (fun n x=>(n=.int .i64 0/\x=.int .i64 0)∨(n=.int .i64 ((t[1].toNat:Int) - 48)/\x=.int .i64 1/\dgt (t[1].toNat:Int)=true)∨(n=.int .i64 (v2 (t[1].toNat:Int) (t[2].toNat:Int))/\x=.int .i64 2/\dgt (t[1].toNat:Int)=true/\dgt (t[2].toNat:Int)=true)∨(n=.int .i64 (v3 (t[1].toNat:Int) (t[2].toNat:Int) (t[3].toNat:Int))/\x=.int .i64 3/\dgt (t[1].toNat:Int)=true/\dgt (t[2].toNat:Int)=true/\dgt (t[3].toNat:Int)=true)) (fun _ x=>3 - (intOf x).toNat)
  case atStart=>exact .inl ⟨rfl,rfl⟩
  case round=>
   obtain⟨rfl,rfl⟩|⟨rfl,rfl,d1⟩|⟨rfl,rfl,d1,d2⟩|⟨rfl,rfl,d1,d2,d3⟩:=hrel
   ·go_wp2_with fail;refine(Qj _ _).mono ?_;rintro e w1 ⟨rfl,rfl⟩;by_cases d:dgt (t[1].toNat:Int)=true
    ·have d':=(Fz _).1 d;go_wp2;exact⟨.inr (.inl ⟨rfl,rfl,d⟩),by decide⟩
    ·have d':dgt (t[1].toNat:Int)=false:=by simpa using d
     go_wp2;go_ret2;have e:Ng (t[1].toNat:Int) (t[2].toNat:Int) (t[3].toNat:Int)=(0,0):=by unfold Ng;rw[d'];rfl
     exact⟨by rw[HE.out,e];rfl,rfl⟩
   ·have e1:=(Fz _).1 d1;go_wp2_with fail;refine(Qj _ _).mono ?_;rintro e w1 ⟨rfl,rfl⟩;by_cases d:dgt (t[2].toNat:Int)=true
    ·have d':=(Fz _).1 d;go_wp2;exact⟨.inr (.inr (.inl ⟨congrArg _ (by unfold v2;omega),rfl,d1,d⟩)),by decide⟩
    ·have d':dgt (t[2].toNat:Int)=false:=by simpa using d
     go_wp2;go_ret2;have e:Ng (t[1].toNat:Int) (t[2].toNat:Int) (t[3].toNat:Int)=(0,0):=by unfold Ng;rw[d1,d'];rfl
     exact⟨by rw[HE.out,e];rfl,rfl⟩
   ·have e1:=(Fz _).1 d1;have e2:=(Fz _).1 d2;have HV:Hid (v3 (t[1].toNat:Int) (t[2].toNat:Int) (t[3].toNat:Int)=(10:Int)*v2 (t[1].toNat:Int) (t[2].toNat:Int)+((t[3].toNat:Int) - 48)):=by show _=_;unfold v3 v2;omega
    have hv:(0:Int)<=v2 (t[1].toNat:Int) (t[2].toNat:Int)/\v2 (t[1].toNat:Int) (t[2].toNat:Int)<=99:=by unfold v2;omega
    go_wp2_with fail;refine(Qj _ _).mono ?_;rintro e w1 ⟨rfl,rfl⟩;by_cases d:dgt (t[3].toNat:Int)=true
    ·have d':=(Fz _).1 d;go_wp2;exact⟨.inr (.inr (.inr ⟨congrArg _ (by rw[HV.out]),rfl,d1,d2,d⟩)),by decide⟩
    ·have d':dgt (t[3].toNat:Int)=false:=by simpa using d
     go_wp2;go_ret2;have e:Ng (t[1].toNat:Int) (t[2].toNat:Int) (t[3].toNat:Int)=(0,0):=by unfold Ng;rw[d1,d2,d'];rfl
     exact⟨by rw[HE.out,e];rfl,rfl⟩
   ·have e1:=(Fz _).1 d1;have e2:=(Fz _).1 d2;have e3:=(Fz _).1 d3;generalize hG:v3 (t[1].toNat:Int) (t[2].toNat:Int) (t[3].toNat:Int)=z at*;have hv:(0:Int)<=z/\z<=999:=by subst hG;unfold v3;omega
    have HC:Hid (Ng (t[1].toNat:Int) (t[2].toNat:Int) (t[3].toNat:Int)=if decide (z<=255) then(z,4) else(0,0)):=by subst hG;show _=_;unfold Ng;rw[d1,d2,d3];rfl
    clear hG;by_cases h:255<z
    ·go_wp2;go_ret2;exact⟨by rw[HE.out,HC.out,if_neg (by simp;omega)];rfl,rfl⟩
    ·have hz:z % 256=z:=by omega
     go_wp2;go_ret2;exact⟨by rw[HE.out,HC.out,if_pos (by simp;omega)];rfl,rfl⟩
theorem vK(t:ByteArray)(w:Ab)(h1:1<=t.size)(ht:t.size<=9223372036854775807) :
  Ag Aa 133 #[.string t] w fun e w'=>e=.returned (.tuple #[.int .u8 (fr (Ai t)).1,.int .i64 (fr (Ai t)).2])/\w'=w:=by
 have i0:0<t.size:=by omega
 have HE:Hid (fr (Ai t)=if !vis (t[0].toNat:Int) then(0,0) else if (t[0].toNat:Int) == 92 then esc (Ai t) else((t[0].toNat:Int),1)):=by
  show fr (Ai t)=_;unfold fr;rw[Ef t 0 i0]
 have h1':(1:Int)<=(t.size:Int):=by omega
 go_enter Tryz.func133,Tryz.ntmps133;go_wp2_with fail;refine(YU _ _).mono ?_;rintro e w1 ⟨rfl,rfl⟩;by_cases hv:vis (t[0].toNat:Int)=true
 ·by_cases h92:(t[0].toNat:Int)=92
  ·have HF:Hid (fr (Ai t)=esc (Ai t)):=by
    show _=_;rw[HE.out,hv,h92];rfl
   clear HE;by_cases h2:1<t.size
   focus
    have h2':(1:Int)<(t.size:Int):=by omega
    have HG:Hid (esc (Ai t)=if dgt (t[1].toNat:Int) then MS (Ai t) else if vis (t[1].toNat:Int) then((t[1].toNat:Int),2) else(0,0)):=by
     show esc (Ai t)=_;unfold esc;rw[if_neg (by rw[Av];omega),Ef t 1 h2]
    go_wp2_with fail;refine(Qj _ _).mono ?_;rintro e w2 ⟨rfl,rfl⟩;by_cases hd:dgt (t[1].toNat:Int)=true
    focus
     have HN:Hid (esc (Ai t)=MS (Ai t)):=by show _=_;rw[HG.out,hd];rfl
     go_wp2_with fail;refine(gK t _ ht).mono ?_;rintro e w3 ⟨rfl,rfl⟩
    rotate_left
    focus
     have hd':dgt (t[1].toNat:Int)=false:=by simpa using hd
     clear hd;go_wp2_with fail;refine(YU _ _).mono ?_;rintro e w3 ⟨rfl,rfl⟩;by_cases hv1:vis (t[1].toNat:Int)=true
     focus
      have HN:Hid (esc (Ai t)=((t[1].toNat:Int),2)):=by show _=_;rw[HG.out,hd',hv1];rfl
     rotate_left
     focus
      have hv1':vis (t[1].toNat:Int)=false:=by simpa using hv1
      have HN:Hid (esc (Ai t)=(0,0)):=by show _=_;rw[HG.out,hd',hv1'];rfl
      clear hv1
     rotate_left
    rotate_left 2
   rotate_left 3
   focus
    have h2':¬ (1:Int)<(t.size:Int):=by omega
    have HN:Hid (esc (Ai t)=(0,0)):=by show _=_;unfold esc;rw[if_pos (by rw[Av];omega)]
   rotate_left
   all_goals
    go_wp2;go_ret2;exact⟨by rw[HF.out,HN.out];rfl,rfl⟩
  ·have HF:Hid (fr (Ai t)=((t[0].toNat:Int),1)):=by
    show _=_;rw[HE.out,hv,beq_false_of_ne h92];rfl
   have hb:((t[0].toNat:Int) != 92)=true:=bne_iff_ne.2 h92;clear HE h92;go_wp2;go_ret2;exact⟨by rw[HF.out];rfl,rfl⟩
 ·have hv':vis (t[0].toNat:Int)=false:=by simpa using hv
  have HF:Hid (fr (Ai t)=(0,0)):=by show _=_;rw[HE.out,hv'];rfl
  clear HE hv;go_wp2;go_ret2;exact⟨by rw[HF.out];rfl,rfl⟩
def BB(w:Ab)(b:Nat)(p v:Ao):Prop:=w.heap[b]?=some (.cells #[p,v] 65 (0,0))
theorem BB.lt{w:Ab}{b:Nat}{p v:Ao}(h:BB w b p v):b<w.heap.size:=(As.1 h).1
theorem BB.c0{w:Ab}{b:Nat}{p v:Ao}(h:BB w b p v):w.cell? ⟨b,0,none⟩=some p:=by
 have h':w.heap[b]?=_:=h;simp[Az,h']
theorem BB.c1{w:Ab}{b:Nat}{p v:Ao}(h:BB w b p v):w.cell? ⟨b,1,none⟩=some v:=by
 have h':w.heap[b]?=_:=h;simp[Az,h']
theorem BB.fz{w:Ab}{b:Nat}{p v:Ao}(h:BB w b p v)(i:Nat):w.frozen? ⟨b,i,none⟩=false:=by
 have h':w.heap[b]?=_:=h;simp[Dv,h']
theorem BB.sh{w:Ab}{b:Nat}{p v:Ao}(h:BB w b p v):w.shape? b=some (65,2):=by
 have h':w.heap[b]?=_:=h;simp[World.shape?,h']
theorem BB.same{w w':Ab}{b:Nat}{p v:Ao}(h:BB w b p v)(hb:w'.heap[b]?=w.heap[b]?):BB w' b p v:=hb.trans h
theorem oQ(x:Ao)(w:Ab):(callFunc 136 #[x]).run Aa w=.ok (.value x) w:=by
 rw[run_callFunc_extern (e:=Extern.AbiNoEscape.same) Tryz.func136 (by kernel_rfl) (by kernel_rfl) (by kernel_rfl) (by kernel_rfl) _ w]
 rfl
theorem Ym(a:Addr)(w:Ab):(binOp .neq 63 (.pointer (some a)) (.pointer (some a))).run Aa w=.ok (.bool false) w:=by
 obtain⟨j,hi⟩:∃j,Aa.info? 65=some j:=Lt.1 (by kernel_rfl);exact Lib.run_neq_ptr_same w a Tryz.underlying63 hi
theorem aQ(w:Ab)(b:Nat)(h:w.shape? b=some (65,2)):(convert 63 175 (.pointer (some ⟨b,0,none⟩))).run Aa w=.ok (.pointer (some ⟨b,0,none⟩)) w:=by
 obtain⟨j,hi⟩:∃j,Aa.info? 65=some j:=Lt.1 (by kernel_rfl);have hz:(Aa.info? 65).map (·.size)=some 2:=by kernel_rfl
 rw[hi]at hz;have hj:j.size=2:=by simpa using hz
 exact Lib.run_to_unsafe w ⟨b,0,none⟩ Tryz.underlying63 Tryz.underlying175 hi (by omega) h (by simp)
theorem WA(w:Ab)(b:Nat)(h:w.shape? b=some (65,2)):(convert 175 63 (.pointer (some ⟨b,0,none⟩))).run Aa w=.ok (.pointer (some ⟨b,0,none⟩)) w:=by
 obtain⟨j,hi⟩:∃j,Aa.info? 65=some j:=Lt.1 (by kernel_rfl);exact Lib.run_from_unsafe w ⟨b,0,none⟩ Tryz.underlying175 Tryz.underlying63 hi h (by kernel_rfl)
theorem Jz(b:Nat)(v:Ao)(w:Ab)(h:BB w b (.pointer none) v) :
  Ag Aa 93 #[.pointer (some ⟨b,0,none⟩)] w fun e w'=>e=.returned (.tuple #[])/\w'=w.setCell ⟨b,0,none⟩ (.pointer (some ⟨b,0,none⟩)):=by
 have c0:=h.c0;have f0:=h.fz 0;have h1:=oQ;have h2:=aQ w b h.sh;have h3:=WA w b h.sh;have h4:=Ym ⟨b,0,none⟩;clear h;go_enter Tryz.func93,Tryz.ntmps93;go_wp2
 go_end0
 exact⟨rfl,rfl⟩
theorem Lg(b:Nat)(v:Ao)(w:Ab)(h:BB w b (.pointer (some ⟨b,0,none⟩)) v) :
  Ag Aa 93 #[.pointer (some ⟨b,0,none⟩)] w fun e w'=>e=.returned (.tuple #[])/\w'=w:=by
 have c0:=h.c0;have h4:=Ym ⟨b,0,none⟩;clear h;go_enter Tryz.func93,Tryz.ntmps93;go_wp2
 go_end0
 exact⟨rfl,rfl⟩
theorem cV{B:Nat}{w0 w w':Ab}{b:Nat}(hb:Below B w0 w)(hlt:b<w.heap.size)(hg:w.grownBy w' (some b))(hB:B<=b):Below B w0 w':=
 hb.grown hg (by omega) (fun k e=>by have:=Bf e;omega)
def BSt(B:Nat)(w:Ab)(b N:Nat)(bs:List Ao):Prop:=
 (N=0/\bs=[]/\BB w b (.pointer (some ⟨b,0,none⟩)) (.slice none 0 0)) ∨
 ∃g c,BB w b (.pointer (some ⟨b,0,none⟩)) (.slice (some ⟨g,0,none⟩) bs.length c)/\w.ownsRow B 5 1 (.slice (some ⟨g,0,none⟩) bs.length c) bs.length bs/\N<=c/\g≠b/\g<w.heap.size/\0<c
theorem fE(B b N:Nat)(bs:List Ao)(z:Int)(w:Ab)(h:BSt B w b N bs)(hN:bs.length+1<=N)(hB:B<=b) :
  Ag Aa 95 #[.pointer (some ⟨b,0,none⟩),.int .u8 z] w fun e w'=>e=.returned .nilIface/\Hid (BSt B w' b N (bs++[.int .u8 z])/\Below B w w'):=by
 obtain⟨h0,_⟩|⟨g,c,h1,h2,h3,h4,h5,h6⟩:=h
 ·omega
 have HB:Hid (BB w b (.pointer (some ⟨b,0,none⟩)) (.slice (some ⟨g,0,none⟩) bs.length c)/\w.ownsRow B 5 1 (.slice (some ⟨g,0,none⟩) bs.length c) bs.length bs):=⟨h1,h2⟩;have c1:=h1.c1;have hlt:=h1.lt;have f1:=h1.fz 1;clear h1 h2;go_enter Tryz.func95,Tryz.ntmps95;go_wp2_with fail;refine(Lg b _ _ HB.out.1).mono ?_;rintro e w1 ⟨rfl,rfl⟩;obtain⟨i5,hi,hz0,hz1,hz2⟩:=PT Tryz.info5;have HI:Hid (Aa.info? 5=some i5/\i5.size=1):=⟨hi,hz1⟩;clear hi hz0 hz1 hz2;have HO:Hid ((w1.alloc (.cells #[.int .u8 z] 5)).ownsRow B 5 1 (.slice (some ⟨g,0,none⟩) bs.length c) bs.length bs):=HB.out.2.alloc _;have HC:Hid (∀j u,([.int .u8 z]:List Ao)[j]?=some u->(w1.alloc (.cells #[.int .u8 z] 5)).cell? ((⟨w1.heap.size,0,none⟩:Addr).add j)=some u):=by
  intro j u hu;have hj:j=0:=by have:=(EC.1 hu).1;simp at this;omega
  subst hj;simp at hu;subst hu;simp[go_sem,Kk]
 go_wp2_with (at_builtin;refine wpList_append_fits _ rfl _ _ 39 rfl B 5 i5 1 AI HI.out.1 HI.out.2 g bs.length c bs rfl HO.out ⟨w1.heap.size,0,none⟩ 1 1 [.int .u8 z] rfl rfl HC.out (by intro u hu;simp at hu;subst hu;rfl) (by omega) ?_;intro w2 hown2 hgr2;have hbk:Hid (w2.heap[b]?=w1.heap[b]?):=(hgr2.block b (by simp;omega) (fun e=>h4 (Bf e).symm)).trans (EP _ _ b hlt);have d1:=(HB.out.1.same hbk.out).c1;have d2:=(HB.out.1.same hbk.out).fz 1;have HG2:Hid ((w1.alloc (.cells #[.int .u8 z] 5)).grownBy w2 (some g)/\w2.ownsRow B 5 1 (.slice (some ⟨g,0,none⟩) (bs.length+1) c) (bs.length+1) (bs++[.int .u8 z])):=⟨hgr2,hown2⟩;clear hown2 hgr2);go_ret;have hBg:B<=g:=(HB.out.2.lt g rfl).1;have hgs:g<w2.heap.size:=(HG2.out.2.lt g rfl).2;have hb2:=HB.out.1.same hbk.out;have hbel:Below B w1 w2:=((Ae B w1).alloc (by omega) _).grown HG2.out.1 (by simp;omega) (fun k e=>by have:=Bf e;omega);refine⟨rfl,.inr ⟨g,c,?_,?_,h3,h4,by simpa[Dq] using hgs,h6⟩,hbel.setCell hB _⟩
 ·have:=AD hb2 1 (.slice (some ⟨g,0,none⟩) (bs.length+1) c);simpa[BB] using this
 ·have:=HG2.out.2.kept (w':=w2.setCell ⟨b,1,none⟩ (.slice (some ⟨g,0,none⟩) (bs.length+1) c)) (row:=some b) ⟨rfl,rfl,rfl,by simp[Dq],fun k _ hk=>Ar _ _ _ _ (fun e=>hk (by simp[e]))⟩ (.inr (fun e=>h4 (Bf e)));simpa using this
theorem Uh(w:Ab)(g n b:Nat)(h:g≠b):(w.freeze ⟨g,0,none⟩ n).heap[b]?=w.heap[b]?:=by
 unfold World.freeze;split
 ·rfl
 ·simp[Array.getElem?_modify,h]
theorem UI(B b N:Nat)(l:List UInt8)(w:Ab)(h:BSt B w b N (Ak l))(hN:l.length=N)(hl:l.length<=9223372036854775807) :
  Ag Aa 31 #[.pointer (some ⟨b,0,none⟩)] w fun e w'=>e=.returned (.string ⟨l.toArray⟩)/\Hid (Below B w w'):=by
 obtain⟨h0,h1,h2⟩|⟨g,c,h1,h2,h3,h4,h5,h6⟩:=h
 ·have hl0:l=[]:=AC (by omega);subst hl0;have c1:=h2.c1;have hlt:=h2.lt;have s1:∀(W:Ab) (ts:Array BH) (ty:BH),(Km ts ty #[.slice none 0 0]).run Aa W=.ok (.pointer none) W:=fun W ts ty=>Lib.run_unsafeSliceData_nil W ts ty 0 0
  have s2:∀(W:Ab) (ty:BH),(Ib #[106,3] ty #[.pointer none,.int .i64 0]).run Aa W=.ok (.string .empty) W:=fun W ty=>ML W 106 3 ty none
  clear h1 h2;go_enter Tryz.func31,Tryz.ntmps31;go_wp2_with fail
  go_region_held3 (fun W=>W.cell? ⟨b,1,none⟩=some (.slice none 0 0)) (go_keep) (fail)
  go_wp2;go_ret;exact⟨rfl,(Ae _ _).drew⟩
 ·rw[Dr]at h1 h2;have c1:=h1.c1;have hlt:=h1.lt;have s1:∀(W:Ab) (ts:Array BH) (ty:BH),(Km ts ty #[.slice (some ⟨g,0,none⟩) l.length c]).run Aa W=.ok (.pointer (some ⟨g,0,none⟩)) W:=fun W ts ty=>Lib.run_unsafeSliceData_row W ts ty _ _ _ (by omega)
  by_cases h0:l=[]
  ·subst h0;have s2:∀(W:Ab) (ty:BH),(Ib #[106,3] ty #[.pointer (some ⟨g,0,none⟩),.int .i64 0]).run Aa W=.ok (.string .empty) W:=fun W ty=>ML W 106 3 ty _
   clear h1 h2 hN;simp only[CZ]at c1 s1;go_enter Tryz.func31,Tryz.ntmps31;go_wp2_with fail
   go_region_held3 (fun W=>W.cell? ⟨b,1,none⟩=some (.slice (some ⟨g,0,none⟩) 0 c)) (go_keep) (fail)
   go_wp2;go_ret;exact⟨rfl,(Ae _ _).drew⟩
  ·have hBg:=(h2.lt g rfl).1;have s2:∀ty:BH,(Ib #[106,3] ty #[.pointer (some ⟨g,0,none⟩),.int .i64 l.length]).run Aa w.drew=.ok (.string ⟨l.toArray⟩) (w.drew.freeze ⟨g,0,none⟩ l.length):=by
    intro ty;have hsh:w.drew.shape? g=some (5,c):=by
     obtain⟨e,_⟩|⟨g',cap,cur,e,_,hg,_,_,hs,_⟩:=h2.2
     ·cases e
     ·have e1:g=g':=by injection e with e1 _ _;injection e1 with e1;injection e1
      have e2:c=cap:=by injection e
      subst e1;subst e2;have hg':w.drew.heap[g]?=some (.cells cur 5 (0,0)):=hg;simp[World.shape?,hg',hs]
    exact Lib.run_unsafeString_row w.drew 106 3 ty 5 Ho (by kernel_rfl) g c hsh l h0 (by omega) hl (fun j x hx=>by
     have:=h2.cells (g:=g) rfl j (.int .u8 x.toNat) (by simp[Ak,hx]);exact this)
   have HF:Hid (Below B w (w.drew.freeze ⟨g,0,none⟩ l.length)):=Lib.below_freeze (Ae _ _).drew hBg _;have hfc:(w.drew.freeze ⟨g,0,none⟩ l.length).cell? ⟨b,1,none⟩=some (.slice (some ⟨g,0,none⟩) l.length c):=(AE (w:=w) (a:=⟨b,1,none⟩) (Uh w.drew g l.length b h4)).trans c1;clear h1 h2 hN;generalize hll:l.length=ll at*;clear hll;go_enter Tryz.func31,Tryz.ntmps31;go_wp2_with fail
   go_region_held3 (fun W=>W.cell? ⟨b,1,none⟩=some (.slice (some ⟨g,0,none⟩) ll c)) (go_keep) (fail)
   go_wp2;go_ret;exact⟨rfl,HF.out⟩
def GU(B:Nat)(w:Ab)(b:Nat)(bs:List Ao):Prop:=
 ∃v,BB w b (.pointer (some ⟨b,0,none⟩)) v/\w.ownsRow B 5 1 v bs.length bs/\v.ownBlock≠some b
def GS(B:Nat)(w:Ab)(b:Nat)(bs:List Ao):Prop:=
 (BB w b (.pointer none) (.slice none 0 0)/\bs=[])∨(GU B w b bs/\bs≠[])
theorem GS.fresh(w:Ab):GS w.heap.size (w.alloc (.cells #[.pointer none,.slice none 0 0] 65)) w.heap.size []:=
 .inl ⟨Au _ _,rfl⟩
theorem Kj{B:Nat}{w:Ab}{e z:Nat}{v:Ao}{n:Nat}{bs:List Ao}(h:w.ownsRow B e z v n bs):∃ao c,v=.slice ao n c:=by
 obtain⟨rfl,rfl⟩|⟨g,cap,cur,rfl,_⟩:=h.2
 ·exact⟨none,0,rfl⟩
 ·exact⟨_,_,rfl⟩
theorem Qe{B:Nat}{w:Ab}{b:Nat}{v:Ao}{n:Nat}{bs:List Ao}(h:w.ownsRow B 5 1 v n bs)(hne:v.ownBlock≠some b)(i:Nat)(x:Ao):(w.setCell ⟨b,i,none⟩ x).ownsRow B 5 1 v n bs:=
 h.kept (row:=some b) ⟨rfl,rfl,rfl,by simp[Dq],fun k _ hk=>Ar _ _ _ _ (fun e=>hk (by simp[e]))⟩ (.inr hne)
theorem QE(B b:Nat)(bs:List Ao)(w:Ab)(h:GS B w b bs)(hB:B<=b) :
  Ag Aa 93 #[.pointer (some ⟨b,0,none⟩)] w fun e w'=>e=.returned (.tuple #[])/\Hid (GU B w' b bs/\Below B w w'):=by
 obtain⟨h1,rfl⟩|⟨⟨v,h1,h3,h4⟩,_⟩:=h
 ·refine(Jz b _ w h1).mono ?_;rintro e w' ⟨rfl,rfl⟩;refine⟨rfl,⟨.slice none 0 0,?_,World.ownsRow_nil _ _ _ _,by simp[Bm]⟩,(Ae _ _).setCell hB _⟩;have:=AD h1 0 (.pointer (some ⟨b,0,none⟩));simpa[BB] using this
 ·refine(Lg b v w h1).mono ?_;rintro e w' ⟨rfl,rfl⟩;exact⟨rfl,⟨v,h1,h3,h4⟩,Ae _ _⟩
theorem Is(B b:Nat)(bs:List Ao)(z:Int)(w:Ab)(h:GS B w b bs)(hB:B<=b)(hl:bs.length+1<=140737488355328) :
  Ag Aa 95 #[.pointer (some ⟨b,0,none⟩),.int .u8 z] w fun e w'=>e=.returned .nilIface/\Hid (GS B w' b (bs++[.int .u8 z])/\Below B w w'):=by
 have HG:Hid (GS B w b bs):=h;clear h;go_enter Tryz.func95,Tryz.ntmps95;go_wp2_with fail;refine(QE B b bs _ HG.out hB).mono ?_;rintro e w1 ⟨rfl,H1⟩;obtain⟨v,h1,h2,h4⟩:=H1.out.1;have HB1:Hid (Below B w w1):=H1.out.2;have HB:Hid (BB w1 b (.pointer (some ⟨b,0,none⟩)) v/\w1.ownsRow B 5 1 v bs.length bs):=⟨h1,h2⟩;have c1:=h1.c1;have hlt:=h1.lt;clear h1 h2 H1 HG;obtain⟨i5,hi,hz0,hz1,hz2⟩:=PT Tryz.info5;have HI:Hid (Aa.info? 5=some i5/\i5.zero=some (.int .u8 0)/\i5.size=1/\i5.bytes=1):=⟨hi,hz0,hz1,hz2⟩;clear hi hz0 hz1 hz2;have HO:Hid ((w1.alloc (.cells #[.int .u8 z] 5)).ownsRow B 5 1 v bs.length bs):=HB.out.2.alloc _;have HC:Hid (∀j u,([.int .u8 z]:List Ao)[j]?=some u->(w1.alloc (.cells #[.int .u8 z] 5)).cell? ((⟨w1.heap.size,0,none⟩:Addr).add j)=some u):=by
  intro j u hu;have hj:j=0:=by have:=(EC.1 hu).1;simp at this;omega
  subst hj;simp at hu;subst hu;simp[go_sem,Kk]
 go_wp2_with (at_builtin;refine wpList_append_own _ rfl _ _ 39 rfl B 5 i5 (.int .u8 0) 1 1 AI HI.out.1 HI.out.2.1 HI.out.2.2.1 HI.out.2.2.2 rfl (by decide) v bs.length bs rfl HO.out ⟨w1.heap.size,0,none⟩ 1 1 [.int .u8 z] rfl rfl HC.out (by intro u hu;simp at hu;subst hu;rfl) (by simp only[Gi];omega) (by omega) (by simp;omega) ?_;intro v' w2 hown2 hgr2 hnil;obtain⟨ao,cc,rfl⟩:=Kj hown2;have hbk:Hid (w2.heap[b]?=w1.heap[b]?):=(hgr2.block b (by simp;omega) (fun e=>h4 e.symm)).trans (EP _ _ b hlt);have d1:=(HB.out.1.same hbk.out).c1;have d2:=(HB.out.1.same hbk.out).fz 1;have HG2:Hid ((w1.alloc (.cells #[.int .u8 z] 5)).grownBy w2 v.ownBlock/\w2.ownsRow B 5 1 (.slice ao (bs.length+1) cc) (bs.length+1) (bs++[.int .u8 z])):=⟨hgr2,hown2⟩;clear hown2 hgr2 hnil);go_ret;have hb2:=HB.out.1.same hbk.out;have hrow:∀g,v.ownBlock=some g->B<=g:=fun g hg=>(HB.out.2.lt g hg).1
 have hbel:Below B w1 w2:=((Ae B w1).alloc (by omega) _).grown HG2.out.1 (by simp;omega) hrow;have hne:(Ce ao (bs.length+1) cc).ownBlock≠some b:=by
  intro e;obtain⟨_,hc|⟨g,cap,cur,hv,_,hg,_⟩⟩:=HG2.out.2
  ·rw[hc.1]at e;simp[Bm]at e
  ·rw[hv]at e;have e2:g=b:=by simpa[Bm] using e
   rw[e2]at hg;have hb3:w2.heap[b]?=_:=hb2;rw[hb3]at hg;injection hg with hg
   injection hg with _ hg _
   exact absurd hg (by decide)
 refine⟨rfl,.inr ⟨⟨.slice ao (bs.length+1) cc,?_,?_,hne⟩,by simp⟩,HB1.out.trans (hbel.setCell hB _)⟩
 ·have:=AD hb2 1 (.slice ao (bs.length+1) cc);simpa[BB] using this
 ·have:=Qe HG2.out.2 hne 1 (.slice ao (bs.length+1) cc);simpa using this
theorem Qn(B b:Nat)(l:List UInt8)(w:Ab)(h:GS B w b (Ak l))(hl:l.length<=9223372036854775807) :
  Ag Aa 31 #[.pointer (some ⟨b,0,none⟩)] w fun e w'=>e=.returned (.string ⟨l.toArray⟩)/\Hid (Below B w w'):=by
 obtain⟨h1,h0⟩|⟨⟨v,h1,h2,h4⟩,hne⟩:=h
 ·have hl0:l=[]:=by
   have:=congrArg FH h0;rw[Dr]at this;exact AC this
  subst hl0;have c1:=h1.c1;have s1:∀(W:Ab) (ts:Array BH) (ty:BH),(Km ts ty #[.slice none 0 0]).run Aa W=.ok (.pointer none) W:=fun W ts ty=>Lib.run_unsafeSliceData_nil W ts ty 0 0
  have s2:∀(W:Ab) (ty:BH),(Ib #[106,3] ty #[.pointer none,.int .i64 0]).run Aa W=.ok (.string .empty) W:=fun W ty=>ML W 106 3 ty none
  clear h1 h0;go_enter Tryz.func31,Tryz.ntmps31;go_wp2_with fail
  go_region_held3 (fun W=>W.cell? ⟨b,1,none⟩=some (.slice none 0 0)) (go_keep) (fail)
  go_wp2;go_ret;exact⟨rfl,(Ae _ _).drew⟩
 ·refine UI B b l.length l w (.inr ?_) rfl hl;have hlen:=Dr l;have hpos:0<(Ak l).length:=List.length_pos_iff.2 hne;obtain⟨_,h0⟩|⟨g,cap,cur,rfl,hBg,hg,hn,hm,hs,hx⟩:=h2.2
  ·omega
  ·exact⟨g,cap,h1,h2,by omega,fun e=>h4 (by rw[e];rfl),(h2.lt g rfl).2,by omega⟩
def spc(c:Int):Bool:=c == 46 || c == 92 || c == 34 || c == 59 || c == 40 || c == 41 || c == 64 || c == 36
def wst(c:Int):Int:=if c<33∨126<c then 2 else if spc c then 1 else 0
def tx1(c:Int):List Int:=if c<33∨126<c then[92,48+c / 100,48+c / 10 % 10,48+c % 10] else if spc c then[92,c] else[c]
def tx(l:List Int):List Int:=l.flatMap tx1
theorem oI(l:List Int)(c:Int):tx (l++[c])=tx l++tx1 c:=by simp[tx]
theorem Qm(c:Int):(tx1 c).length<=4/\1<=(tx1 c).length:=by unfold tx1;split <;> (try split) <;> simp
theorem Yc(l:List Int):(tx l).length<=4*l.length:=by
 induction l with
 |nil=>simp[tx]
 |cons c l ih=>
  have:=Qm c;simp only[tx,Cn,Af,AP]at ih ⊢;omega
theorem sQ(c:Int)(h:0<=c/\c<=255):∀z∈tx1 c,0<=z/\z<=255:=by
 intro z hz;unfold tx1 at hz;split at hz
 rotate_left
 focus
  split at hz
  rotate_left
  rotate_left
 rotate_left 2
 all_goals
  simp only[Ax,List.mem_nil_iff,or_false]at hz;omega
theorem YY(l:List Int)(h:∀z∈l,0<=z/\z<=255):∀z∈tx l,0<=z/\z<=255:=by
 intro z hz;simp only[tx,List.mem_flatMap]at hz;obtain⟨c,hc,hz⟩:=hz;exact sQ c (h c hc) z hz
theorem Pf(c:Int):(c=46∨c=92∨c=34∨c=59∨c=40∨c=41∨c=64∨c=36)∨(spc c=false/\(c == 46)=false/\(c == 92)=false/\(c == 34)=false/\(c == 59)=false/\(c == 40)=false/\(c == 41)=false/\(c == 64)=false/\(c == 36)=false/\(c<40∨41<c)):=by
 by_cases h:c=46∨c=92∨c=34∨c=59∨c=40∨c=41∨c=64∨c=36
 ·exact .inl h
 ·right
  have e1:¬ c=46:=by omega
  have e2:¬ c=92:=by omega
  have e3:¬ c=34:=by omega
  have e4:¬ c=59:=by omega
  have e5:¬ c=40:=by omega
  have e6:¬ c=41:=by omega
  have e7:¬ c=64:=by omega
  have e8:¬ c=36:=by omega
  simp[spc,e1,e2,e3,e4,e5,e6,e7,e8];omega
theorem VX(c:Int)(w:Ab)(h:0<=c/\c<=255):Ag Aa 94 #[.int .u8 c] w fun e w'=>e=.returned (.int .i64 (wst c))/\w'=w:=by
 by_cases hu:c<33∨126<c
 ·have HW:Hid (wst c=2):=by show _=_;unfold wst;rw[if_pos hu]
  obtain hu|hu:=hu
  all_goals
   go_enter Tryz.func94,Tryz.ntmps94;go_wp2;go_ret;exact⟨by rw[HW.out];rfl,rfl⟩
 ·have h1:¬ c<33:=by omega
  have h2:¬ 126<c:=by omega
  have hs:=Pf c;have HW:Hid (wst c=if spc c then 1 else 0):=by show _=_;unfold wst;rw[if_neg hu]
  clear hu;obtain hs|⟨hs,e1,e2,e3,e4,e5,e6,e7,e8,hor⟩:=hs
  ·obtain rfl|rfl|rfl|rfl|rfl|rfl|rfl|rfl:=hs
   all_goals
    clear HW;go_enter Tryz.func94,Tryz.ntmps94;go_wp2;go_ret;exact⟨rfl,rfl⟩
  ·rw[hs]at HW;clear hs e5 e6;obtain ho|ho:=hor
   all_goals
    go_enter Tryz.func94,Tryz.ntmps94;go_wp2;go_ret;exact⟨by rw[HW.out];rfl,rfl⟩
theorem fK(l:List Int)(h:∀z∈l,0<=z/\z<=255):Ak (txt l)=l.map (AL .u8):=by
 unfold Ak txt;rw[Fq];apply ED
 intro z hz;have:=h z hz;simp;omega
theorem MF(s:ByteArray):∀z∈Ai s,0<=z/\z<=255:=by
 intro z hz;simp only[Ai,AY]at hz;obtain⟨b,_,rfl⟩:=hz;have:=b.toNat_lt;omega
theorem dW(s:ByteArray)(w:Ab)(hs:s.size<=35184372088000) :
  Ag Aa 58 #[.string s] w fun e w'=>e=.returned (.string ⟨(txt (tx (Ai s))).toArray⟩)/\Hid (Blw w w'):=by
 have H0:Hid (GS w.heap.size (w.alloc (.cells #[.pointer none,.slice none 0 0] 65)) w.heap.size []/\Blw w (w.alloc (.cells #[.pointer none,.slice none 0 0] 65))):=⟨GS.fresh w,(Ae _ _).alloc (Ad _) _⟩;go_enter Tryz.func58,Tryz.ntmps58;go_wp2_with fail;go_loopw [8] (fun x wr=>∃k:Nat,k<=s.size/\x=.int .i64 k/\Hid (GS w.heap.size wr w.heap.size ((tx ((Ai s).take k)).map (AL .u8))/\Blw w wr)) (fun x _=>s.size - (intOf x).toNat)
 case atStart=>exact⟨0,Aw _,rfl,H0⟩
 case round=>
  obtain⟨k,hk,rfl,HW⟩:=hrel;clear H0;by_cases hlt:k<s.size
  ·have hlt':(k:Int)<(s.size:Int):=by omega
   have hbd:=Lf s k;have HT:Hid ((Ai s).take (k+1)=(Ai s).take k++[(Ai s).getD k 0]):=Kf _ _ (by rw[Av];exact hlt);rw[Ef s k hlt]at hbd HT;have hln:(tx ((Ai s).take k)).length<=4*k:=by
    have h1:=Yc ((Ai s).take k);have h2:((Ai s).take k).length<=k:=by simp;omega
    omega
   have HN:Hid (tx ((Ai s).take (k+1))=tx ((Ai s).take k)++tx1 (s[k].toNat:Int)):=by show _=_;rw[HT.out,oI]
   have HM:Hid (((tx ((Ai s).take k)).map (AL .u8)).length=(tx ((Ai s).take k)).length):=(show _=_ by simp);have HWR:Hid (∀W,Ag Aa 94 #[.int .u8 (s[k].toNat:Int)] W fun e w'=>e=.returned (.int .i64 (wst (s[k].toNat:Int)))/\w'=W):=fun W=>VX _ W hbd
   by_cases hu:(s[k].toNat:Int)<33∨126<(s[k].toNat:Int)
   ·have hw:wst (s[k].toNat:Int)=2:=by unfold wst;rw[if_pos hu]
    have HX:Hid (tx1 (s[k].toNat:Int)=[92,48+(s[k].toNat:Int) / 100,48+(s[k].toNat:Int) / 10 % 10,48+(s[k].toNat:Int) % 10]):=by show _=_;unfold tx1;rw[if_pos hu]
    rw[hw]at HWR;clear hu hw;go_wp2_with fail;refine(HWR.out _).mono ?_;rintro e w1 ⟨rfl,rfl⟩;go_wp2_with fail;refine(Is w.heap.size w.heap.size _ 92 _ HW.out.1 (Ad _) (by rw[HM.out];omega)).mono ?_;rintro e w2 ⟨rfl,H2⟩;go_wp2_with fail;refine(Is w.heap.size w.heap.size _ _ _ H2.out.1 (Ad _) (by simp only[Af,Ch,HM.out];omega)).mono ?_;rintro e w3 ⟨rfl,H3⟩;go_wp2_with fail;refine(Is w.heap.size w.heap.size _ _ _ H3.out.1 (Ad _) (by simp only[Af,Ch,HM.out];omega)).mono ?_;rintro e w4 ⟨rfl,H4⟩;go_wp2_with fail;refine(Is w.heap.size w.heap.size _ _ _ H4.out.1 (Ad _) (by simp only[Af,Ch,HM.out];omega)).mono ?_;rintro e w5 ⟨rfl,H5⟩;go_wp2;refine⟨⟨k+1,by omega,by go_num,?_,((HW.out.2.trans H2.out.2).trans H3.out.2).trans (H4.out.2.trans H5.out.2)⟩,by simp[intOf];omega⟩;rw[HN.out,HX.out,DL];simpa only[Bh,Df,AR,Ay,AQ] using H5.out.1
   ·by_cases hp:spc (s[k].toNat:Int)=true
    ·have hw:wst (s[k].toNat:Int)=1:=by unfold wst;rw[if_neg hu,if_pos hp]
     have HX:Hid (tx1 (s[k].toNat:Int)=[92,(s[k].toNat:Int)]):=by show _=_;unfold tx1;rw[if_neg hu,if_pos hp]
     rw[hw]at HWR;clear hu hw hp;go_wp2_with fail;refine(HWR.out _).mono ?_;rintro e w1 ⟨rfl,rfl⟩;go_wp2_with fail;refine(Is w.heap.size w.heap.size _ 92 _ HW.out.1 (Ad _) (by rw[HM.out];omega)).mono ?_;rintro e w2 ⟨rfl,H2⟩;go_wp2_with fail;refine(Is w.heap.size w.heap.size _ _ _ H2.out.1 (Ad _) (by simp only[Af,Ch,HM.out];omega)).mono ?_;rintro e w3 ⟨rfl,H3⟩;go_wp2;refine⟨⟨k+1,by omega,by go_num,?_,(HW.out.2.trans H2.out.2).trans H3.out.2⟩,by simp[intOf];omega⟩;rw[HN.out,HX.out,DL];simpa only[Bh,Df,AR,Ay,AQ] using H3.out.1
    ·have hp':spc (s[k].toNat:Int)=false:=by simpa using hp
     have hw:wst (s[k].toNat:Int)=0:=by unfold wst;rw[if_neg hu,hp'];rfl
     have HX:Hid (tx1 (s[k].toNat:Int)=[(s[k].toNat:Int)]):=by show _=_;unfold tx1;rw[if_neg hu,hp'];rfl
     rw[hw]at HWR;clear hu hw hp hp';go_wp2_with fail;refine(HWR.out _).mono ?_;rintro e w1 ⟨rfl,rfl⟩;go_wp2_with fail;refine(Is w.heap.size w.heap.size _ _ _ HW.out.1 (Ad _) (by rw[HM.out];omega)).mono ?_;rintro e w2 ⟨rfl,H2⟩;go_wp2;refine⟨⟨k+1,by omega,by go_num,?_,HW.out.2.trans H2.out.2⟩,by simp[intOf];omega⟩;rw[HN.out,HX.out,DL];simpa only[Bh,Df,AR,Ay,AQ] using H2.out.1
  ·have hge:(s.size:Int)<=(k:Int):=by omega
   have ek:(Ai s).take k=Ai s:=Al (by rw[Av];omega);have hg:=HW.out.1;rw[ek,<- fK _ (YY _ (MF s))]at hg;have hl:(txt (tx (Ai s))).length<=9223372036854775807:=by
    have:=Yc (Ai s);rw[Av]at this;rw[II];omega
   have HG:Hid (GS w.heap.size wr w.heap.size (Ak (txt (tx (Ai s))))):=hg;clear hg ek;generalize hLL:txt (tx (Ai s))=L at*;have HLL:Hid (txt (tx (Ai s))=L):=hLL;clear hLL;go_wp2_with fail;refine(Qn w.heap.size w.heap.size L _ HG.out hl).mono ?_;rintro e w2 ⟨rfl,H2⟩;go_wp2;go_ret;exact⟨by rw[HLL.out];rfl,HW.out.2.trans H2.out⟩
def fz(z:Int):Int:=if 65<=z/\z<=90 then z+32 else z
theorem wN(z:Int)(h:0<=z/\z<=255):0<=fz z/\fz z<=255:=by unfold fz;split <;> omega
def JT(w:Ab)(g:Nat)(zs:List Int):Prop:=
 w.heap[g]?=some (.cells (zs.map (AL .u8)).toArray 5 (zs.length,zs.length+1))/\∀z∈zs,0<=z/\z<=255
theorem JT.lt{w:Ab}{g:Nat}{zs:List Int}(h:JT w g zs):g<w.heap.size:=(As.1 h.1).1
theorem JT.cell{w:Ab}{g:Nat}{zs:List Int}(h:JT w g zs)(i:Nat)(hi:i<zs.length):w.cell? ⟨g,i,none⟩=some (.int .u8 (zs.getD i 0)):=by
 simp[Az,h.1,hi]
theorem JT.frozen{w:Ab}{g:Nat}{zs:List Int}(h:JT w g zs)(i:Nat)(hi:i<zs.length):w.frozen? ⟨g,i,none⟩=false:=by
 simp[Dv,h.1];omega
theorem JT.rd{w:Ab}{g:Nat}{zs:List Int}(h:JT w g zs)(n:Nat):Rd w (some ⟨g,0,none⟩) (zs.take n):=by
 refine⟨.inr ⟨g,0,rfl,h.lt,fun i hi=>?_⟩,fun z hz=>h.2 z (Be hz)⟩;rw[Fg,h.cell i (by simp at hi;omega)];have:i<n:=by simp at hi;omega
 simp[Am,this]
theorem JT.stored{w:Ab}{g:Nat}{zs:List Int}(h:JT w g zs)(i:Nat)(z:Int)(hz:0<=z/\z<=255):JT (w.setCell ⟨g,i,none⟩ (.int .u8 z)) g (zs.set i z):=by
 refine⟨?_,fun x hx=>?_⟩
 ·have hg:=h.lt;have h1:=h.1;have e:w.heap[g]=.cells (zs.map (AL .u8)).toArray 5 (zs.length,zs.length+1):=by
   rw[FO hg]at h1;exact Bf h1
  simp[Dq,hg,Ni,e,List.map_set]
 ·obtain hx|hx:=List.mem_or_eq_of_mem_set hx
  ·exact h.2 x hx
  ·subst hx;exact hz
theorem Su(s:ByteArray)(c:Nat):bytesRow s c=((Ai s++AM (c - s.size) 0).map (AL .u8)).toArray:=by
 apply Array.ext'
 simp[bytesRow,Ai]
theorem VK(s:ByteArray):∀z∈Ai s,0<=z/\z<=255:=by
 intro z hz;simp only[Ai,AY]at hz;obtain⟨b,_,rfl⟩:=hz;have:=b.toNat_lt;omega
theorem VN(s:ByteArray)(w:Ab):∃zs:List Int,(convert 9 39 (.string s)).run Aa w=.ok (.slice (some ⟨w.heap.size,0,none⟩) s.size zs.length) (w.drew.alloc (.cells (zs.map (AL .u8)).toArray 5 (zs.length,zs.length+1)))/\
  JT (w.drew.alloc (.cells (zs.map (AL .u8)).toArray 5 (zs.length,zs.length+1))) w.heap.size zs/\zs.take s.size=Ai s/\s.size<=zs.length:=by
 have h:=run_bytes_of_string (P:=Aa) w 9 39 5 s AK AI Ba;have hge:=grownCap_ge w s.size 0 5;have hl:(Ai s++AM (EX w s.size 0 5 - s.size) 0).length=EX w s.size 0 5:=by
  rw[Af,Av,LI];omega
 refine⟨Ai s++AM (EX w s.size 0 5 - s.size) 0,?_,⟨Au w.drew _,?_⟩,?_,by rw[hl];exact hge⟩
 ·rw[h,Su,hl];simp only[List.size_toArray,AS,hl]
 ·intro z hz;simp only[AG,MW]at hz;obtain hz|⟨_,rfl⟩:=hz
  ·exact VK s z hz
  ·omega
 ·rw[Bs (by rw[Av];exact Ad _),Al (by rw[Av];exact Ad _)]
def FSt(l zs:List Int)(k:Nat):Prop:=l.length<=zs.length/\∀i,i<l.length->zs.getD i 0=if i<k then fz (l.getD i 0) else l.getD i 0
theorem FSt.done{l zs:List Int}(h:FSt l zs l.length):zs.take l.length=l.map fz:=by
 apply List.ext_getElem
 ·simp[h.1]
 ·intro i h1 h2;have hi:i<l.length:=by simpa using h2
  have:=h.2 i hi;rw[if_pos hi]at this;simp[Am,AF hi,AF (show i<zs.length by have:=h.1;omega)]at this;simp[this]
theorem FSt.zero{l zs:List Int}(h:zs.take l.length=l)(hl:l.length<=zs.length):FSt l zs 0:=by
 refine⟨hl,fun i hi=>?_⟩;rw[if_neg (by omega)];conv=>rhs;rw[<- h]
 simp[Am,List.getElem?_take,hi]
theorem FSt.same{l zs:List Int}{k:Nat}(h:FSt l zs k)(hf:fz (l.getD k 0)=l.getD k 0):FSt l zs (k+1):=by
 refine⟨h.1,fun i hi=>?_⟩;rw[h.2 i hi];by_cases e:i=k
 ·subst e;rw[if_neg (by omega),if_pos (by omega),hf]
 ·by_cases e2:i<k
  ·rw[if_pos e2,if_pos (by omega)]
  ·rw[if_neg e2,if_neg (by omega)]
theorem FSt.set{l zs:List Int}{k:Nat}(h:FSt l zs k)(hk:k<l.length):FSt l (zs.set k (fz (l.getD k 0))) (k+1):=by
 refine⟨by rw[List.length_set];exact h.1,fun i hi=>?_⟩;have hl:=h.1;by_cases e:i=k
 ·subst e;rw[if_pos (by omega)];simp[Am,Kn,show i<zs.length by omega]
 ·have:(zs.set k (fz (l.getD k 0))).getD i 0=zs.getD i 0:=by
   simp[Am,Kn,show ¬ k=i by omega]
  rw[this,h.2 i hi];by_cases e2:i<k
  ·rw[if_pos e2,if_pos (by omega)]
  ·rw[if_neg e2,if_neg (by omega)]
theorem kG(l:List Int)(h:∀z∈l,0<=z/\z<=255):Ai ⟨(txt l).toArray⟩=l:=by
 unfold Ai txt;simp only[Fq];conv=>rhs;rw[<- List.map_id l]
 apply ED
 intro z hz;have:=h z hz;simp;omega
theorem eC(s:ByteArray):(⟨(txt (Ai s)).toArray⟩:ByteArray)=s:=by
 have:txt (Ai s)=s.data.toList:=by
  unfold Ai txt;rw[Fq];conv=>rhs;rw[<- List.map_id s.data.toList]
  apply ED
  intro b _;simp
 rw[this]
def fl(s:ByteArray):List Int:=(Ai s).map fz
theorem oF(s:ByteArray)(n:Nat):∀i r,s.size - i=n->Jt s i r=r.reverse++s.data.toList.drop i:=by
 induction n with
 |zero=>
  intro i r h;unfold Jt;rw[if_neg (by omega),DH (by simp;omega),List.append_nil]
 |succ n ih=>
  intro i r h;unfold Jt;have hi:i<s.data.toList.length:=by simp;omega
  rw[if_pos (by omega),ih (i+1) _ (by omega),List.reverse_cons,AR,El hi];congr 1
  show(s.data[i]!::s.data.toList.drop (i+1))=_;have h2:i<s.data.size:=by simpa using hi
  rw[getElem!_pos s.data i h2];rfl
theorem Da(s:ByteArray):s.toList=s.data.toList:=by
 unfold ByteArray.toList;rw[oF s _ 0 [] rfl];simp
theorem sL{a b:ByteArray}(h:a.toList=b.toList):a=b:=by
 rw[Da,Da]at h;cases a;cases b;simp at h;rw[h]
def fb(s:ByteArray):ByteArray:=⟨(txt (fl s)).toArray⟩
theorem Oz(l:List Int)(h:∀z∈l,0<=z/\z<=255)(i:Nat):0<=l.getD i 0/\l.getD i 0<=255:=by
 by_cases hi:i<l.length
 ·have:=h (l.getD i 0) (by rw[Am,AF hi];simp);exact this
 ·rw[Am,MX (by omega)];simp
theorem nZ(l:List Int):0<=(MS l).1/\(MS l).1<=255/\0<=(MS l).2/\(MS l).2<=l.length:=by
 unfold MS;split
 ·simp
 ·split
  ·rename_i h1 h2
   simp only[AA,Fz,decide_eq_true_eq]at h2;simp only;unfold v3 at*;omega
  ·simp
theorem uB(l:List Int)(h:∀z∈l,0<=z/\z<=255):0<=(esc l).1/\(esc l).1<=255/\0<=(esc l).2/\(esc l).2<=l.length:=by
 unfold esc;split
 ·simp
 ·split
  ·exact nZ l
  ·split
   ·have:=Oz l h 1;simp only;omega
   ·simp
theorem dT(l:List Int)(h:∀z∈l,0<=z/\z<=255)(hl:0<l.length):0<=(fr l).1/\(fr l).1<=255/\0<=(fr l).2/\(fr l).2<=l.length:=by
 unfold fr;split
 ·simp
 ·split
  ·exact uB l h
  ·have:=Oz l h 0;simp only;omega
theorem CY(s:ByteArray):∀z∈Ai s,0<=z/\z<=255:=by
 intro z hz;simp only[Ai,AY]at hz;obtain⟨b,_,rfl⟩:=hz;have:=b.toNat_lt;omega
def go(l:List Int)(p:Nat)(out:List Int):Option (List Int × Nat):=
 if h:p<l.length/\l.getD p 0≠46 then
  if hn:(fr (l.drop p)).2<=0 then none
  else go l (p+(fr (l.drop p)).2.toNat) (out++[(fr (l.drop p)).1])
 else some (out,p)
termination_by l.length - p
decreasing_by omega
def Dx(l:List Int):List Int × Int × Int:=
 match go l 0 [] with
 |none=>([],0,120)
 |some (out,p)=>if 1<=out.length/\out.length<=63 then(out,(p:Int),0) else([],0,4)
def chk(n:Nat):Int:=if 1<=n/\n<=63 then 0 else 4
theorem Ud(s:ByteArray)(w:Ab)(hs:s.size<=9223372036854775807) :
  Ag Aa 45 #[.string s] w fun e w'=>e=.returned (.int .i64 (chk s.size))/\w'=w:=by
 by_cases h:1<=s.size/\s.size<=63
 ·have h1:¬ (s.size:Int)<1:=by omega
  have h2:¬ (63:Int)<(s.size:Int):=by omega
  have HE:Hid (chk s.size=0):=by show _=_;unfold chk;rw[if_pos h]
  clear h;go_enter Tryz.func45,Tryz.ntmps45;go_wp2;go_ret;exact⟨by rw[HE.out];rfl,rfl⟩
 ·have HE:Hid (chk s.size=4):=by show _=_;unfold chk;rw[if_neg h]
  have ho:(s.size:Int)<1∨(63:Int)<(s.size:Int):=by omega
  clear h;obtain ho|ho:=ho
  all_goals
   go_enter Tryz.func45,Tryz.ntmps45;go_wp2;go_ret;exact⟨by rw[HE.out];rfl,rfl⟩
theorem IG(s:ByteArray)(p:Nat):Ai (s.extract p s.size)=(Ai s).drop p:=by
 simp only[Ai,ByteArray.data_extract];rw[Array.toList_extract,List.extract_eq_take_drop,<- List.map_drop,Al (by simp)]
theorem Oc(l:List Int):(⟨(txt l).toArray⟩:ByteArray).size=l.length:=by
 show(txt l).toArray.size=_;simp[txt]
theorem go_stop(l:List Int)(p:Nat)(out:List Int)(h:¬ (p<l.length/\l.getD p 0≠46)):go l p out=some (out,p):=by
 rw[go,dif_neg h]
theorem go_bad(l:List Int)(p:Nat)(out:List Int)(h:p<l.length/\l.getD p 0≠46)(hn:(fr (l.drop p)).2<=0):go l p out=none:=by
 rw[go,dif_pos h,dif_pos hn]
theorem go_step(l:List Int)(p:Nat)(out:List Int)(h:p<l.length/\l.getD p 0≠46)(hn:¬ (fr (l.drop p)).2<=0):go l p out=go l (p+(fr (l.drop p)).2.toNat) (out++[(fr (l.drop p)).1]):=by
 rw[go,dif_pos h,dif_neg hn]
def xC(s:ByteArray)(w:Ab)(e:Ending)(w':Ab):Prop:=
 e=.returned (.tuple #[.string ⟨(txt (Dx (Ai s)).1).toArray⟩,.int .i64 (Dx (Ai s)).2.1,.int .i64 (Dx (Ai s)).2.2])/\Hid (Blw w w')
theorem ZN{l out:List Int}{p:Nat}(h:go l 0 []=some (out,p))(hc:chk out.length=0):Dx l=(out,(p:Int),0):=by
 unfold Dx;rw[h];simp only;unfold chk at hc;split at hc
 ·rename_i h1;rw[if_pos h1]
 ·cases hc
theorem Yy{l out:List Int}{p:Nat}(h:go l 0 []=some (out,p))(hc:¬ chk out.length=0):Dx l=([],0,4)/\chk out.length=4:=by
 unfold Dx;rw[h];simp only;unfold chk at hc ⊢;split at hc
 ·exact absurd rfl hc
 ·rename_i h1;rw[if_neg h1,if_neg h1];exact⟨rfl,rfl⟩
theorem fN{l:List Int}(h:go l 0 []=none):Dx l=([],0,120):=by
 unfold Dx;rw[h]
theorem aK(s:ByteArray)(w:Ab)(hs:s.size<=140737488355000):Ag Aa 90 #[.string s] w (xC s w):=by
 go_enter Tryz.func90,Tryz.ntmps90;go_wp2_with fail;go_loopw [5,6] (fun v x wr=>∃(p:Nat) (out:List Int),p<=s.size/\x=.int .i64 p/\Hid (go (Ai s) 0 []=go (Ai s) p out/\out.length<=p)/\Hid (∃ys,Own w.heap.size wr v out.length ys/\ys.take out.length=out)/\Hid (Blw w wr)) (fun _ x _=>s.size - (intOf x).toNat)
 case atStart=>exact⟨0,[],Aw _,rfl,⟨rfl,Ad _⟩,⟨[],.inl ⟨rfl,rfl,rfl⟩,rfl⟩,Ae _ _⟩
 case round=>
  obtain⟨p,out,hp,rfl,HG,HW,HB⟩:=hrel;by_cases hlt:p<s.size/\(Ai s).getD p 0≠46
  ·obtain⟨hlt,hd⟩:=hlt;have HC:Hid (p<(Ai s).length/\(Ai s).getD p 0≠46):=⟨by rw[Av];exact hlt,hd⟩;rw[Ef s p hlt]at hd;have hd':((s[p].toNat:Int) != 46)=true:=bne_iff_ne.2 hd;have hlt':(p:Int)<(s.size:Int):=by omega
   clear hd;have hol:out.length<=p:=HG.out.2;have HF:Hid (∀W,Ag Aa 133 #[.string (s.extract p s.size)] W fun e w'=>e=.returned (.tuple #[.int .u8 (fr ((Ai s).drop p)).1,.int .i64 (fr ((Ai s).drop p)).2])/\w'=W):=by
    intro W;have:=vK (s.extract p s.size) W (by simp;omega) (by simp;omega);rw[IG]at this;exact this
   have hfb:=dT ((Ai s).drop p) (fun z hz=>CY s z (CT hz)) (by rw[Bg,Av];omega);rw[Bg,Av]at hfb;have HS1:Hid ((fr ((Ai s).drop p)).2<=0->go (Ai s) 0 []=none):=fun h=>HG.out.1.trans (go_bad _ _ _ HC.out h)
   have HS2:Hid (¬ (fr ((Ai s).drop p)).2<=0->go (Ai s) 0 []=go (Ai s) (p+(fr ((Ai s).drop p)).2.toNat) (out++[(fr ((Ai s).drop p)).1])):=fun h=>HG.out.1.trans (go_step _ _ _ HC.out h)
   generalize (fr ((Ai s).drop p)).1=c at*;generalize (fr ((Ai s).drop p)).2=n at*;go_wp2_with fail;refine(HF.out _).mono ?_;rintro e w1 ⟨rfl,rfl⟩;by_cases hn:n=0
   ·subst hn;go_wp2
    go_ret3
    exact⟨by rw[fN (HS1.out (by omega))];rfl,HB.out⟩
   ·have hn':(n == 0)=false:=by simp[hn]
    obtain⟨ys,hO,hT⟩:=HW.out;have hnb:Blw w1 (w1.alloc (.cells #[.int .u8 c] 5)):=(Ae _ _).alloc (Ad _) _;have HO2:Hid (Own w.heap.size (w1.alloc (.cells #[.int .u8 c] 5)) u5 out.length ys/\ys.take out.length=out):=⟨hO.below hnb,hT⟩;have HR2:Hid (Rd (w1.alloc (.cells #[.int .u8 c] 5)) (some ⟨w1.heap.size,0,none⟩) [c]):=Uj w1 c (by omega);have HNB:Hid (Blw w1 (w1.alloc (.cells #[.int .u8 c] 5))):=hnb;clear hO hT hnb;go_wp2_with (at_builtin;refine Cz _ rfl _ _ rfl w.heap.size _ out.length ys rfl HO2.out.1 (some ⟨w1.heap.size,0,none⟩) 1 1 [c] rfl HR2.out rfl (by simp) (by omega) (Aj HB.out.size HNB.out.size) ?_;intro v' w' ys' hO' hT' hG');have hrow:=HO2.out.1.lt;refine⟨⟨p+n.toNat,out++[c],by omega,congrArg _ (by omega),⟨HS2.out (by omega),by simp;omega⟩,⟨ys',?_,?_⟩,?_⟩,by simp[intOf];omega⟩
    ·rw[Af];exact hO'.out
    ·rw[Af];exact hT'.out.trans (by rw[HO2.out.2])
    ·exact(HB.out.trans (HNB.out.mono HB.out.size)).grown hG' (Aj HB.out.size HNB.out.size) hrow
  ·have HS:Hid (go (Ai s) 0 []=some (out,p)):=HG.out.1.trans (go_stop _ _ _ (by rw[Av];exact hlt));obtain⟨ys,hO,hT⟩:=HW.out;obtain⟨ao,rfl,hoa⟩:=hO.addr;have hrd:=hoa.rdTake out.length;rw[hT]at hrd;have hcv:=Hk ao out.length ys.length out wr hrd rfl;have HK:Hid (∀W,Ag Aa 45 #[.string ⟨(txt out).toArray⟩] W fun e w'=>e=.returned (.int .i64 (chk out.length))/\w'=W):=by
    intro W;have:=Ud ⟨(txt out).toArray⟩ W (by rw[Oc];have:=HG.out.2;omega);rw[Oc]at this;exact this
   clear hO hT hoa hrd;have HX:Hid (chk out.length=0->Dx (Ai s)=(out,(p:Int),0)):=fun h=>ZN HS.out h
   have HY:Hid (¬ chk out.length=0->Dx (Ai s)=([],0,4)/\chk out.length=4):=fun h=>Yy HS.out h
   generalize chk out.length=k at*;have hor:(s.size:Int)<=(p:Int)∨(∃h:p<s.size,(s[p].toNat:Int)=46):=by
    by_cases h:p<s.size
    ·right
     refine⟨h,?_⟩;rw[<- Ef s p h];exact Classical.byContradiction fun hne=>hlt ⟨h,hne⟩
    ·left;omega
   clear hlt;generalize out.length=ol at*;generalize ys.length=yl at*;obtain hge|⟨hlt,hd⟩:=hor
   focus
    by_cases hk:k=0
    focus
     have HQ:Hid (Dx (Ai s)=(out,(p:Int),0)):=HX.out hk;clear HX HY;subst hk
    rotate_left
    focus
     obtain⟨hq,hk4⟩:=HY.out hk;have HQ:Hid (Dx (Ai s)=([],0,4)):=hq;clear hq hk HX HY;subst hk4
    rotate_left
   rotate_left 2
   focus
    have hd':((s[p].toNat:Int) != 46)=false:=by rw[hd];rfl
    have hlt':(p:Int)<(s.size:Int):=by omega
    clear hd;by_cases hk:k=0
    focus
     have HQ:Hid (Dx (Ai s)=(out,(p:Int),0)):=HX.out hk;clear HX HY;subst hk
    rotate_left
    focus
     obtain⟨hq,hk4⟩:=HY.out hk;have HQ:Hid (Dx (Ai s)=([],0,4)):=hq;clear hq hk HX HY;subst hk4
    rotate_left
   rotate_left 2
   all_goals
    go_wp2_with fail;refine(HK.out _).mono ?_;rintro e w1 ⟨rfl,rfl⟩;go_wp2
    go_ret3
    exact⟨by rw[HQ.out];rfl,HB.out⟩
def nsz:List ByteArray->Nat
 |[]=>1
 |s::r=>s.size+1+nsz r
theorem QG(l:List ByteArray)(s:ByteArray):nsz (l++[s])=nsz l+s.size+1:=by
 induction l with
 |nil=>simp[nsz];omega
 |cons x l ih=>simp only[Ay,nsz,ih];omega
theorem UO(l:List ByteArray)(k:Nat):nsz (l.take k)<=nsz l:=by
 induction l generalizing k with
 |nil=>simp[nsz]
 |cons x l ih=>
  cases k with
  |zero=>simp[nsz];omega
  |succ k=>simp only[List.take_succ_cons,nsz];have:=ih k;omega
theorem IR(ss:List ByteArray)(k:Nat)(h:k<ss.length):ss.take (k+1)=ss.take k++[ss[k]]:=AH h
def Ex(ss:List ByteArray):Prop:=∀s∈ss,chk s.size=0
instance (ss:List ByteArray):Decidable (Ex ss):=by unfold Ex;exact inferInstance
def nck(ss:List ByteArray):Int:=if Ex ss then(if 255<nsz ss then 5 else 0) else 4
theorem SR(n:Nat):chk n=0∨chk n=4:=by unfold chk;split <;> simp
structure Nm(w:Ab)(a:Option Addr)(n:Nat)(ss:List ByteArray):Prop where
 rd:RdT w a ss
 len:ss.length=n
 sz:nsz ss<=1000000000000
theorem Gt:∀l:List ByteArray,l.length+1<=nsz l
 |[]=>by simp[nsz]
 |x::l=>by have:=Gt l;simp only[AP,nsz];omega
theorem UH:∀(l:List ByteArray) (s:ByteArray),s∈l->s.size<=nsz l
 |x::l,s,h=>by
  simp only[nsz];obtain rfl|h:=Ax.1 h
  ·omega
  ·have:=UH l s h;omega
theorem Nm.below{w w':Ab}{a:Option Addr}{n:Nat}{ss:List ByteArray}(h:Nm w a n ss)(hb:Blw w w'):Nm w' a n ss:=⟨h.rd.below hb,h.len,h.sz⟩
theorem Nm.n63{w:Ab}{a:Option Addr}{n:Nat}{ss:List ByteArray}(h:Nm w a n ss):n<=1000000000000:=by have:=Gt ss;have:=h.len;have:=h.sz;omega
theorem Nm.mem{w:Ab}{a:Option Addr}{n:Nat}{ss:List ByteArray}(h:Nm w a n ss)(s:ByteArray)(hs:s∈ss):s.size<=1000000000000:=Aj (UH ss s hs) h.sz
def LO(r:List ByteArray)(k:Int)(w:Ab)(e:Ending)(w':Ab):Prop:=
 ∃v ys,e=.returned (.tuple #[v,.int .i64 k])/\Hid (BF w.heap.size w' v r.length ys 1000000000000/\ys.take r.length=r/\Blw w w')
theorem IT{k:Int}{w w':Ab}{e:Ending}(he:e=.returned (.tuple #[.slice none 0 0,.int .i64 k]))(hb:Blw w w'):LO [] k w e w':=
 ⟨.slice none 0 0,[],he,BF.nil _ _ _,rfl,hb⟩
theorem fQ(l:List ByteArray)(k:Nat):nsz (l.drop k)<=nsz l:=by
 induction l generalizing k with
 |nil=>simp[nsz]
 |cons x l ih=>
  cases k with
  |zero=>simp
  |succ k=>simp only[List.drop_succ_cons,nsz];have:=ih k;omega
theorem Nm.cut{w:Ab}{a a':Option Addr}{n:Nat}{ss:List ByteArray}(h:Nm w a n ss)(p:Nat)(ha:p<ss.length->∀b o,a=some ⟨b,o,none⟩->a'=some ⟨b,o+p,none⟩):Nm w a' (n - p) (ss.drop p):=by
 refine⟨?_,by rw[Bg,h.len],Aj (fQ ss p) h.sz⟩;have:=RdV.cut (w:=w) (a:=a) (xs:=tv ss) h.rd p (tv ss).length (a':=a') (fun hp=>ha (by rw[Jd]at hp;exact hp));rw[Al (by simp),pI]at this;exact this
theorem tG(w:Ab)(a:Option Addr):Nm w a 0 []:=⟨.inl rfl,rfl,by decide⟩
theorem BI{ss:List ByteArray}(h:nck ss=0):nsz ss<=255/\Ex ss:=by
 unfold nck at h;split at h
 ·rename_i h1
  split at h
  ·cases h
  ·exact⟨by omega,h1⟩
 ·cases h
theorem NC(a b:List ByteArray):nsz (a++b)+1=nsz a+nsz b:=by
 induction a with
 |nil=>simp[nsz];omega
 |cons x a ih=>simp only[Ay,nsz];omega
def GK(a b:List ByteArray):List ByteArray × Int:=if nck a=0 then(if nck b=0 then(if nck (a++b)=0 then(a++b,0) else([],5)) else([],nck b)) else([],nck a)
def tb(s:ByteArray):ByteArray:=⟨(txt (tx (Ai s))).toArray⟩
def Kb(l:List ByteArray):ByteArray:=l.foldl (fun acc s=>acc++tb s++⟨#[46]⟩) ⟨#[]⟩
theorem Tg(l:List ByteArray)(s:ByteArray):Kb (l++[s])=Kb l++tb s++⟨#[46]⟩:=by simp[Kb,FP]
theorem Zy(s:ByteArray):(tb s).size<=4*s.size:=by
 have:=Yc (Ai s);rw[Av]at this;show(txt (tx (Ai s))).toArray.size<=_;simp[txt];exact this
theorem Pe(l:List ByteArray):∀k,k<=l.length->(Kb (l.take k)).size<=4*nsz l:=by
 intro k;induction k with
 |zero=>intro _;exact Aw _
 |succ k ih=>
  intro hk;have hkl:k<l.length:=by omega
  have h0:∀j,j<=l.length->(Kb (l.take j)).size<=4*nsz (l.take j):=by
   intro j;induction j with
   |zero=>intro _;exact Aw _
   |succ j ihj=>
    intro hj;have hjl:j<l.length:=by omega
    rw[IR l j hjl,Tg,QG,Lu,Lu];have:=ihj (by omega);have:=Zy l[j];show _+_+1<=_;omega
  have:=h0 (k+1) hk;have:=UO l (k+1);omega
def AN(ss:List ByteArray):ByteArray × Int:=if nck ss=0 then(if ss.length=0 then(⟨#[46]⟩,0) else(Kb ss,0)) else(⟨#[]⟩,nck ss)
theorem tyB:Li Aa 39 5 (.int .u8 0) 1:=⟨AI,by kernel_rfl,rfl⟩
def QB(u:Ao):Prop:=∃z:Int,u=.int .u8 z/\0<=z/\z<=255
theorem Wc:∀xs:List Ao,(∀u∈xs,QB u)->∃zs:List Int,xs=zs.map (AL .u8)/\∀z∈zs,0<=z/\z<=255
 |[],_=>⟨[],rfl,by simp⟩
 |x::xs,h=>by
  obtain⟨zs,e1,e2⟩:=Wc xs (fun u hu=>h u (by simp[hu]));obtain⟨z,rfl,hz⟩:=h x (by simp);refine⟨z::zs,by rw[e1];rfl,fun q hq=>?_⟩;obtain rfl|hq:=Ax.1 hq
  ·exact hz
  ·exact e2 q hq
theorem ZM:∀{a b:List Int},a.map (AL .u8)=b.map (AL .u8)->a=b
 |[],[],_=>rfl
 |[],_::_,h=>by simp at h
 |_::_,[],h=>by simp at h
 |x::a,y::b,h=>by
  simp only[Bh,PU,Value.int.injEq,true_and]at h;rw[h.1,ZM (a:=a) (b:=b) h.2]
def nby(l:List ByteArray):List Int:=l.flatMap fun s=>(s.size:Int)::Ai s
theorem Ot(l:List ByteArray):(nby l).length+1=nsz l:=by
 induction l with
 |nil=>simp[nby,nsz]
 |cons x l ih=>simp only[nby,Cn,Af,AP,Av,nsz]at ih ⊢;omega
theorem go_le(l:List Int)(hb:∀z∈l,0<=z/\z<=255):∀(n p:Nat) (out o:List Int) (q:Nat),l.length - p<=n->p<=l.length->go l p out=some (o,q)->p<=q/\q<=l.length:=by
 intro n;induction n with
 |zero=>
  intro p out o q hn hp h;rw[go_stop _ _ _ (by omega)]at h;cases h;omega
 |succ n ih=>
  intro p out o q hn hp h;by_cases hs:p<l.length/\l.getD p 0≠46
  ·by_cases hf:(fr (l.drop p)).2<=0
   ·rw[go_bad _ _ _ hs hf]at h;cases h
   ·rw[go_step _ _ _ hs hf]at h;have hfb:=dT (l.drop p) (fun z hz=>hb z (CT hz)) (by rw[Bg];omega);rw[Bg]at hfb;have:=ih _ _ _ _ (by omega) (by omega) h;omega
  ·rw[go_stop _ _ _ hs]at h;cases h;omega
theorem ZS(l:List Int)(hb:∀z∈l,0<=z/\z<=255)(h:(Dx l).2.2=0):∃p:Nat,(Dx l).2.1=(p:Int)/\p<=l.length/\1<=(Dx l).1.length/\(Dx l).1.length<=63:=by
 unfold Dx at h ⊢;cases hg:go l 0 [] with
 |none=>rw[hg]at h;cases h
 |some r=>
  obtain⟨o,q⟩:=r;rw[hg]at h;simp only at h ⊢;split at h
  ·rename_i h1
   rw[if_pos h1];exact⟨q,rfl,(go_le l hb _ 0 [] o q (Ad _) (Aw _) hg).2,h1.1,h1.2⟩
  ·cases h
def lb(l:List Int):ByteArray:=⟨(txt l).toArray⟩
theorem Fv(l:List Int):(lb l).size=l.length:=Oc l
def lgo(l:List Int)(out:List ByteArray):List ByteArray × Bool × Int:=
 if (Dx l).2.2=0 then
  if (Dx l).2.1=(l.length:Int) then(out++[lb (Dx l).1],false,0)
  else if h:(l.drop ((Dx l).2.1.toNat+1)).length=0 then(out++[lb (Dx l).1],true,0)
  else lgo (l.drop ((Dx l).2.1.toNat+1)) (out++[lb (Dx l).1])
 else([],false,(Dx l).2.2)
termination_by l.length
decreasing_by
 simp only[Bg]at h ⊢;omega
def rL(r:List ByteArray × Bool × Int)(w:Ab)(e:Ending)(w':Ab):Prop:=
 ∃v ys,e=.returned (.tuple #[v,.bool r.2.1,.int .i64 r.2.2])/\Hid (BF w.heap.size w' v r.1.length ys 1000000000000/\ys.take r.1.length=r.1/\Blw w w')
theorem uS:∀(n:Nat) (l:List Int) (out:List ByteArray),l.length<=n->(∀z∈l,0<=z/\z<=255)->(∀x∈out,x.size<=63)->(∀x∈(lgo l out).1,x.size<=63)/\(lgo l out).1.length<=out.length+l.length+1:=by
 intro n;induction n with
 |zero=>
  intro l out hl hb ho;have e:l=[]:=AC (by omega);subst e;rw[lgo,if_neg]
  ·simp
  ·have:Dx []=([],0,4):=(Yy (l:=[]) (out:=[]) (p:=0) (go_stop _ _ _ (by simp)) (by decide)).1;rw[this];decide
 |succ n ih=>
  intro l out hl hb ho;rw[lgo];by_cases h0:(Dx l).2.2=0
  ·rw[if_pos h0];obtain⟨p,hp,hpl,hl1,hl2⟩:=ZS l hb h0;have ho2:∀x∈out++[lb (Dx l).1],x.size<=63:=by
    intro x hx;obtain hx|hx:=AG.1 hx
    ·exact ho x hx
    ·simp at hx;subst hx;rw[Fv];exact hl2
   rw[hp,BM];split
   ·exact⟨ho2,by rw[Af];show out.length+1<=_;omega⟩
   ·split
    ·exact⟨ho2,by rw[Af];show out.length+1<=_;omega⟩
    ·rename_i h1 h2
     rw[Bg]at h2;have:=ih (l.drop (p+1)) (out++[lb (Dx l).1]) (by rw[Bg];omega) (fun z hz=>hb z (CT hz)) ho2;refine⟨this.1,Aj this.2 ?_⟩;rw[Af,Bg];show out.length+1+_+1<=_;omega
  ·rw[if_neg h0];simp
theorem sJ(l:List ByteArray)(h:∀x∈l,x.size<=63):nsz l<=64*l.length+1:=by
 induction l with
 |nil=>simp[nsz]
 |cons x l ih=>
  have:=ih (fun y hy=>h y (by simp[hy]));have:=h x (by simp);simp only[nsz,AP];omega
theorem mW(s:ByteArray)(hs:s.size<=1000000000):nsz (lgo (Ai s) []).1<=1000000000000:=by
 have:=uS _ (Ai s) [] (Ad _) (CY s) (by simp);have h2:=sJ _ this.1;rw[Av]at this;simp at this;omega
def LW(s:ByteArray):List ByteArray × Int:=
 if s.toList=[46] then([],0)
 else if (lgo (Ai s) []).2.2=0 then
  (if (lgo (Ai s) []).2.1 then(if nck (lgo (Ai s) []).1=0 then((lgo (Ai s) []).1,0) else([],nck (lgo (Ai s) []).1)) else([],5))
 else([],(lgo (Ai s) []).2.2)
def Di(s:ByteArray)(og:List ByteArray):List ByteArray × Int:=
 if nck og=0 then
  (if s.toList=[64] then(og,0) else if s.toList=[46] then([],0)
  else if (lgo (Ai s) []).2.2=0 then(if (lgo (Ai s) []).2.1 then LW s else GK (lgo (Ai s) []).1 og) else([],(lgo (Ai s) []).2.2))
 else([],nck og)
def uz(z:Int):Int:=if 97<=z/\z<=122 then z - 32 else z
def LD(l zs:List Int)(k:Nat):Prop:=l.length<=zs.length/\∀i,i<l.length->zs.getD i 0=if i<k then uz (l.getD i 0) else l.getD i 0
theorem LD.done{l zs:List Int}(h:LD l zs l.length):zs.take l.length=l.map uz:=by
 apply List.ext_getElem
 ·simp[h.1]
 ·intro i h1 h2;have hi:i<l.length:=by simpa using h2
  have:=h.2 i hi;rw[if_pos hi]at this;simp[Am,AF hi,AF (show i<zs.length by have:=h.1;omega)]at this;simp[this]
theorem LD.zero{l zs:List Int}(h:zs.take l.length=l)(hl:l.length<=zs.length):LD l zs 0:=by
 refine⟨hl,fun i hi=>?_⟩;rw[if_neg (by omega)];conv=>rhs;rw[<- h]
 simp[Am,List.getElem?_take,hi]
theorem LD.same{l zs:List Int}{k:Nat}(h:LD l zs k)(hf:uz (l.getD k 0)=l.getD k 0):LD l zs (k+1):=by
 refine⟨h.1,fun i hi=>?_⟩;rw[h.2 i hi];by_cases e:i=k
 ·subst e;rw[if_neg (by omega),if_pos (by omega),hf]
 ·by_cases e2:i<k
  ·rw[if_pos e2,if_pos (by omega)]
  ·rw[if_neg e2,if_neg (by omega)]
theorem LD.set{l zs:List Int}{k:Nat}(h:LD l zs k)(hk:k<l.length):LD l (zs.set k (uz (l.getD k 0))) (k+1):=by
 refine⟨by rw[List.length_set];exact h.1,fun i hi=>?_⟩;have hl:=h.1;by_cases e:i=k
 ·subst e;rw[if_pos (by omega)];simp[Am,Kn,show i<zs.length by omega]
 ·have:(zs.set k (uz (l.getD k 0))).getD i 0=zs.getD i 0:=by
   simp[Am,Kn,show ¬ k=i by omega]
  rw[this,h.2 i hi];by_cases e2:i<k
  ·rw[if_pos e2,if_pos (by omega)]
  ·rw[if_neg e2,if_neg (by omega)]
theorem aG(s:ByteArray)(w:Ab)(hs:s.size<=9223372036854775807) :
  Ag Aa 241 #[.string s] w fun e w'=>e=.returned (.string ⟨(txt ((Ai s).map uz)).toArray⟩)/\Hid (Blw w w'):=by
 obtain⟨zs,hc,hb,ht,hl⟩:=VN s w;have H0:Hid (JT (w.drew.alloc (.cells (zs.map (AL .u8)).toArray 5 (zs.length,zs.length+1))) w.heap.size zs/\LD (Ai s) zs 0/\Blw w (w.drew.alloc (.cells (zs.map (AL .u8)).toArray 5 (zs.length,zs.length+1)))):=by
  refine⟨hb,LD.zero (by rw[Av];exact ht) (by rw[Av];exact hl),(Ae _ _).drew.alloc (Ad _) _⟩
 have HLn:Hid (zs.length=zs.length):=rfl;clear hb ht;go_enter Tryz.func241,Tryz.ntmps241;generalize hzl:zs.length=C at*;have HZ:Hid (zs.length=C):=hzl;clear hzl;generalize (w.drew.alloc (.cells (zs.map (AL .u8)).toArray 5 (C,C+1)))=W0 at*;go_wp2_with fail;go_loopw [10] (fun x wr=>∃k:Nat,k<=s.size/\x=.int .i64 k/\Hid (∃ys,ys.length=C/\JT wr w.heap.size ys/\LD (Ai s) ys k)/\Hid (Blw w wr)) (fun x _=>s.size - (intOf x).toNat)
 case atStart=>exact⟨0,Aw _,rfl,⟨zs,HZ.out,H0.out.1,H0.out.2.1⟩,H0.out.2.2⟩
 case round=>
  obtain⟨k,hk,rfl,HW,HB⟩:=hrel;clear H0 hc;by_cases hlt:k<s.size
  ·have hlt':(k:Int)<(s.size:Int):=by omega
   obtain⟨ys,e1,e2,e3⟩:=HW.out;have hcell:=e2.cell k (by omega);have hfr:=e2.frozen k (by omega);have hv:=e3.2 k (by rw[Av];exact hlt);rw[if_neg (by omega)]at hv;rw[hv]at hcell;have hbd:=Lf s k;have HY:Hid (ys.length=C/\JT wr w.heap.size ys/\LD (Ai s) ys k):=⟨e1,e2,e3⟩;have HK:Hid (k<(Ai s).length):=(show k<_ by rw[Av];exact hlt);have HF:Hid (uz ((Ai s).getD k 0)=if 97<=(Ai s).getD k 0/\(Ai s).getD k 0<=122 then(Ai s).getD k 0 - 32 else(Ai s).getD k 0):=(show _=_ from rfl);have HS1:Hid (uz ((Ai s).getD k 0)=(Ai s).getD k 0->LD (Ai s) ys (k+1)):=fun h=>e3.same h
   have HS2:Hid (LD (Ai s) (ys.set k (uz ((Ai s).getD k 0))) (k+1)):=e3.set HK.out;clear e1 e2 e3 hv;generalize (Ai s).getD k 0=z at*;by_cases hu:97<=z/\z<=122
   ·have hz1:uz z=z - 32:=by rw[HF.out,if_pos hu]
    rw[hz1]at HS2;have HB3:Hid (JT (wr.setCell ⟨w.heap.size,k,none⟩ (.int .u8 (z - 32))) w.heap.size (ys.set k (z - 32))/\Blw w (wr.setCell ⟨w.heap.size,k,none⟩ (.int .u8 (z - 32)))):=⟨HY.out.2.1.stored k _ (by omega),HB.out.setCell (Ad _) _⟩;clear hz1;go_wp2;rw[show z - 97+65=z - 32 by omega];refine⟨⟨k+1,by omega,by go_num,⟨_,?_,HB3.out.1,HS2.out⟩,HB3.out.2⟩,by simp[intOf];omega⟩;rw[List.length_set];exact HY.out.1
   ·have hz1:uz z=z:=by rw[HF.out,if_neg hu]
    have HS3:Hid (LD (Ai s) ys (k+1)):=HS1.out hz1;clear hz1 HS1 HS2;have hor:z<97∨122<z:=by omega
    clear HF;obtain ho|ho:=hor
    all_goals
     go_wp2;exact⟨⟨k+1,by omega,by go_num,⟨ys,HY.out.1,HY.out.2.1,HS3.out⟩,HB.out⟩,by simp[intOf];omega⟩
  ·have hge:(s.size:Int)<=(k:Int):=by omega
   obtain⟨ys,e1,e2,e3⟩:=HW.out;have hks:k=s.size:=by omega
   have hd:ys.take s.size=(Ai s).map uz:=by
    have:=LD.done (l:=Ai s) (zs:=ys) (by rw[Av,<- hks];exact e3);rw[Av]at this;exact this
   have hrd:=e2.rd s.size;rw[hd]at hrd;have hcv:=Hk (some ⟨w.heap.size,0,none⟩) s.size C ((Ai s).map uz) wr hrd (by rw[AS,Av]);clear hrd hd e1 e2 e3;go_wp2;go_ret;exact⟨rfl,HB.out⟩
end Go.Proofs.YtoppdmlmhigogaaGreatDoor
namespace Go.Proofs.YtoppdmlmhigogaaGreatDoor
open Go Go.Lib
def dv(l:List UInt8):Nat:=l.foldl (fun a b=>10*a+(b.toNat - 48)) 0
theorem rA(l:List UInt8)(b:UInt8):dv (l++[b])=10*dv l+(b.toNat - 48):=by
 simp[dv,FP]
theorem IM{n:Nat}(h:n<10):Bl n=[CS (48+n)]:=by rw[Bl,dif_pos h]
theorem MC{n:Nat}(h:¬ n<10):Bl n=Bl (n / 10)++[CS (48+n % 10)]:=by rw[Bl,dif_neg h]
theorem IP(d:Nat)(h:d<10):(CS (48+d)).toNat=48+d:=by
 rw[UInt8.toNat_ofNat'];omega
theorem XW(n:Nat):dv (Bl n)=n:=by
 induction n using FI with
 |_ n ih=>
  by_cases h:n<10
  ·rw[IM h];simp only[dv,EY,PV];rw[IP n h];omega
  ·rw[MC h,rA,ih (n / 10) (by omega),IP _ (by omega)];omega
theorem mP{m n:Nat}(h:Bl m=Bl n):m=n:=by
 rw[<- XW m,h,XW]
theorem QL(n:Nat):Bl n≠[]:=by
 by_cases h:n<10
 ·rw[IM h];simp
 ·rw[MC h];simp
theorem Pi(n:Nat):∀b∈Bl n,48<=b.toNat/\b.toNat<=57:=by
 induction n using FI with
 |_ n ih=>
  by_cases h:n<10
  ·rw[IM h];intro b hb;simp only[Bc]at hb;subst hb;rw[IP n h];omega
  ·rw[MC h];intro b hb;simp only[AG,Bc]at hb;obtain hb|hb:=hb
   ·exact ih (n / 10) (by omega) b hb
   ·subst hb;rw[IP _ (by omega)];omega
theorem Ol(n:Nat)(h:n<100000):(Bl n).length<=5:=by
 rw[decDigits_length];have:∀k n:Nat,n<10 ^ (k+1)->nDigits n<=k+1:=by
  intro k;induction k with
  |zero=>intro n h;rw[nDigits_small (by omega)];exact Ad _
  |succ k ih=>
   intro n h;by_cases h1:n<10
   ·rw[nDigits_small h1];omega
   ·rw[nDigits_big h1];have:=ih (n / 10) (by rw[Nat.pow_succ]at h;omega);omega
 exact this 4 n (by omega)
def NW(l:List UInt8)(below:Nat):Option Nat:=if l=Bl (dv l)/\dv l<below then some (dv l) else none
theorem OB(n below:Nat)(h:n<below):NW (Bl n) below=some n:=by
 unfold NW;rw[XW,if_pos ⟨rfl,h⟩]
theorem Ke{l:List UInt8}{below n:Nat}(h:NW l below=some n):l=Bl n/\n<below:=by
 unfold NW at h;split at h
 ·rename_i hh
  have:=Bf h;subst this;exact hh
 ·cases h
theorem Pq{l:List UInt8}{below:Nat}(h:∀n,n<below->l≠Bl n):NW l below=none:=by
 cases e:NW l below with
 |none=>rfl
 |some n=>exact absurd (Ke e).1 (h n (Ke e).2)
theorem PK:∀(l r:List UInt8) (acc:Nat),decFrom acc (l++r)=(decFrom acc l).bind fun a=>decFrom a r
 |[],r,acc=>rfl
 |b::l,r,acc=>by
  simp only[Ay,decFrom];cases digitVal b with
  |none=>rfl
  |some d=>exact PK l r _
theorem Vf(n:Nat):decFrom 0 (Bl n)=some n:=by
 induction n using FI with
 |_ n ih=>
  by_cases h:n<10
  ·rw[IM h];simp only[decFrom,digitVal,IP n h];rw[if_pos (by omega)];simp
  ·rw[MC h,PK,ih (n / 10) (by omega)];simp only[BL,decFrom,digitVal,IP _ (show n % 10<10 by omega)];rw[if_pos (by omega)];simp;omega
theorem Sj(n:Nat)(h:n<100000):atoiAll (Bl n)=.ok (n:Int):=by
 rw[atoiAll_short _ (by have:=Ol n h;omega)];have e:decNat (Bl n)=some n:=by
  unfold decNat;rw[if_neg (by simp[QL n]),Vf]
 have:atoi (Bl n)=some (n:Int):=by
  cases hd:Bl n with
  |nil=>exact absurd hd (QL n)
  |cons b r=>
   have hb:=Pi n b (by rw[hd];simp);have h1:(b == 45)=false:=by
    cases hq:b == 45 with
    |false=>rfl
    |true=>have:=eq_of_beq hq;subst this;simp at hb
   have h2:(b == 43)=false:=by
    cases hq:b == 43 with
    |false=>rfl
    |true=>have:=eq_of_beq hq;subst this;simp at hb
   simp only[atoi,h1,h2,<- hd,e]
   rfl
 rw[this];rfl
abbrev GE:=List (List UInt8 × Nat)
def Fc(ps:GE)(pre:List UInt8)(n:Nat):List UInt8:=
 match ps.find? (fun p=>p.2 == n) with
 |some p=>p.1
 |none=>pre++Bl n
def Qb(ps:GE)(pre s:List UInt8):Option (List UInt8):=
 match ps.find? (fun p=>p.1 == s) with
 |some p=>some (Bl p.2)
 |none=>if pre.isPrefixOf s then some (s.drop pre.length) else none
def Fo(ps:GE)(pre:List UInt8)(below:Nat)(s:List UInt8):Option Nat:=(Qb ps pre s).bind fun l=>NW l below
def Md(ps:GE):List (List UInt8):=ps.flatMap fun p=>[p.1,Bl p.2]
theorem aZ(ps:GE):(Md ps).length=2*ps.length:=by
 induction ps with
 |nil=>rfl
 |cons p ps ih=>simp[Md]at ih ⊢;omega
theorem Wy:∀(ps:GE) (j:Nat) (p:List UInt8 × Nat),ps[j]?=some p->(Md ps)[2*j]?=some p.1/\(Md ps)[2*j+1]?=some (Bl p.2)
 |[],j,p,h=>by simp at h
 |q::ps,0,p,h=>by
  simp at h;subst h;simp[Md]
 |q::ps,j+1,p,h=>by
  have:=Wy ps j p (by simpa using h);simp only[Md,Cn,Ay,AQ]at this ⊢;rw[show 2*(j+1)=2*j+2 by omega,show 2*j+2+1=(2*j+1)+2 by omega];simpa using this
theorem TH{α:Type}(f:α->Bool)(l:List α)(j:Nat)(h:∀p∈l.take j,f p=false)(p:α)(hp:l[j]?=some p) :
  (f p=true->l.find? f=some p)/\(f p=false->∀q∈l.take (j+1),f q=false):=by
 have hj:j<l.length:=(EC.1 hp).1;have e:l[j]=p:=by rw[AF hj]at hp;exact Bf hp
 constructor
 ·intro hf;have:l=l.take j++p::l.drop (j+1):=by rw[<- e,<- El hj,BE]
  rw[this,List.find?_append,List.find?_eq_none.2 (fun x hx=>by rw[h x hx];simp)];simp[hf]
 ·intro hf q hq;rw[AH hj,e]at hq;simp only[AG,Bc]at hq;obtain hq|hq:=hq
  ·exact h q hq
  ·subst hq;exact hf
theorem VO{α:Type}(f:α->Bool)(l:List α)(j:Nat)(h:∀p∈l.take j,f p=false)(hj:l.length<=j):l.find? f=none:=by
 rw[Al hj]at h;exact List.find?_eq_none.2 (fun x hx=>by rw[h x hx];simp)
end Go.Proofs.YtoppdmlmhigogaaGreatDoor
