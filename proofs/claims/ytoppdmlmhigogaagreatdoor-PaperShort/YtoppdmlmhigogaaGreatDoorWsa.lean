/- Texts laid together, in parts: Row Tl Tm Base Own Str Byt Bld Bld2 Txt Fld Ord Par Nr Ns Nt Nu Sp Xa Xd Xe Shelf Lz. -/
import Derived.WalkKit
import Derived.ProofKit
import Derived.Below
import Derived.OwnWalk
import Derived.Laws.AppendOwn
import Derived.Laws.CopyOwn
import Derived.Deep.AppendSrc
import Derived.Test.YtoppdmlmhigogaaGreatDoorRows
import Derived.WalkSpells
import Derived.Deep.QuietTactic
import Derived.BigQuiet
import Derived.Deep.RegionHeld3
import Derived.Laws.BitsAllLaws
import Derived.Laws.IdiomStrings
import Derived.Lib.Builder
import Derived.Lib.UnsafeStr
import Derived.Lib.Bytealg
import Derived.Lib.ItoaNum
import Derived.Lib.AtoiTie
import Derived.Lib.AtoiBound
import Derived.Lib.Split
import Derived.Lib.ParseIntB
import Derived.Lib.Join
import Derived.Shelf.Strings.OnBuilder
import Derived.Shelf.Small.Strs
import Derived.Shelf.Small.Wraps
import Derived.Shelf.Strconv.Itoa1
import Derived.Shelf.LaysM
import Derived.Shelf.Strconv.Itoa2
import Derived.Shelf.Strconv.Itoa3
import Derived.Shelf.Strconv.Clone
import Derived.Shelf.LaysC
import Derived.Shelf.Strconv.ToError
import Derived.Shelf.Strconv.Lower
import Derived.Shelf.Strconv.ToErrorRange
import Derived.Shelf.Strconv.ErrVarAll
import Derived.Shelf.Pu.ParseUintPublic10
import Derived.Shelf.Pu.ErrVarParseUint
import Derived.Shelf.Strings.Search3
import Derived.Shelf.Strings.Cut
import Derived.Shelf.Strings.Count
import Derived.Shelf.Strings.Prefix
import Derived.Shelf.Strings.Split
import Derived.Shelf.Strings.Fields
import Derived.Test.YtoppdmlmhigogaaGreatDoorProg
import Derived.Lib.SmallJoins
import Derived.Lib.AppendIntMem
import Derived.Lib.AtoiAllMem
import Derived.BigCall
import Derived.BigGuard
set_option maxRecDepth 100000
set_option maxHeartbeats 8000000
set_option linter.unusedVariables false
set_option linter.unusedSimpArgs false
namespace Go.Proofs.YtoppdmlmhigogaaGreatDoor
open Go.ChangeShapes Go.WideShapes Go.ChangeAt Go.RowKit
def RdV(w:World)(a:Option Addr)(xs:List Value):Prop:=
 xs=[]∨∃b o,a=some ⟨b,o,none⟩/\b<w.heap.size/\∀i (h:i<xs.length),w.cell? ⟨b,o+i,none⟩=some xs[i]
theorem RdV.below{w w':World}{a:Option Addr}{xs:List Value}(h:RdV w a xs)(hb:Below w.heap.size w w'):RdV w' a xs:=by
 rcases h with h1|⟨b,o,rfl,h1,h2⟩
 ·exact .inl h1
 ·exact .inr ⟨b,o,rfl,Nat.lt_of_lt_of_le h1 hb.size,fun i hi=>(hb.cell (p:=⟨b,o+i,none⟩) h1).trans (h2 i hi)⟩
theorem RdV.cut{w:World}{a:Option Addr}{xs:List Value}(h:RdV w a xs)(p n:Nat){a':Option Addr}
  (ha:p<xs.length->∀b o,a=some ⟨b,o,none⟩->a'=some ⟨b,o+p,none⟩):RdV w a' ((xs.drop p).take n):=by
 by_cases h0:(xs.drop p).take n=[]
 ·exact .inl h0
 ·rcases h with h1|⟨b,o,rfl,h1,h2⟩
  ·subst h1;simp at h0
  ·have hp:p<xs.length:=by
    by_cases hp:p<xs.length
    ·exact hp
    ·rw[List.drop_eq_nil_of_le (by omega)] at h0;simp at h0
   refine .inr ⟨b,o+p,ha hp b o rfl,h1,fun i hi=>?_⟩
   have hi2:p+i<xs.length:=by simp at hi;omega
   rw[Nat.add_assoc,h2 (p+i) hi2]
   simp
theorem RdV.cells{w:World}{a:Addr}{xs:List Value}(h:RdV w (some a) xs):∀j u,xs[j]?=some u->w.cell? (a.add j)=some u:=by
 intro j u hu
 obtain ⟨hj,e⟩:=List.getElem?_eq_some_iff.1 hu
 rcases h with h1|⟨b,o,e1,_,h2⟩
 ·subst h1;simp at hj
 ·cases e1
  rw[Addr.add_lit,h2 j hj,e]
def BlkV(w:World)(g:Nat)(t:TypeId)(xs:List Value):Prop:=w.heap[g]?=some (.cells xs.toArray t (0,0))
theorem BlkV.lt{w:World}{g:Nat}{t:TypeId}{xs:List Value}(h:BlkV w g t xs):g<w.heap.size:=(Array.getElem?_eq_some_iff.1 h).1
theorem BlkV.same{w w':World}{g:Nat}{t:TypeId}{xs:List Value}(h:BlkV w g t xs)(hb:w'.heap[g]?=w.heap[g]?):BlkV w' g t xs:=hb.trans h
theorem BlkV.below{w w':World}{g:Nat}{t:TypeId}{xs:List Value}(h:BlkV w g t xs)(hb:Below w.heap.size w w'):BlkV w' g t xs:=h.same (hb.block g h.lt)
theorem BlkV.cell{w:World}{g:Nat}{t:TypeId}{xs:List Value}(h:BlkV w g t xs)(i:Nat)(hi:i<xs.length):w.cell? ⟨g,i,none⟩=some xs[i]:=by
 have h':w.heap[g]?=_:=h
 simp[World.cell?,h',hi]
theorem BlkV.frozen{w:World}{g:Nat}{t:TypeId}{xs:List Value}(h:BlkV w g t xs)(i:Nat):w.frozen? ⟨g,i,none⟩=false:=by
 have h':w.heap[g]?=_:=h
 simp[World.frozen?,h']
theorem BlkV.rd{w:World}{g:Nat}{t:TypeId}{xs:List Value}(h:BlkV w g t xs)(n:Nat):RdV w (some ⟨g,0,none⟩) (xs.take n):=by
 refine .inr ⟨g,0,rfl,h.lt,fun i hi=>?_⟩
 have:i<xs.length:=by simp at hi;omega
 rw[Nat.zero_add,h.cell i this]
 simp
theorem BlkV.stored{w:World}{g:Nat}{t:TypeId}{xs:List Value}(h:BlkV w g t xs)(i:Nat)(x:Value):BlkV (w.setCell ⟨g,i,none⟩ x) g t (xs.set i x):=by
 have hg:=h.lt
 have h1:w.heap[g]?=_:=h
 have e:w.heap[g]=.cells xs.toArray t (0,0):=by
  rw[Array.getElem?_eq_getElem hg] at h1;exact Option.some.inj h1
 unfold BlkV
 simp[World.setCell,hg,Array.getElem_modify,e]
theorem BlkV.cellsSet:∀(vs:List Value) (o:Nat) {w:World} {g:Nat} {t:TypeId} {xs:List Value},BlkV w g t xs->o+vs.length<=xs.length->
  BlkV (w.setCells g o vs) g t (xs.take o++vs++xs.drop (o+vs.length))/\w.grownBy (w.setCells g o vs) (some g)
 |[],o,w,g,t,xs,h,_=>⟨by simpa [World.setCells] using h,World.grownBy.refl _ _⟩
 |v::r,o,w,g,t,xs,h,hl=>by
  have hl':o+1+r.length<=(xs.set o v).length:=by simp at hl ⊢;omega
  obtain ⟨h1,h2⟩:=BlkV.cellsSet r (o+1) (h.stored o v) hl'
  have e1:(xs.set o v).take (o+1)++r++(xs.set o v).drop (o+1+r.length)=xs.take o++(v::r)++xs.drop (o+(v::r).length):=by
   have ho:o<xs.length:=by simp at hl;omega
   have ht:(xs.set o v).take (o+1)=xs.take o++[v]:=by
    rw[List.take_succ_eq_append_getElem (by simpa using ho),List.take_set_of_le (Nat.le_refl _)]
    simp
   have hd:(xs.set o v).drop (o+1+r.length)=xs.drop (o+(v::r).length):=by
    rw[List.drop_set_of_lt (by omega)]
    congr 1
    simp;omega
   rw[ht,hd]
   simp
  rw[e1] at h1
  refine ⟨h1,?_⟩
  have h0:w.grownBy (w.setCell ⟨g,o,none⟩ v) (some g):=⟨rfl,rfl,rfl,by simp[World.setCell],fun k _ hk=>Below.heap_setCell _ _ _ _ (fun e=>hk (by simp[e]))⟩
  exact ⟨h2.os.trans h0.os,h2.tape.trans h0.tape,h2.output.trans h0.output,Nat.le_trans h0.size h2.size,fun k hk hne=>(h2.block k (Nat.lt_of_lt_of_le hk h0.size) hne).trans (h0.block k hk hne)⟩
def OwnV(B:Nat)(w:World)(t:TypeId)(v:Value)(n:Nat)(xs:List Value):Prop:=
 (v=.slice none 0 0/\n=0/\xs=[]) ∨
 ∃g,v=.slice (some ⟨g,0,none⟩) n xs.length/\B<=g/\BlkV w g t xs/\n<=xs.length/\xs.length<=maxLen
theorem OwnV.keep{B:Nat}{w w':World}{t:TypeId}{v:Value}{n:Nat}{xs:List Value}(h:OwnV B w t v n xs)(hb:∀g,v.ownBlock=some g->g<w.heap.size->w'.heap[g]?=w.heap[g]?):OwnV B w' t v n xs:=by
 rcases h with h|⟨g,rfl,h2,h3,h4⟩
 ·exact .inl h
 ·exact .inr ⟨g,rfl,h2,h3.same (hb g rfl h3.lt),h4⟩
theorem OwnV.below{B:Nat}{w w':World}{t:TypeId}{v:Value}{n:Nat}{xs:List Value}(h:OwnV B w t v n xs)(hb:Below w.heap.size w w'):OwnV B w' t v n xs:=h.keep fun g _ hg=>hb.block g hg
theorem OwnV.mono{B B':Nat}{w:World}{t:TypeId}{v:Value}{n:Nat}{xs:List Value}(h:OwnV B w t v n xs)(hB:B'<=B):OwnV B' w t v n xs:=by
 rcases h with h|⟨g,h1,h2,h3⟩
 ·exact .inl h
 ·exact .inr ⟨g,h1,Nat.le_trans hB h2,h3⟩
theorem OwnV.lt{B:Nat}{w:World}{t:TypeId}{v:Value}{n:Nat}{xs:List Value}(h:OwnV B w t v n xs):∀g,v.ownBlock=some g->B<=g:=by
 intro g hg
 rcases h with ⟨rfl,_⟩|⟨g',rfl,h2,_⟩
 ·cases hg
 ·have:g'=g:=Option.some.inj hg
  omega
theorem OwnV.shape{B:Nat}{w:World}{t:TypeId}{v:Value}{n:Nat}{xs:List Value}(h:OwnV B w t v n xs):∃ao,v=.slice ao n xs.length/\(ao=none->xs.length=0):=by
 rcases h with ⟨rfl,rfl,rfl⟩|⟨g,rfl,_⟩
 ·exact ⟨none,rfl,fun _=>rfl⟩
 ·exact ⟨_,rfl,fun h=>by cases h⟩
theorem OwnV.le{B:Nat}{w:World}{t:TypeId}{v:Value}{n:Nat}{xs:List Value}(h:OwnV B w t v n xs):n<=xs.length/\xs.length<=maxLen:=by
 rcases h with ⟨_,rfl,rfl⟩|⟨g,_,_,_,h4,h5⟩
 ·exact ⟨Nat.le_refl _,Nat.zero_le _⟩
 ·exact ⟨h4,h5⟩
theorem OwnV.rd{B:Nat}{w:World}{t:TypeId}{ao:Option Addr}{n c:Nat}{xs:List Value}(h:OwnV B w t (.slice ao n c) n xs)(m:Nat):RdV w ao (xs.take m):=by
 rcases h with ⟨_,_,rfl⟩|⟨g,e,_,h3,_⟩
 ·exact .inl (by simp)
 ·have:ao=some ⟨g,0,none⟩:=by injection e
  rw[this];exact h3.rd m
theorem OwnV.nil(B:Nat)(w:World)(t:TypeId):OwnV B w t (.slice none 0 0) 0 []:=.inl ⟨rfl,rfl,rfl⟩
theorem src_of{P:Program}{w:World}{tx e':TypeId}(hk:P.underlying tx=some (.slice e')){ao:Option Addr}{m c:Nat}{news:List Value}(hr:RdV w ao news)(hl:news.length=m)(h1:∀u∈news,u.oneCell'=true):Src P 1 tx (.slice ao m c) m news w:=by
 cases ao with
 |none=>
  have hn:news=[]:=by
   rcases hr with h|⟨b,o,h,_⟩
   ·exact h
   ·cases h
  subst hn
  subst hl
  exact Src.ofNil w hk c
 |some a=>exact Src.ofSlice w hk a m c news (by simp[hl]) hr.cells h1
theorem zeros_eq1(z:Value)(hz:z.cells=#[z])(k:Nat):Builtin.zeroCells z.cells k=(List.replicate k z).toArray:=by
 rw[hz]
 apply Array.ext
 ·simp[Builtin.zeroCells]
 ·intro i h1 h2
  simp[Builtin.zeroCells]
  have:i % 1=0:=by omega
  simp[this]
structure ElemTy(P:Program)(t e:TypeId)(z:Value)(bt:Nat):Prop where
 ht:P.underlying t=some (.slice e)
 hi:(P.info? e).map (fun i=>(i.zero,i.size,i.bytes))=some (some z,1,bt)
 hz:z.cells=#[z]
theorem run_append_row{P:Program}{t e:TypeId}{z:Value}{bt:Nat}(T:ElemTy P t e z bt)(w:World)(B:Nat)(tx ty:TypeId)(v:Value)(n:Nat)(xs:List Value)(hown:OwnV B w e v n xs)
  (x:Value) (m:Nat) (news:List Value) (hs:Src P 1 tx x m news w) (hb:(n+m)*bt<=140737488355328) (h63:n+m<=maxLen) (hB:B<=w.heap.size) :
  ∃v' w' xs',(Builtin.append_ #[t,tx] ty #[v,x]).run P w=.ok v' w'/\OwnV B w' e v' (n+m) xs'/\xs'.take (n+m)=xs.take n++news/\w.grownBy w' v.ownBlock/\(∀Q:Value->Prop,Q z->(∀u∈xs,Q u)->(∀u∈news,Q u)->∀u∈xs',Q u)/\(n+m<=xs.length->xs'.length=xs.length):=by
 obtain ⟨i,hi,hz0,hz1,hz2⟩:=info_parts T.hi
 have hs':Src P i.size tx x m news w:=by rw[hz1];exact hs
 have hnl:news.length=m:=by simpa using hs.newsLen
 have grow:∀(base:Option Addr) (old:Nat),v=.slice base n old->old<n+m->(Builtin.firstCells i.size n (.slice base n old)).run P w.drew=.ok (xs.take n).toArray w.drew->(xs.take n).length=n->(n+m<=xs.length->False)->
   ∃v' w' xs',(Builtin.append_ #[t,tx] ty #[v,x]).run P w=.ok v' w'/\OwnV B w' e v' (n+m) xs'/\xs'.take (n+m)=xs.take n++news/\w.grownBy w' v.ownBlock/\(∀Q:Value->Prop,Q z->(∀u∈xs,Q u)->(∀u∈news,Q u)->∀u∈xs',Q u)/\(n+m<=xs.length->xs'.length=xs.length):=by
  intro base old hv ho hold htl hno
  have hge:=grownCap_ge w (n+m) old e
  have hle:=grownCap_le_maxLen w (n+m) old e h63
  have hr':=run_append_grow_src (P:=P) w t tx ty e i z T.ht hi hz0 base n old (xs.take n) hold x m news hs' ho (by simp only[maxLen] at h63;omega) (growslice_fits ho (by rw[hz2];exact hb))
  rw[zeros_eq1 z T.hz] at hr'
  have e1:((xs.take n++news).toArray++(List.replicate (grownCap w (n+m) old e - (n+m)) z).toArray)=(xs.take n++news++List.replicate (grownCap w (n+m) old e - (n+m)) z).toArray:=by simp
  rw[e1] at hr'
  have hl:(xs.take n++news++List.replicate (grownCap w (n+m) old e - (n+m)) z).length=grownCap w (n+m) old e:=by
   simp only[List.length_append,htl,hnl,List.length_replicate];omega
  rw[hv]
  refine ⟨_,_,xs.take n++news++List.replicate (grownCap w (n+m) old e - (n+m)) z,hr',.inr ⟨w.heap.size,by rw[hl],hB,heap_alloc_new w.drew _,by rw[hl];exact hge,by rw[hl];exact hle⟩,?_,⟨rfl,rfl,rfl,by simp,fun k hk _=>Below.heap_alloc w.drew _ k hk⟩,?_,fun h=>(hno h).elim⟩
  ·rw[List.take_append_of_le_length (by simp only[List.length_append,htl,hnl];omega)]
   exact List.take_of_length_le (by simp only[List.length_append,htl,hnl];omega)
  ·intro Q qz qx qn u hu
   simp only[List.mem_append,List.mem_replicate] at hu
   rcases hu with (hu|hu)|⟨_,rfl⟩
   ·exact qx u (List.mem_of_mem_take hu)
   ·exact qn u hu
   ·exact qz
 rcases hown with ⟨rfl,rfl,rfl⟩|⟨g,rfl,hBg,hblk,hn,hm⟩
 ·by_cases hm0:m=0
  ·subst hm0
   have hnews:news=[]:=List.eq_nil_of_length_eq_zero hnl
   subst hnews
   refine ⟨.slice none 0 0,w,[],?_,.inl ⟨rfl,rfl,rfl⟩,by simp,World.grownBy.refl _ _,(fun Q _ _ _ u hu=>nomatch hu),fun _=>rfl⟩
   rcases hs'.kind with ⟨e',hk⟩|hk <;> simp[Builtin.append_,run_underlying T.ht,run_underlying hk,sizeOf,typeInfo,hi,hs'.len,hs'.cells]
  ·exact grow none 0 rfl (by omega) (run_firstCells_none w.drew i.size 0 0 0) (by simp) (fun h=>by simp at h;omega)
 ·by_cases hroom:n+m<=xs.length
  ·have hc:∀j,j<news.length->(w.cell? ⟨g,0+n*i.size+j,none⟩).isSome=true:=by
    intro j hj
    have h2:0+n*i.size+j<xs.length:=by rw[hz1];omega
    rw[hblk.cell _ h2];rfl
   have hf:∀j,j<news.length->w.frozen? ⟨g,0+n*i.size+j,none⟩=false:=fun j _=>hblk.frozen _
   have hr':=run_append_room_src (P:=P) w t tx ty e i T.ht hi g 0 n xs.length x m news hs' hroom hc hf
   obtain ⟨hset,hgr⟩:BlkV (w.setCells g (0+n*i.size) news) g e (xs.take n++news++xs.drop (n+m))/\w.grownBy (w.setCells g (0+n*i.size) news) (some g):=by
    have:=BlkV.cellsSet news n hblk (by omega)
    rw[hnl] at this
    rw[hz1,Nat.mul_one,Nat.zero_add]
    exact this
   have hlen:(xs.take n++news++xs.drop (n+m)).length=xs.length:=by simp[hnl];omega
   refine ⟨_,_,xs.take n++news++xs.drop (n+m),hr',.inr ⟨g,by rw[hlen],hBg,hset,by rw[hlen];exact hroom,by rw[hlen];exact hm⟩,?_,?_,?_,fun _=>hlen⟩
   ·rw[List.take_append_of_le_length (by simp[hnl];omega)]
    exact List.take_of_length_le (by simp[hnl];omega)
   ·exact hgr
   ·intro Q qz qx qn u hu
    simp only[List.mem_append] at hu
    rcases hu with (hu|hu)|hu
    ·exact qx u (List.mem_of_mem_take hu)
    ·exact qn u hu
    ·exact qx u (List.mem_of_mem_drop hu)
  ·refine grow (some ⟨g,0,none⟩) xs.length rfl (by omega) ?_ (by simp;omega) (fun h=>hroom h)
   have:=run_firstCells_some (P:=P) w.drew i.size n ⟨g,0,none⟩ n xs.length (xs.take n) (by rw[hz1];simp;omega) (fun j u hu=>(hblk.below (Below.refl _ _).drew).rd n |>.cells j u hu)
   exact this
theorem wpList_append_row{P:Program}{t e:TypeId}{z:Value}{bt:Nat}(T:ElemTy P t e z bt)(w:World){ops:Array Oper}{rest:List Oper}{o:Oper}{a:Act}{Q:Exit->Act->World->Prop}(hgd:o.guard=none)(s x:Operand)(tx:TypeId)
  (ho:o.op=.call { callee:=.builtin .append,args:=#[s,x],argTypes:=#[t,tx] }) (B:Nat) (v:Value) (n:Nat) (xs:List Value) (hs:a.eval s=v) (hown:OwnV B w e v n xs)
  (xv:Value) (m:Nat) (news:List Value) (hx:a.eval x=xv) (hsrc:Src P 1 tx xv m news w) (hb:(n+m)*bt<=140737488355328) (h63:n+m<=maxLen) (hB:B<=w.heap.size)
  (h:∀v' w' xs',Hid (OwnV B w' e v' (n+m) xs')->Hid (xs'.take (n+m)=xs.take n++news)->w.grownBy w' v.ownBlock->Hid ((∀Q:Value->Prop,Q z->(∀u∈xs,Q u)->(∀u∈news,Q u)->∀u∈xs',Q u)/\(n+m<=xs.length->xs'.length=xs.length))->wpList P ops Q rest (a.put o.dst v') w'):wpList P ops Q (o::rest) a w:=by
 refine wpList_plain hgd fun K hK=>?_
 obtain ⟨v',w',xs',hrun,h2,h3,h4,h5⟩:=run_append_row T w B tx o.type v n xs hown xv m news hsrc hb h63 hB
 unfold Oper.wp execOp
 simp only[ho,resolve,invoke,builtin,Sem.run_bind,Sem.run_pure,Result.andThen_ok,List.map_toArray,List.map_cons,List.map_nil,hs,hx,hrun]
 exact hK _ _ (h v' w' xs' h2 h3 h4 h5)
theorem tyT:ElemTy Tryz.prog 22 9 (.string ⟨#[]⟩) 16:=⟨Tryz.underlying22,by kernel_rfl,rfl⟩
theorem tyN:ElemTy Tryz.prog 23 9 (.string ⟨#[]⟩) 16:=⟨Tryz.underlying23,by kernel_rfl,rfl⟩
def tv(ss:List ByteArray):List Value:=ss.map Value.string
theorem tv_len(ss:List ByteArray):(tv ss).length=ss.length:=by simp[tv]
theorem tv_at(ss:List ByteArray)(i:Nat)(h:i<(tv ss).length):(tv ss)[i]=.string (ss[i]'(by rw[<- tv_len];exact h)):=by simp[tv]
theorem tv_one(ss:List ByteArray):∀u∈tv ss,u.oneCell'=true:=by
 intro u hu
 simp only[tv,List.mem_map] at hu
 obtain ⟨s,_,rfl⟩:=hu
 rfl
theorem tv_append(a b:List ByteArray):tv (a++b)=tv a++tv b:=by simp[tv]
theorem tv_take(a:List ByteArray)(n:Nat):(tv a).take n=tv (a.take n):=by simp[tv,List.map_take]
theorem tv_drop(a:List ByteArray)(n:Nat):(tv a).drop n=tv (a.drop n):=by simp[tv,List.map_drop]
def RdT(w:World)(a:Option Addr)(ss:List ByteArray):Prop:=RdV w a (tv ss)
theorem RdT.below{w w':World}{a:Option Addr}{ss:List ByteArray}(h:RdT w a ss)(hb:Below w.heap.size w w'):RdT w' a ss:=RdV.below h hb
theorem RdT.at{w:World}{a:Option Addr}{ss:List ByteArray}(h:RdT w a ss)(i:Nat)(hi:i<ss.length):∃b o,a=some ⟨b,o,none⟩/\b<w.heap.size/\w.cell? ⟨b,o+i,none⟩=some (.string ss[i]):=by
 rcases h with h|⟨b,o,rfl,h1,h2⟩
 ·have:=congrArg List.length h
  rw[tv_len] at this
  simp at this
  subst this
  simp at hi
 ·refine ⟨b,o,rfl,h1,?_⟩
  rw[h2 i (by rw[tv_len];exact hi),tv_at]
theorem sameT_yes(a b:Option Addr)(n c d:Nat)(ss:List ByteArray)(w:World)(hr:RdT w a ss)(hr':RdT w b ss)(hl:ss.length=n)(hn:n<=9223372036854775807) :
  Calls Tryz.prog 59 #[.slice a n c,.slice b n d] w fun e w'=>e=.returned (.bool true)/\Hid (Below w.heap.size w w'):=by
 have HR:Hid (RdT w a ss/\RdT w b ss):=⟨hr,hr'⟩
 have HL:Hid (ss.length=n):=hl
 clear hr hr' hl
 go_enter Tryz.func59,Tryz.ntmps59
 go_wp2_with fail
 go_loopw [5] (fun x wr=>∃k:Nat,k<=n/\x=.int .i64 k/\Hid (Below w.heap.size w wr)) (fun x _=>n - (intOf x).toNat)
 case atStart=>exact ⟨0,Nat.zero_le _,rfl,Below.refl _ _⟩
 case round=>
  obtain ⟨k,hk,rfl,HB⟩:=hrel
  by_cases hlt:k<n
  ·have hlt':(k:Int)<(n:Int):=by omega
   have hks:k<ss.length:=by rw[HL.out];exact hlt
   obtain ⟨b1,o1,rfl,l1,c1⟩:=(HR.out.1.below HB.out).at k hks
   obtain ⟨b2,o2,rfl,l2,c2⟩:=(HR.out.2.below HB.out).at k hks
   generalize ss[k]=s at*
   go_wp2_with fail
   go_quiet (fail)
   have HB2:Hid (Below w.heap.size w (wr.drewN nq)):=HB.out.trans ⟨rfl,rfl,rfl,Nat.le_refl _,fun _ _=>rfl⟩
   clear c1 c2
   generalize wr.drewN nq=W2 at*
   go_wp2
   exact ⟨⟨k+1,by omega,by go_num,HB2⟩,by simp[intOf];omega⟩
  ·have hge:(n:Int)<=(k:Int):=by omega
   go_wp2
   go_ret
   exact ⟨rfl,HB.out⟩
def QS(M:Nat)(u:Value):Prop:=∃s:ByteArray,u=.string s/\s.size<=M
theorem tv_of{M:Nat}:∀xs:List Value,(∀u∈xs,QS M u)->∃ys,xs=tv ys/\∀s∈ys,s.size<=M
 |[],_=>⟨[],rfl,by simp⟩
 |x::xs,h=>by
  obtain ⟨ys,e1,e2⟩:=tv_of xs (fun u hu=>h u (by simp[hu]))
  obtain ⟨s,rfl,hs⟩:=h x (by simp)
  refine ⟨s::ys,by rw[e1];rfl,fun q hq=>?_⟩
  rcases List.mem_cons.1 hq with rfl|hq
  ·exact hs
  ·exact e2 q hq
theorem qs_tv{M:Nat}{ss:List ByteArray}(h:∀s∈ss,s.size<=M):∀u∈tv ss,QS M u:=by
 intro u hu
 simp only[tv,List.mem_map] at hu
 obtain ⟨s,hs,rfl⟩:=hu
 exact ⟨s,rfl,h s hs⟩
theorem tv_inj:∀{a b:List ByteArray},tv a=tv b->a=b
 |[],[],_=>rfl
 |[],_::_,h=>by simp[tv] at h
 |_::_,[],h=>by simp[tv] at h
 |x::a,y::b,h=>by
  simp only[tv,List.map_cons,List.cons.injEq,Value.string.injEq] at h
  rw[h.1,tv_inj (a:=a) (b:=b) h.2]
def OwnT(B:Nat)(w:World)(v:Value)(n:Nat)(ss:List ByteArray)(M:Nat):Prop:=OwnV B w 9 v n (tv ss)/\∀s∈ss,s.size<=M
theorem OwnT.below{B:Nat}{w w':World}{v:Value}{n:Nat}{ss:List ByteArray}{M:Nat}(h:OwnT B w v n ss M)(hb:Below w.heap.size w w'):OwnT B w' v n ss M:=⟨h.1.below hb,h.2⟩
theorem OwnT.mono{B B':Nat}{w:World}{v:Value}{n:Nat}{ss:List ByteArray}{M:Nat}(h:OwnT B w v n ss M)(hB:B'<=B):OwnT B' w v n ss M:=⟨h.1.mono hB,h.2⟩
theorem OwnT.nil(B:Nat)(w:World)(M:Nat):OwnT B w (.slice none 0 0) 0 [] M:=⟨OwnV.nil B w 9,by simp⟩
theorem OwnT.rd{B:Nat}{w:World}{ao:Option Addr}{n c:Nat}{ss:List ByteArray}{M:Nat}(h:OwnT B w (.slice ao n c) n ss M)(m:Nat):RdT w ao (ss.take m):=by
 have:=h.1.rd m
 rw[tv_take] at this
 exact this
theorem OwnT.shape{B:Nat}{w:World}{v:Value}{n:Nat}{ss:List ByteArray}{M:Nat}(h:OwnT B w v n ss M):∃ao,v=.slice ao n ss.length/\(ao=none->ss.length=0):=by
 obtain ⟨ao,h1,h2⟩:=h.1.shape
 rw[tv_len] at h1 h2
 exact ⟨ao,h1,h2⟩
theorem OwnT.le{B:Nat}{w:World}{v:Value}{n:Nat}{ss:List ByteArray}{M:Nat}(h:OwnT B w v n ss M):n<=ss.length/\ss.length<=maxLen:=by
 have:=h.1.le
 rw[tv_len] at this
 exact this
theorem wpList_append_T{t:TypeId}(T:ElemTy Tryz.prog t 9 (.string ⟨#[]⟩) 16)(w:World){ops:Array Oper}{rest:List Oper}{o:Oper}{a:Act}{Q:Exit->Act->World->Prop}(hgd:o.guard=none)(s x:Operand)(tx e':TypeId)(hk:Tryz.prog.underlying tx=some (.slice e'))
  (ho:o.op=.call { callee:=.builtin .append,args:=#[s,x],argTypes:=#[t,tx] }) (B:Nat) (v:Value) (n:Nat) (ss:List ByteArray) (M:Nat) (hs:a.eval s=v) (hown:OwnT B w v n ss M)
  (ao:Option Addr) (m c:Nat) (ns:List ByteArray) (hx:a.eval x=.slice ao m c) (hr:RdT w ao ns) (hl:ns.length=m) (hM:∀s∈ns,s.size<=M) (hb:n+m<=8796093022000) (hB:B<=w.heap.size)
  (h:∀v' w' ys,Hid (OwnT B w' v' (n+m) ys M)->Hid (ys.take (n+m)=ss.take n++ns)->w.grownBy w' v.ownBlock->wpList Tryz.prog ops Q rest (a.put o.dst v') w'):wpList Tryz.prog ops Q (o::rest) a w:=by
 refine wpList_append_row T w hgd s x tx ho B v n (tv ss) hs hown.1 (.slice ao m c) m (tv ns) hx (src_of hk hr (by rw[tv_len];exact hl) (tv_one ns)) (by omega) (by simp only[maxLen];omega) hB ?_
 intro v' w' xs' h1 h2 h3 h4
 obtain ⟨ys,rfl,hys⟩:=tv_of (M:=M) xs' (h4.out.1 (QS M) ⟨⟨#[]⟩,rfl,Nat.zero_le _⟩ (qs_tv hown.2) (qs_tv hM))
 refine h v' w' ys ⟨h1.out,hys⟩ ?_ h3
 have h2':=h2.out
 rw[tv_take,tv_take,<- tv_append] at h2'
 exact tv_inj h2'
theorem one_rdT(w:World)(s:ByteArray):RdT (w.alloc (.cells #[.string s] 9)) (some ⟨w.heap.size,0,none⟩) [s]:=by
 refine .inr ⟨w.heap.size,0,rfl,by simp,fun i hi=>?_⟩
 have:i=0:=by simp[tv] at hi;omega
 subst this
 simp[go_sem,tv]
def CopyPost(ss:List ByteArray)(M:Nat)(w:World)(e:Ending)(w':World):Prop:=
 ∃v ys,e=.returned v/\Hid (OwnT w.heap.size w' v ss.length ys M/\ys.take ss.length=ss/\Below w.heap.size w w')
theorem sameN_yes(a b:Option Addr)(n c d:Nat)(ss:List ByteArray)(w:World)(hr:RdT w a ss)(hr':RdT w b ss)(hl:ss.length=n)(hn:n<=9223372036854775807) :
  Calls Tryz.prog 25 #[.slice a n c,.slice b n d] w fun e w'=>e=.returned (.bool true)/\Hid (Below w.heap.size w w'):=by
 have HX:Hid (Calls Tryz.prog 59 #[.slice a n c,.slice b n d] w fun e w'=>e=.returned (.bool true)/\Hid (Below w.heap.size w w')):=sameT_yes a b n c d ss w hr hr' hl hn
 clear hr hr' hl
 go_enter Tryz.func25,Tryz.ntmps25
 go_wp2_with fail
 refine HX.out.mono ?_
 rintro e w1 ⟨rfl,H1⟩
 go_wp2
 go_ret
 exact ⟨rfl,H1⟩
def Rd(w:World)(a:Option Addr)(zs:List Int):Prop:=
 (zs=[]∨∃b o,a=some ⟨b,o,none⟩/\b<w.heap.size/\∀i,i<zs.length->w.cell? ⟨b,o+i,none⟩=some (.int .u8 (zs.getD i 0)))/\∀z∈zs,0<=z/\z<=255
theorem Rd.bd{w:World}{a:Option Addr}{zs:List Int}(h:Rd w a zs)(i:Nat):0<=zs.getD i 0/\zs.getD i 0<=255:=by
 by_cases hi:i<zs.length
 ·have:=h.2 (zs.getD i 0) (by rw[List.getD_eq_getElem?_getD,List.getElem?_eq_getElem hi];simp)
  exact this
 ·rw[List.getD_eq_getElem?_getD,List.getElem?_eq_none (by omega)];simp
theorem Rd.below{w w':World}{a:Option Addr}{zs:List Int}(h:Rd w a zs)(hb:Below w.heap.size w w'):Rd w' a zs:=by
 refine ⟨?_,h.2⟩
 rcases h.1 with h1|⟨b,o,rfl,h1,h2⟩
 ·exact .inl h1
 ·refine .inr ⟨b,o,rfl,Nat.lt_of_lt_of_le h1 hb.size,fun i hi=>?_⟩
  rw[<- h2 i hi]
  exact hb.cell (p:=⟨b,o+i,none⟩) h1
theorem take_snoc(zs:List Int)(k:Nat)(h:k<zs.length):zs.take (k+1)=zs.take k++[zs.getD k 0]:=by
 rw[List.take_succ_eq_append_getElem h];simp[List.getD_eq_getElem?_getD,List.getElem?_eq_getElem h]
def Blk(w:World)(g:Nat)(zs:List Int):Prop:=
 w.heap[g]?=some (.cells (zs.map (Value.int .u8)).toArray 5 (0,0))/\∀z∈zs,0<=z/\z<=255
theorem Blk.lt{w:World}{g:Nat}{zs:List Int}(h:Blk w g zs):g<w.heap.size:=by
 have:=h.1
 by_cases hg:g<w.heap.size
 ·exact hg
 ·rw[Array.getElem?_eq_none (by omega)] at this;cases this
theorem Blk.same{w w':World}{g:Nat}{zs:List Int}(h:Blk w g zs)(hb:w'.heap[g]?=w.heap[g]?):Blk w' g zs:=⟨hb.trans h.1,h.2⟩
theorem Blk.below{w w':World}{g:Nat}{zs:List Int}(h:Blk w g zs)(hb:Below w.heap.size w w'):Blk w' g zs:=h.same (hb.block g h.lt)
theorem Blk.cell{w:World}{g:Nat}{zs:List Int}(h:Blk w g zs)(i:Nat)(hi:i<zs.length):w.cell? ⟨g,i,none⟩=some (.int .u8 (zs.getD i 0)):=by
 simp[World.cell?,h.1,hi]
theorem Blk.rd{w:World}{g:Nat}{zs:List Int}(h:Blk w g zs)(n:Nat):Rd w (some ⟨g,0,none⟩) (zs.take n):=by
 refine ⟨.inr ⟨g,0,rfl,h.lt,fun i hi=>?_⟩,fun z hz=>h.2 z (List.mem_of_mem_take hz)⟩
 rw[Nat.zero_add,h.cell i (by simp at hi;omega)]
 have:i<n:=by simp at hi;omega
 simp[List.getD_eq_getElem?_getD,this]
theorem Tryz.info5:(Tryz.prog.info? 5).map (fun i=>(i.zero,i.size,i.bytes))=some (some (.int .u8 0),1,1):=by kernel_rfl
def Own(B:Nat)(w:World)(v:Value)(n:Nat)(zs:List Int):Prop:=
 (v=.slice none 0 0/\n=0/\zs=[]) ∨
 ∃g,v=.slice (some ⟨g,0,none⟩) n zs.length/\B<=g/\Blk w g zs/\n<=zs.length/\zs.length<=maxLen
theorem zeros_eq(k:Nat):Builtin.zeroCells (Value.int .u8 0).cells k=((List.replicate k (0:Int)).map (Value.int .u8)).toArray:=by
 apply Array.ext
 ·simp[Builtin.zeroCells,Value.cells]
 ·intro i h1 h2
  simp[Builtin.zeroCells,Value.cells]
  have:i % 1=0:=by omega
  simp[this]
theorem rd_cells{w:World}{x:Addr}{zs:List Int}(h:Rd w (some x) zs):∀j u,(zs.map (Value.int .u8))[j]?=some u->w.cell? (x.add j)=some u:=by
 intro j u hu
 have hj:j<zs.length:=by simpa using (List.getElem?_eq_some_iff.1 hu).1
 rcases h.1 with h1|⟨b,o,e,_,h2⟩
 ·subst h1;simp at hj
 ·cases e
  rw[Addr.add_lit,h2 j hj,<- hu]
  simp[hj]
theorem run_append_blk(w:World)(B:Nat)(ty:TypeId)(v:Value)(n:Nat)(zs:List Int)(hown:Own B w v n zs)
  (ao:Option Addr) (m c:Nat) (news:List Int) (hr:Rd w ao news) (hl:news.length=m) (hc:ao=none->c=0) (hb:n+m<=140737488355328) (hB:B<=w.heap.size) :
  ∃v' w' zs',(Builtin.append_ #[39,39] ty #[v,.slice ao m c]).run Tryz.prog w=.ok v' w'/\Own B w' v' (n+m) zs'/\zs'.take (n+m)=zs.take n++news/\w.grownBy w' v.ownBlock:=by
 obtain ⟨i,hi,hz0,hz1,hz2⟩:=info_parts Tryz.info5
 cases ao with
 |none=>
  have hnews:news=[]:=by
   rcases hr.1 with h1|⟨b,o,h,_⟩
   ·exact h1
   ·cases h
  subst hnews;subst hl
  rw[hc rfl]
  refine ⟨v,w,zs,?_,hown,by simp,World.grownBy.refl _ _⟩
  rcases hown with ⟨rfl,rfl,rfl⟩|⟨g,rfl,hBg,hblk,hn,hm⟩
  ·simp[Builtin.append_,run_underlying Tryz.underlying39,sizeOf,typeInfo,hi,Builtin.lenOf,Builtin.firstCells]
  ·simp[Builtin.append_,run_underlying Tryz.underlying39,sizeOf,typeInfo,hi,Builtin.lenOf,Builtin.firstCells,hn,storeCells]
 |some a=>
  have hcs:=rd_cells hr
  have hml:n+m<=maxLen:=by simp only[maxLen];omega
  have hlm:(news.map (Value.int .u8)).length=m*i.size:=by rw[hz1];simp[hl]
  have grown:∀(old:Nat),old<n+m->∀(row:Option Nat),(n=0∨n<=zs.length)->
    ∃zs':List Int,(.cells (((zs.take n).map (Value.int .u8)).toArray++(news.map (Value.int .u8)).toArray++Builtin.zeroCells (Value.int .u8 0).cells (grownCap w (n+m) old 5 - (n+m))) 5:Obj)=.cells (zs'.map (Value.int .u8)).toArray 5 (0,0)/\
    zs'.length=grownCap w (n+m) old 5/\zs'.take (n+m)=zs.take n++news/\(∀z∈zs',0<=z/\z<=255):=by
   intro old ho row hn
   have hge:=grownCap_ge w (n+m) old 5
   have hzb:∀z∈zs,0<=z/\z<=255:=by
    rcases hown with ⟨_,_,rfl⟩|⟨g,_,_,hblk,_⟩
    ·intro z hz;cases hz
    ·exact hblk.2
   have htl:(zs.take n).length=n:=by
    rcases hn with rfl|hn
    ·simp
    ·simp;omega
   refine ⟨zs.take n++news++List.replicate (grownCap w (n+m) old 5 - (n+m)) 0,?_,?_,?_,?_⟩
   ·rw[zeros_eq];simp
   ·simp only[List.length_append,htl,hl,List.length_replicate];omega
   ·rw[List.take_append_of_le_length (by simp only[List.length_append,htl,hl];omega)]
    exact List.take_of_length_le (by simp only[List.length_append,htl,hl];omega)
   ·intro z hz
    simp only[List.mem_append,List.mem_replicate] at hz
    rcases hz with (hz|hz)|⟨_,rfl⟩
    ·exact hzb z (List.mem_of_mem_take hz)
    ·exact hr.2 z hz
    ·omega
  have fresh:∀(old:Nat),old<n+m->∀zs':List Int,zs'.length=grownCap w (n+m) old 5->(∀z∈zs',0<=z/\z<=255)->
    Own B (w.drew.alloc (.cells (zs'.map (Value.int .u8)).toArray 5 (0,0))) (.slice (some ⟨w.heap.size,0,none⟩) (n+m) (grownCap w (n+m) old 5)) (n+m) zs':=by
   intro old ho zs' hzl hzb
   refine .inr ⟨w.heap.size,by rw[hzl],hB,⟨heap_alloc_new w.drew _,hzb⟩,?_,?_⟩
   ·rw[hzl];exact grownCap_ge w (n+m) old 5
   ·rw[hzl];exact grownCap_le_maxLen w (n+m) old 5 hml
  rcases hown with ⟨rfl,rfl,rfl⟩|⟨g,rfl,hBg,hblk,hn,hm⟩
  ·by_cases hm0:m=0
   ·subst hm0
    have hnews:news=[]:=List.eq_nil_of_length_eq_zero hl
    subst hnews
    refine ⟨.slice none 0 0,w,[],?_,.inl ⟨rfl,rfl,rfl⟩,by simp,World.grownBy.refl _ _⟩
    simp[Builtin.append_,run_underlying Tryz.underlying39,sizeOf,typeInfo,hi,Builtin.lenOf,Builtin.firstCells,loadCells,loadCellsFrom]
   ·have hr':=run_append_nil (P:=Tryz.prog) w 39 ty 5 i _ Tryz.underlying39 hi hz0 a m c (news.map (Value.int .u8)) hlm hcs (by omega) (by omega) (by rw[hz2];omega)
    obtain ⟨zs',e1,e2,e3,e4⟩:=grown 0 (by omega) none (.inl rfl)
    have hf:=fresh 0 (by omega) zs' e2 e4
    simp only[Nat.zero_add,List.take_nil,List.map_nil,List.nil_append,Array.empty_append,List.take_zero] at e1 e2 e3 hf ⊢
    rw[e1] at hr'
    exact ⟨_,_,zs',hr',hf,e3,⟨rfl,rfl,rfl,by simp,fun k hk _=>Below.heap_alloc w.drew _ k hk⟩⟩
  ·by_cases hroom:n+m<=zs.length
   ·have hr':=run_append_room (P:=Tryz.prog) w 39 ty 5 i Tryz.underlying39 hi g n zs.length _ hblk.1 a m c (news.map (Value.int .u8)) hlm hcs (ints_oneCell _ _) hroom (by rw[hz1];simp[hl];omega)
    have e:(((zs.map (Value.int .u8)).toArray.toList.take (n*i.size))++news.map (Value.int .u8)++(zs.map (Value.int .u8)).toArray.toList.drop (n*i.size+(news.map (Value.int .u8)).length)).toArray=((zs.take n++news++zs.drop (n+m)).map (Value.int .u8)).toArray:=by
     rw[hz1];simp[hl]
    rw[e] at hr'
    have hlen:(zs.take n++news++zs.drop (n+m)).length=zs.length:=by simp[hl];omega
    refine ⟨_,_,zs.take n++news++zs.drop (n+m),hr',.inr ⟨g,by rw[hlen],hBg,⟨setRow_heap w g _ _ 5 _ hblk.1,?_⟩,by rw[hlen];exact hroom,by rw[hlen];exact hm⟩,?_,
     ⟨rfl,rfl,rfl,by simp,fun k _ hk=>setRow_other w g k _ (fun e=>hk (by simp[Value.ownBlock,e]))⟩⟩
    ·intro z hz
     simp only[List.mem_append] at hz
     rcases hz with (hz|hz)|hz
     ·exact hblk.2 z (List.mem_of_mem_take hz)
     ·exact hr.2 z hz
     ·exact hblk.2 z (List.mem_of_mem_drop hz)
    ·rw[List.take_append_of_le_length (by simp[hl];omega)]
     exact List.take_of_length_le (by simp[hl];omega)
   ·have holds:∀j u,((zs.take n).map (Value.int .u8))[j]?=some u->w.cell? ((⟨g,0,none⟩:Addr).add j)=some u:=rd_cells (hblk.rd n)
    have hr':=run_append_grow (P:=Tryz.prog) w 39 ty 5 i _ Tryz.underlying39 hi hz0 ⟨g,0,none⟩ n zs.length ((zs.take n).map (Value.int .u8)) (by rw[hz1];simp;omega) holds a m c (news.map (Value.int .u8)) hlm hcs (by omega) (by simp only[maxLen] at hml;omega) (growslice_fits (by omega) (by rw[hz2];omega))
    obtain ⟨zs',e1,e2,e3,e4⟩:=grown zs.length (by omega) none (.inr hn)
    have hf:=fresh zs.length (by omega) zs' e2 e4
    rw[e1] at hr'
    exact ⟨_,_,zs',hr',hf,e3,⟨rfl,rfl,rfl,by simp,fun k hk _=>Below.heap_alloc w.drew _ k hk⟩⟩
theorem wpList_append_blk(w:World){ops:Array Oper}{rest:List Oper}{o:Oper}{a:Act}{Q:Exit->Act->World->Prop}(hgd:o.guard=none)(s x:Operand)
  (ho:o.op=.call { callee:=.builtin .append,args:=#[s,x],argTypes:=#[39,39] }) (B:Nat) (v:Value) (n:Nat) (zs:List Int) (hs:a.eval s=v) (hown:Own B w v n zs)
  (ao:Option Addr) (m c:Nat) (news:List Int) (hx:a.eval x=.slice ao m c) (hr:Rd w ao news) (hl:news.length=m) (hc:ao=none->c=0) (hb:n+m<=140737488355328) (hB:B<=w.heap.size)
  (h:∀v' w' zs',Hid (Own B w' v' (n+m) zs')->Hid (zs'.take (n+m)=zs.take n++news)->w.grownBy w' v.ownBlock->wpList Tryz.prog ops Q rest (a.put o.dst v') w'):wpList Tryz.prog ops Q (o::rest) a w:=by
 refine wpList_plain hgd fun K hK=>?_
 obtain ⟨v',w',zs',hrun,h2,h3,h4⟩:=run_append_blk w B o.type v n zs hown ao m c news hr hl hc hb hB
 unfold Oper.wp execOp
 simp only[ho,resolve,invoke,builtin,Sem.run_bind,Sem.run_pure,Result.andThen_ok,List.map_toArray,List.map_cons,List.map_nil,hs,hx,hrun]
 exact hK _ _ (h v' w' zs' h2 h3 h4)
def txt(zs:List Int):List UInt8:=zs.map fun z=>UInt8.ofNat z.toNat
theorem txt_len(zs:List Int):(txt zs).length=zs.length:=by simp[txt]
theorem conv_rd(a:Option Addr)(n c:Nat)(zs:List Int)(w:World)(hr:Rd w a zs)(hl:zs.length=n) :
  (convert 39 9 (.slice a n c)).run Tryz.prog w=.ok (.string ⟨(txt zs).toArray⟩) w:=by
 cases a with
 |none=>
  rcases hr.1 with h1|⟨b,o,h,_⟩
  ·subst h1;subst hl
   rw[run_convert_bytes_string w 39 9 5 none _ c Tryz.underlying39 Tryz.underlying5 Tryz.underlying9]
   simp[Conv.bytesToString,txt]
   rfl
  ·cases h
 |some x=>
  have:=run_convert_bytes_back (P:=Tryz.prog) w 39 9 5 x c (txt zs) Tryz.underlying39 Tryz.underlying5 Tryz.underlying9 (fun j hj=>by
   rcases hr.1 with h1|⟨b,o,h,_,h2⟩
   ·subst h1;simp[txt] at hj
   ·cases h
    have hj':j<zs.length:=by simpa [txt] using hj
    have e:=h2 j hj'
    have hz:=hr.2 (zs[j]) (List.getElem_mem hj')
    rw[Addr.add_lit,e]
    simp[txt,hj']
    omega)
  rw[txt_len,hl] at this
  exact this
def OwnA(B:Nat)(w:World)(ao:Option Addr)(n:Nat)(zs:List Int):Prop:=
 (ao=none/\n=0/\zs=[])∨∃g,ao=some ⟨g,0,none⟩/\B<=g/\Blk w g zs/\n<=zs.length/\zs.length<=maxLen
def blk(ao:Option Addr):Option Nat:=ao.map (·.block)
theorem Own.addr{B:Nat}{w:World}{v:Value}{n:Nat}{zs:List Int}(h:Own B w v n zs):∃ao,v=.slice ao n zs.length/\OwnA B w ao n zs:=by
 rcases h with ⟨rfl,rfl,rfl⟩|⟨g,rfl,hB,hb,hn,hm⟩
 ·exact ⟨none,rfl,.inl ⟨rfl,rfl,rfl⟩⟩
 ·exact ⟨some ⟨g,0,none⟩,rfl,.inr ⟨g,rfl,hB,hb,hn,hm⟩⟩
theorem OwnA.rdTake{B:Nat}{w:World}{ao:Option Addr}{n:Nat}{zs:List Int}(h:OwnA B w ao n zs)(m:Nat):Rd w ao (zs.take m):=by
 rcases h with ⟨rfl,_,rfl⟩|⟨g,rfl,h2,h3,_⟩
 ·exact ⟨.inl (by simp),by simp⟩
 ·exact h3.rd m
def nums(s:ByteArray):List Int:=s.data.toList.map fun b=>(b.toNat:Int)
theorem nums_len(s:ByteArray):(nums s).length=s.size:=by simp[nums]
theorem nums_at(s:ByteArray)(i:Nat)(h:i<s.size):(nums s).getD i 0=(s[i].toNat:Int):=by
 have h':i<s.data.toList.length:=by simpa using h
 simp[nums,List.getD_eq_getElem?_getD]
 rw[show s.data[i]?=some s[i] from Array.getElem?_eq_getElem h]
 rfl
theorem nums_bd(s:ByteArray)(i:Nat):0<=(nums s).getD i 0/\(nums s).getD i 0<=255:=by
 by_cases h:i<s.size
 ·rw[nums_at s i h];have:=s[i].toNat_lt;omega
 ·rw[List.getD_eq_getElem?_getD,List.getElem?_eq_none (by rw[nums_len];omega)];simp
theorem Own.below{B:Nat}{w w':World}{v:Value}{n:Nat}{zs:List Int}(h:Own B w v n zs)(hb:Below w.heap.size w w'):Own B w' v n zs:=by
 rcases h with h|⟨g,h1,h2,h3,h4⟩
 ·exact .inl h
 ·exact .inr ⟨g,h1,h2,h3.below hb,h4⟩
theorem Own.lt{B:Nat}{w:World}{v:Value}{n:Nat}{zs:List Int}(h:Own B w v n zs):∀g,v.ownBlock=some g->B<=g:=by
 intro g hg
 rcases h with ⟨rfl,_⟩|⟨g',rfl,h2,_⟩
 ·cases hg
 ·have:g'=g:=Option.some.inj hg
  omega
theorem new_rd(w:World)(z:Int)(hz:0<=z/\z<=255):Rd (w.alloc (.cells #[.int .u8 z] 5)) (some ⟨w.heap.size,0,none⟩) [z]:=by
 refine ⟨.inr ⟨w.heap.size,0,rfl,by simp,fun i hi=>?_⟩,by simpa using hz⟩
 have:i=0:=by simp at hi;omega
 subst this
 simp[go_sem]
theorem heap_set{w:World}{g:Nat}{cur:Array Value}{t:TypeId}{fr:Nat × Nat}(h:w.heap[g]?=some (.cells cur t fr))(i:Nat)(v:Value) :
  (w.setCell ⟨g,i,none⟩ v).heap[g]?=some (.cells (cur.setIfInBounds i v) t fr):=by
 have hg:g<w.heap.size:=(Array.getElem?_eq_some_iff.1 h).1
 have e:w.heap[g]=.cells cur t fr:=by
  rw[Array.getElem?_eq_getElem hg] at h;exact Option.some.inj h
 simp[World.setCell,hg,Array.getElem_modify,e]
def vis(c:Int):Bool:=decide (33<=c) && decide (c<=126)
def dgt(c:Int):Bool:=decide (48<=c) && decide (c<=57)
theorem vis_iff(c:Int):vis c=true↔33<=c/\c<=126:=by simp[vis]
theorem dgt_iff(c:Int):dgt c=true↔48<=c/\c<=57:=by simp[dgt]
theorem ret_bool{a b:Bool}(h:a=b):Ending.returned (.bool a)=.returned (.bool b):=by rw[h]
theorem vis_any(c:Int)(w:World):Calls Tryz.prog 168 #[.int .u8 c] w fun e w'=>e=.returned (.bool (vis c))/\w'=w:=by
 go_enter Tryz.func168,Tryz.ntmps168
 go_wp2
 all_goals
  go_ret
  exact ⟨ret_bool (by simp[vis];try omega),rfl⟩
theorem dgt_any(c:Int)(w:World):Calls Tryz.prog 169 #[.int .u8 c] w fun e w'=>e=.returned (.bool (dgt c))/\w'=w:=by
 go_enter Tryz.func169,Tryz.ntmps169
 go_wp2
 all_goals
  go_ret
  exact ⟨ret_bool (by simp[dgt];try omega),rfl⟩
def v2(a b:Int):Int:=10*(a - 48)+(b - 48)
def v3(a b c:Int):Int:=100*(a - 48)+10*(b - 48)+(c - 48)
def num3(l:List Int):Int × Int:=
 if l.length<4 then (0,0)
 else if dgt (l.getD 1 0) && dgt (l.getD 2 0) && dgt (l.getD 3 0) && decide (v3 (l.getD 1 0) (l.getD 2 0) (l.getD 3 0)<=255) then (v3 (l.getD 1 0) (l.getD 2 0) (l.getD 3 0),4)
 else (0,0)
def esc(l:List Int):Int × Int:=
 if l.length<=1 then (0,0)
 else if dgt (l.getD 1 0) then num3 l
 else if vis (l.getD 1 0) then (l.getD 1 0,2) else (0,0)
def fr(l:List Int):Int × Int:=
 if !vis (l.getD 0 0) then (0,0)
 else if l.getD 0 0 == 92 then esc l
 else (l.getD 0 0,1)
def num3c(a b c:Int):Int × Int:=if dgt a && dgt b && dgt c && decide (v3 a b c<=255) then (v3 a b c,4) else (0,0)
theorem num3_any(t:ByteArray)(w:World)(ht:t.size<=9223372036854775807) :
  Calls Tryz.prog 170 #[.string t] w fun e w'=>e=.returned (.tuple #[.int .u8 (num3 (nums t)).1,.int .i64 (num3 (nums t)).2])/\w'=w:=by
 by_cases h4:t.size<4
 ·have h4':(t.size:Int)<4:=by omega
  have e:num3 (nums t)=(0,0):=by unfold num3;rw[if_pos (by rw[nums_len];exact h4)]
  go_enter Tryz.func170,Tryz.ntmps170
  go_wp2
  go_ret2
  exact ⟨by rw[e];rfl,rfl⟩
 ·have h4':¬ (t.size:Int)<4:=by omega
  have i1:1<t.size:=by omega
  have i2:2<t.size:=by omega
  have i3:3<t.size:=by omega
  have HE:Hid (num3 (nums t)=num3c (t[1].toNat:Int) (t[2].toNat:Int) (t[3].toNat:Int)):=by
   show num3 (nums t)=_
   unfold num3 num3c
   rw[if_neg (by rw[nums_len];exact h4),nums_at t 1 i1,nums_at t 2 i2,nums_at t 3 i3]
  have b1:=t[1].toNat_lt
  have b2:=t[2].toNat_lt
  have b3:=t[3].toNat_lt
  go_enter Tryz.func170,Tryz.ntmps170
  go_wp2_with fail
  go_loop [4,10] (fun n x=>(n=.int .i64 0/\x=.int .i64 0)∨(n=.int .i64 ((t[1].toNat:Int) - 48)/\x=.int .i64 1/\dgt (t[1].toNat:Int)=true)∨(n=.int .i64 (v2 (t[1].toNat:Int) (t[2].toNat:Int))/\x=.int .i64 2/\dgt (t[1].toNat:Int)=true/\dgt (t[2].toNat:Int)=true)∨(n=.int .i64 (v3 (t[1].toNat:Int) (t[2].toNat:Int) (t[3].toNat:Int))/\x=.int .i64 3/\dgt (t[1].toNat:Int)=true/\dgt (t[2].toNat:Int)=true/\dgt (t[3].toNat:Int)=true)) (fun _ x=>3 - (intOf x).toNat)
  case atStart=>exact .inl ⟨rfl,rfl⟩
  case round=>
   rcases hrel with ⟨rfl,rfl⟩|⟨rfl,rfl,d1⟩|⟨rfl,rfl,d1,d2⟩|⟨rfl,rfl,d1,d2,d3⟩
   ·go_wp2_with fail
    refine (dgt_any _ _).mono ?_
    rintro e w1 ⟨rfl,rfl⟩
    by_cases d:dgt (t[1].toNat:Int)=true
    ·have d':=(dgt_iff _).1 d
     go_wp2
     exact ⟨.inr (.inl ⟨rfl,rfl,d⟩),by decide⟩
    ·have d':dgt (t[1].toNat:Int)=false:=by simpa using d
     go_wp2
     go_ret2
     have e:num3c (t[1].toNat:Int) (t[2].toNat:Int) (t[3].toNat:Int)=(0,0):=by unfold num3c;rw[d'];rfl
     exact ⟨by rw[HE.out,e];rfl,rfl⟩
   ·have e1:=(dgt_iff _).1 d1
    go_wp2_with fail
    refine (dgt_any _ _).mono ?_
    rintro e w1 ⟨rfl,rfl⟩
    by_cases d:dgt (t[2].toNat:Int)=true
    ·have d':=(dgt_iff _).1 d
     go_wp2
     exact ⟨.inr (.inr (.inl ⟨congrArg _ (by unfold v2;omega),rfl,d1,d⟩)),by decide⟩
    ·have d':dgt (t[2].toNat:Int)=false:=by simpa using d
     go_wp2
     go_ret2
     have e:num3c (t[1].toNat:Int) (t[2].toNat:Int) (t[3].toNat:Int)=(0,0):=by unfold num3c;rw[d1,d'];rfl
     exact ⟨by rw[HE.out,e];rfl,rfl⟩
   ·have e1:=(dgt_iff _).1 d1
    have e2:=(dgt_iff _).1 d2
    have HV:Hid (v3 (t[1].toNat:Int) (t[2].toNat:Int) (t[3].toNat:Int)=(10:Int)*v2 (t[1].toNat:Int) (t[2].toNat:Int)+((t[3].toNat:Int) - 48)):=by show _=_;unfold v3 v2;omega
    have hv:(0:Int)<=v2 (t[1].toNat:Int) (t[2].toNat:Int)/\v2 (t[1].toNat:Int) (t[2].toNat:Int)<=99:=by unfold v2;omega
    go_wp2_with fail
    refine (dgt_any _ _).mono ?_
    rintro e w1 ⟨rfl,rfl⟩
    by_cases d:dgt (t[3].toNat:Int)=true
    ·have d':=(dgt_iff _).1 d
     go_wp2
     exact ⟨.inr (.inr (.inr ⟨congrArg _ (by rw[HV.out]),rfl,d1,d2,d⟩)),by decide⟩
    ·have d':dgt (t[3].toNat:Int)=false:=by simpa using d
     go_wp2
     go_ret2
     have e:num3c (t[1].toNat:Int) (t[2].toNat:Int) (t[3].toNat:Int)=(0,0):=by unfold num3c;rw[d1,d2,d'];rfl
     exact ⟨by rw[HE.out,e];rfl,rfl⟩
   ·have e1:=(dgt_iff _).1 d1
    have e2:=(dgt_iff _).1 d2
    have e3:=(dgt_iff _).1 d3
    have hv:(0:Int)<=v3 (t[1].toNat:Int) (t[2].toNat:Int) (t[3].toNat:Int)/\v3 (t[1].toNat:Int) (t[2].toNat:Int) (t[3].toNat:Int)<=999:=by unfold v3;omega
    have HC:Hid (num3c (t[1].toNat:Int) (t[2].toNat:Int) (t[3].toNat:Int)=if decide (v3 (t[1].toNat:Int) (t[2].toNat:Int) (t[3].toNat:Int)<=255) then (v3 (t[1].toNat:Int) (t[2].toNat:Int) (t[3].toNat:Int),4) else (0,0)):=by show _=_;unfold num3c;rw[d1,d2,d3];rfl
    generalize v3 (t[1].toNat:Int) (t[2].toNat:Int) (t[3].toNat:Int)=z at*
    by_cases h:255<z
    ·go_wp2
     go_ret2
     exact ⟨by rw[HE.out,HC.out,if_neg (by simp;omega)];rfl,rfl⟩
    ·have hz:z % 256=z:=by omega
     go_wp2
     go_ret2
     exact ⟨by rw[HE.out,HC.out,if_pos (by simp;omega)];rfl,rfl⟩
theorem fr_any(t:ByteArray)(w:World)(h1:1<=t.size)(ht:t.size<=9223372036854775807) :
  Calls Tryz.prog 133 #[.string t] w fun e w'=>e=.returned (.tuple #[.int .u8 (fr (nums t)).1,.int .i64 (fr (nums t)).2])/\w'=w:=by
 have i0:0<t.size:=by omega
 have HE:Hid (fr (nums t)=if !vis (t[0].toNat:Int) then (0,0) else if (t[0].toNat:Int) == 92 then esc (nums t) else ((t[0].toNat:Int),1)):=by
  show fr (nums t)=_
  unfold fr
  rw[nums_at t 0 i0]
 have h1':(1:Int)<=(t.size:Int):=by omega
 go_enter Tryz.func133,Tryz.ntmps133
 go_wp2_with fail
 refine (vis_any _ _).mono ?_
 rintro e w1 ⟨rfl,rfl⟩
 by_cases hv:vis (t[0].toNat:Int)=true
 ·by_cases h92:(t[0].toNat:Int)=92
  ·have HF:Hid (fr (nums t)=esc (nums t)):=by
    show _=_
    rw[HE.out,hv,h92];rfl
   clear HE
   by_cases h2:1<t.size
   ·have h2':(1:Int)<(t.size:Int):=by omega
    have HG:Hid (esc (nums t)=if dgt (t[1].toNat:Int) then num3 (nums t) else if vis (t[1].toNat:Int) then ((t[1].toNat:Int),2) else (0,0)):=by
     show esc (nums t)=_
     unfold esc
     rw[if_neg (by rw[nums_len];omega),nums_at t 1 h2]
    go_wp2_with fail
    refine (dgt_any _ _).mono ?_
    rintro e w2 ⟨rfl,rfl⟩
    by_cases hd:dgt (t[1].toNat:Int)=true
    ·have HN:Hid (esc (nums t)=num3 (nums t)):=by show _=_;rw[HG.out,hd];rfl
     go_wp2_with fail
     refine (num3_any t _ ht).mono ?_
     rintro e w3 ⟨rfl,rfl⟩
     go_wp2
     go_ret2
     exact ⟨by rw[HF.out,HN.out];rfl,rfl⟩
    ·have hd':dgt (t[1].toNat:Int)=false:=by simpa using hd
     clear hd
     go_wp2_with fail
     refine (vis_any _ _).mono ?_
     rintro e w3 ⟨rfl,rfl⟩
     by_cases hv1:vis (t[1].toNat:Int)=true
     ·have HN:Hid (esc (nums t)=((t[1].toNat:Int),2)):=by show _=_;rw[HG.out,hd',hv1];rfl
      go_wp2
      go_ret2
      exact ⟨by rw[HF.out,HN.out];rfl,rfl⟩
     ·have hv1':vis (t[1].toNat:Int)=false:=by simpa using hv1
      have HN:Hid (esc (nums t)=(0,0)):=by show _=_;rw[HG.out,hd',hv1'];rfl
      clear hv1
      go_wp2
      go_ret2
      exact ⟨by rw[HF.out,HN.out];rfl,rfl⟩
   ·have h2':¬ (1:Int)<(t.size:Int):=by omega
    have HN:Hid (esc (nums t)=(0,0)):=by show _=_;unfold esc;rw[if_pos (by rw[nums_len];omega)]
    go_wp2
    go_ret2
    exact ⟨by rw[HF.out,HN.out];rfl,rfl⟩
  ·have HF:Hid (fr (nums t)=((t[0].toNat:Int),1)):=by
    show _=_
    rw[HE.out,hv,beq_false_of_ne h92];rfl
   have hb:((t[0].toNat:Int) != 92)=true:=bne_iff_ne.2 h92
   clear HE h92
   go_wp2
   go_ret2
   exact ⟨by rw[HF.out];rfl,rfl⟩
 ·have hv':vis (t[0].toNat:Int)=false:=by simpa using hv
  have HF:Hid (fr (nums t)=(0,0)):=by show _=_;rw[HE.out,hv'];rfl
  clear HE hv
  go_wp2
  go_ret2
  exact ⟨by rw[HF.out];rfl,rfl⟩
def BB(w:World)(b:Nat)(p v:Value):Prop:=w.heap[b]?=some (.cells #[p,v] 65 (0,0))
theorem BB.lt{w:World}{b:Nat}{p v:Value}(h:BB w b p v):b<w.heap.size:=(Array.getElem?_eq_some_iff.1 h).1
theorem BB.c0{w:World}{b:Nat}{p v:Value}(h:BB w b p v):w.cell? ⟨b,0,none⟩=some p:=by
 have h':w.heap[b]?=_:=h
 simp[World.cell?,h']
theorem BB.c1{w:World}{b:Nat}{p v:Value}(h:BB w b p v):w.cell? ⟨b,1,none⟩=some v:=by
 have h':w.heap[b]?=_:=h
 simp[World.cell?,h']
theorem BB.fz{w:World}{b:Nat}{p v:Value}(h:BB w b p v)(i:Nat):w.frozen? ⟨b,i,none⟩=false:=by
 have h':w.heap[b]?=_:=h
 simp[World.frozen?,h']
theorem BB.sh{w:World}{b:Nat}{p v:Value}(h:BB w b p v):w.shape? b=some (65,2):=by
 have h':w.heap[b]?=_:=h
 simp[World.shape?,h']
theorem BB.same{w w':World}{b:Nat}{p v:Value}(h:BB w b p v)(hb:w'.heap[b]?=w.heap[b]?):BB w' b p v:=hb.trans h
theorem call136(x:Value)(w:World):(callFunc 136 #[x]).run Tryz.prog w=.ok (.value x) w:=by
 rw[run_callFunc_extern (e:=Extern.AbiNoEscape.same) Tryz.func136 (by kernel_rfl) (by kernel_rfl) (by kernel_rfl) (by kernel_rfl) _ w]
 rfl
theorem neq_bld(a:Addr)(w:World):(binOp .neq 63 (.pointer (some a)) (.pointer (some a))).run Tryz.prog w=.ok (.bool false) w:=by
 obtain ⟨j,hi⟩:∃j,Tryz.prog.info? 65=some j:=Option.isSome_iff_exists.1 (by kernel_rfl)
 exact Lib.run_neq_ptr_same w a Tryz.underlying63 hi
theorem to_unsafe(w:World)(b:Nat)(h:w.shape? b=some (65,2)):(convert 63 175 (.pointer (some ⟨b,0,none⟩))).run Tryz.prog w=.ok (.pointer (some ⟨b,0,none⟩)) w:=by
 obtain ⟨j,hi⟩:∃j,Tryz.prog.info? 65=some j:=Option.isSome_iff_exists.1 (by kernel_rfl)
 have hz:(Tryz.prog.info? 65).map (·.size)=some 2:=by kernel_rfl
 rw[hi] at hz
 have hj:j.size=2:=by simpa using hz
 exact Lib.run_to_unsafe w ⟨b,0,none⟩ Tryz.underlying63 Tryz.underlying175 hi (by omega) h (by simp)
theorem from_unsafe(w:World)(b:Nat)(h:w.shape? b=some (65,2)):(convert 175 63 (.pointer (some ⟨b,0,none⟩))).run Tryz.prog w=.ok (.pointer (some ⟨b,0,none⟩)) w:=by
 obtain ⟨j,hi⟩:∃j,Tryz.prog.info? 65=some j:=Option.isSome_iff_exists.1 (by kernel_rfl)
 exact Lib.run_from_unsafe w ⟨b,0,none⟩ Tryz.underlying175 Tryz.underlying63 hi h (by kernel_rfl)
theorem check_fresh(b:Nat)(v:Value)(w:World)(h:BB w b (.pointer none) v) :
  Calls Tryz.prog 93 #[.pointer (some ⟨b,0,none⟩)] w fun e w'=>e=.returned (.tuple #[])/\w'=w.setCell ⟨b,0,none⟩ (.pointer (some ⟨b,0,none⟩)):=by
 have c0:=h.c0
 have f0:=h.fz 0
 have h1:=call136
 have h2:=to_unsafe w b h.sh
 have h3:=from_unsafe w b h.sh
 have h4:=neq_bld ⟨b,0,none⟩
 clear h
 go_enter Tryz.func93,Tryz.ntmps93
 go_wp2
 go_end0
 exact ⟨rfl,rfl⟩
theorem check_used(b:Nat)(v:Value)(w:World)(h:BB w b (.pointer (some ⟨b,0,none⟩)) v) :
  Calls Tryz.prog 93 #[.pointer (some ⟨b,0,none⟩)] w fun e w'=>e=.returned (.tuple #[])/\w'=w:=by
 have c0:=h.c0
 have h4:=neq_bld ⟨b,0,none⟩
 clear h
 go_enter Tryz.func93,Tryz.ntmps93
 go_wp2
 go_end0
 exact ⟨rfl,rfl⟩
theorem below_row{B:Nat}{w0 w w':World}{b:Nat}(hb:Below B w0 w)(hlt:b<w.heap.size)(hg:w.grownBy w' (some b))(hB:B<=b):Below B w0 w':=
 hb.grown hg (by omega) (fun k e=>by have:=Option.some.inj e;omega)
def BSt(B:Nat)(w:World)(b N:Nat)(bs:List Value):Prop:=
 (N=0/\bs=[]/\BB w b (.pointer (some ⟨b,0,none⟩)) (.slice none 0 0)) ∨
 ∃g c,BB w b (.pointer (some ⟨b,0,none⟩)) (.slice (some ⟨g,0,none⟩) bs.length c)/\w.ownsRow B 5 1 (.slice (some ⟨g,0,none⟩) bs.length c) bs.length bs/\N<=c/\g≠b/\g<w.heap.size/\0<c
theorem bwrite(B b N:Nat)(bs:List Value)(z:Int)(w:World)(h:BSt B w b N bs)(hN:bs.length+1<=N)(hB:B<=b) :
  Calls Tryz.prog 95 #[.pointer (some ⟨b,0,none⟩),.int .u8 z] w fun e w'=>e=.returned .nilIface/\Hid (BSt B w' b N (bs++[.int .u8 z])/\Below B w w'):=by
 rcases h with ⟨h0,_⟩|⟨g,c,h1,h2,h3,h4,h5,h6⟩
 ·omega
 have HB:Hid (BB w b (.pointer (some ⟨b,0,none⟩)) (.slice (some ⟨g,0,none⟩) bs.length c)/\w.ownsRow B 5 1 (.slice (some ⟨g,0,none⟩) bs.length c) bs.length bs):=⟨h1,h2⟩
 have c1:=h1.c1
 have hlt:=h1.lt
 have f1:=h1.fz 1
 clear h1 h2
 go_enter Tryz.func95,Tryz.ntmps95
 go_wp2_with fail
 refine (check_used b _ _ HB.out.1).mono ?_
 rintro e w1 ⟨rfl,rfl⟩
 obtain ⟨i5,hi,hz0,hz1,hz2⟩:=info_parts Tryz.info5
 have HI:Hid (Tryz.prog.info? 5=some i5/\i5.size=1):=⟨hi,hz1⟩
 clear hi hz0 hz1 hz2
 have HO:Hid ((w1.alloc (.cells #[.int .u8 z] 5)).ownsRow B 5 1 (.slice (some ⟨g,0,none⟩) bs.length c) bs.length bs):=HB.out.2.alloc _
 have HC:Hid (∀j u,([.int .u8 z]:List Value)[j]?=some u->(w1.alloc (.cells #[.int .u8 z] 5)).cell? ((⟨w1.heap.size,0,none⟩:Addr).add j)=some u):=by
  intro j u hu
  have hj:j=0:=by have:=(List.getElem?_eq_some_iff.1 hu).1;simp at this;omega
  subst hj
  simp at hu
  subst hu
  simp[go_sem,Addr.add]
 go_wp2_with (at_builtin;refine wpList_append_fits _ rfl _ _ 39 rfl B 5 i5 1 Tryz.underlying39 HI.out.1 HI.out.2 g bs.length c bs rfl HO.out ⟨w1.heap.size,0,none⟩ 1 1 [.int .u8 z] rfl rfl HC.out (by intro u hu;simp at hu;subst hu;rfl) (by omega) ?_;intro w2 hown2 hgr2;have hbk:Hid (w2.heap[b]?=w1.heap[b]?):=(hgr2.block b (by simp;omega) (fun e=>h4 (Option.some.inj e).symm)).trans (Below.heap_alloc _ _ b hlt);have d1:=(HB.out.1.same hbk.out).c1;have d2:=(HB.out.1.same hbk.out).fz 1;have HG2:Hid ((w1.alloc (.cells #[.int .u8 z] 5)).grownBy w2 (some g)/\w2.ownsRow B 5 1 (.slice (some ⟨g,0,none⟩) (bs.length+1) c) (bs.length+1) (bs++[.int .u8 z])):=⟨hgr2,hown2⟩;clear hown2 hgr2)
 go_ret
 have hBg:B<=g:=(HB.out.2.lt g rfl).1
 have hgs:g<w2.heap.size:=(HG2.out.2.lt g rfl).2
 have hb2:=HB.out.1.same hbk.out
 have hbel:Below B w1 w2:=((Below.refl B w1).alloc (by omega) _).grown HG2.out.1 (by simp;omega) (fun k e=>by have:=Option.some.inj e;omega)
 refine ⟨rfl,.inr ⟨g,c,?_,?_,h3,h4,by simpa [World.setCell] using hgs,h6⟩,hbel.setCell hB _⟩
 ·have:=heap_set hb2 1 (.slice (some ⟨g,0,none⟩) (bs.length+1) c)
  simpa [BB] using this
 ·have:=HG2.out.2.kept (w':=w2.setCell ⟨b,1,none⟩ (.slice (some ⟨g,0,none⟩) (bs.length+1) c)) (row:=some b) ⟨rfl,rfl,rfl,by simp[World.setCell],fun k _ hk=>Below.heap_setCell _ _ _ _ (fun e=>hk (by simp[e]))⟩ (.inr (fun e=>h4 (Option.some.inj e)))
  simpa using this
theorem freeze_other(w:World)(g n b:Nat)(h:g≠b):(w.freeze ⟨g,0,none⟩ n).heap[b]?=w.heap[b]?:=by
 unfold World.freeze
 split
 ·rfl
 ·simp[Array.getElem?_modify,h]
theorem bstring(B b N:Nat)(l:List UInt8)(w:World)(h:BSt B w b N (Lib.byteCells l))(hN:l.length=N)(hl:l.length<=9223372036854775807) :
  Calls Tryz.prog 31 #[.pointer (some ⟨b,0,none⟩)] w fun e w'=>e=.returned (.string ⟨l.toArray⟩)/\Hid (Below B w w'):=by
 rcases h with ⟨h0,h1,h2⟩|⟨g,c,h1,h2,h3,h4,h5,h6⟩
 ·have hl0:l=[]:=List.eq_nil_of_length_eq_zero (by omega)
  subst hl0
  have c1:=h2.c1
  have hlt:=h2.lt
  have s1:∀(W:World) (ts:Array TypeId) (ty:TypeId),(Builtin.unsafeSliceData_ ts ty #[.slice none 0 0]).run Tryz.prog W=.ok (.pointer none) W:=fun W ts ty=>Lib.run_unsafeSliceData_nil W ts ty 0 0
  have s2:∀(W:World) (ty:TypeId),(Builtin.unsafeString_ #[106,3] ty #[.pointer none,.int .i64 0]).run Tryz.prog W=.ok (.string .empty) W:=fun W ty=>Lib.run_unsafeString_none W 106 3 ty none
  clear h1 h2
  go_enter Tryz.func31,Tryz.ntmps31
  go_wp2_with fail
  go_region_held3 (fun W=>W.cell? ⟨b,1,none⟩=some (.slice none 0 0)) (go_keep) (fail)
  go_wp2
  go_ret
  exact ⟨rfl,(Below.refl _ _).drew⟩
 ·rw[Lib.byteCells_length] at h1 h2
  have c1:=h1.c1
  have hlt:=h1.lt
  have s1:∀(W:World) (ts:Array TypeId) (ty:TypeId),(Builtin.unsafeSliceData_ ts ty #[.slice (some ⟨g,0,none⟩) l.length c]).run Tryz.prog W=.ok (.pointer (some ⟨g,0,none⟩)) W:=fun W ts ty=>Lib.run_unsafeSliceData_row W ts ty _ _ _ (by omega)
  by_cases h0:l=[]
  ·subst h0
   have s2:∀(W:World) (ty:TypeId),(Builtin.unsafeString_ #[106,3] ty #[.pointer (some ⟨g,0,none⟩),.int .i64 0]).run Tryz.prog W=.ok (.string .empty) W:=fun W ty=>Lib.run_unsafeString_none W 106 3 ty _
   clear h1 h2 hN
   simp only[List.length_nil] at c1 s1
   go_enter Tryz.func31,Tryz.ntmps31
   go_wp2_with fail
   go_region_held3 (fun W=>W.cell? ⟨b,1,none⟩=some (.slice (some ⟨g,0,none⟩) 0 c)) (go_keep) (fail)
   go_wp2
   go_ret
   exact ⟨rfl,(Below.refl _ _).drew⟩
  ·have hBg:=(h2.lt g rfl).1
   have s2:∀ty:TypeId,(Builtin.unsafeString_ #[106,3] ty #[.pointer (some ⟨g,0,none⟩),.int .i64 l.length]).run Tryz.prog w.drew=.ok (.string ⟨l.toArray⟩) (w.drew.freeze ⟨g,0,none⟩ l.length):=by
    intro ty
    have hsh:w.drew.shape? g=some (5,c):=by
     rcases h2.2 with ⟨e,_⟩|⟨g',cap,cur,e,_,hg,_,_,hs,_⟩
     ·cases e
     ·have e1:g=g':=by injection e with e1 _ _;injection e1 with e1;injection e1
      have e2:c=cap:=by injection e
      subst e1;subst e2
      have hg':w.drew.heap[g]?=some (.cells cur 5 (0,0)):=hg
      simp[World.shape?,hg',hs]
    exact Lib.run_unsafeString_row w.drew 106 3 ty 5 Tryz.underlying106 (by kernel_rfl) g c hsh l h0 (by omega) hl (fun j x hx=>by
     have:=h2.cells (g:=g) rfl j (.int .u8 x.toNat) (by simp[Lib.byteCells,hx])
     exact this)
   have HF:Hid (Below B w (w.drew.freeze ⟨g,0,none⟩ l.length)):=Lib.below_freeze (Below.refl _ _).drew hBg _
   have hfc:(w.drew.freeze ⟨g,0,none⟩ l.length).cell? ⟨b,1,none⟩=some (.slice (some ⟨g,0,none⟩) l.length c):=(World.cell?_of_block (w:=w) (a:=⟨b,1,none⟩) (freeze_other w.drew g l.length b h4)).trans c1
   clear h1 h2 hN
   generalize hll:l.length=ll at*
   clear hll
   go_enter Tryz.func31,Tryz.ntmps31
   go_wp2_with fail
   go_region_held3 (fun W=>W.cell? ⟨b,1,none⟩=some (.slice (some ⟨g,0,none⟩) ll c)) (go_keep) (fail)
   go_wp2
   go_ret
   exact ⟨rfl,HF.out⟩
def GU(B:Nat)(w:World)(b:Nat)(bs:List Value):Prop:=
 ∃v,BB w b (.pointer (some ⟨b,0,none⟩)) v/\w.ownsRow B 5 1 v bs.length bs/\v.ownBlock≠some b
def GS(B:Nat)(w:World)(b:Nat)(bs:List Value):Prop:=
 (BB w b (.pointer none) (.slice none 0 0)/\bs=[])∨(GU B w b bs/\bs≠[])
theorem GS.fresh(w:World):GS w.heap.size (w.alloc (.cells #[.pointer none,.slice none 0 0] 65)) w.heap.size []:=
 .inl ⟨heap_alloc_new _ _,rfl⟩
theorem row_shape{B:Nat}{w:World}{e z:Nat}{v:Value}{n:Nat}{bs:List Value}(h:w.ownsRow B e z v n bs):∃ao c,v=.slice ao n c:=by
 rcases h.2 with ⟨rfl,rfl⟩|⟨g,cap,cur,rfl,_⟩
 ·exact ⟨none,0,rfl⟩
 ·exact ⟨_,_,rfl⟩
theorem row_set{B:Nat}{w:World}{b:Nat}{v:Value}{n:Nat}{bs:List Value}(h:w.ownsRow B 5 1 v n bs)(hne:v.ownBlock≠some b)(i:Nat)(x:Value):(w.setCell ⟨b,i,none⟩ x).ownsRow B 5 1 v n bs:=
 h.kept (row:=some b) ⟨rfl,rfl,rfl,by simp[World.setCell],fun k _ hk=>Below.heap_setCell _ _ _ _ (fun e=>hk (by simp[e]))⟩ (.inr hne)
theorem bcheck_any(B b:Nat)(bs:List Value)(w:World)(h:GS B w b bs)(hB:B<=b) :
  Calls Tryz.prog 93 #[.pointer (some ⟨b,0,none⟩)] w fun e w'=>e=.returned (.tuple #[])/\Hid (GU B w' b bs/\Below B w w'):=by
 rcases h with ⟨h1,rfl⟩|⟨⟨v,h1,h3,h4⟩,_⟩
 ·refine (check_fresh b _ w h1).mono ?_
  rintro e w' ⟨rfl,rfl⟩
  refine ⟨rfl,⟨.slice none 0 0,?_,World.ownsRow_nil _ _ _ _,by simp[Value.ownBlock]⟩,(Below.refl _ _).setCell hB _⟩
  have:=heap_set h1 0 (.pointer (some ⟨b,0,none⟩))
  simpa [BB] using this
 ·refine (check_used b v w h1).mono ?_
  rintro e w' ⟨rfl,rfl⟩
  exact ⟨rfl,⟨v,h1,h3,h4⟩,Below.refl _ _⟩
theorem wbyte(B b:Nat)(bs:List Value)(z:Int)(w:World)(h:GS B w b bs)(hB:B<=b)(hl:bs.length+1<=140737488355328) :
  Calls Tryz.prog 95 #[.pointer (some ⟨b,0,none⟩),.int .u8 z] w fun e w'=>e=.returned .nilIface/\Hid (GS B w' b (bs++[.int .u8 z])/\Below B w w'):=by
 have HG:Hid (GS B w b bs):=h
 clear h
 go_enter Tryz.func95,Tryz.ntmps95
 go_wp2_with fail
 refine (bcheck_any B b bs _ HG.out hB).mono ?_
 rintro e w1 ⟨rfl,H1⟩
 obtain ⟨v,h1,h2,h4⟩:=H1.out.1
 have HB1:Hid (Below B w w1):=H1.out.2
 have HB:Hid (BB w1 b (.pointer (some ⟨b,0,none⟩)) v/\w1.ownsRow B 5 1 v bs.length bs):=⟨h1,h2⟩
 have c1:=h1.c1
 have hlt:=h1.lt
 clear h1 h2 H1 HG
 obtain ⟨i5,hi,hz0,hz1,hz2⟩:=info_parts Tryz.info5
 have HI:Hid (Tryz.prog.info? 5=some i5/\i5.zero=some (.int .u8 0)/\i5.size=1/\i5.bytes=1):=⟨hi,hz0,hz1,hz2⟩
 clear hi hz0 hz1 hz2
 have HO:Hid ((w1.alloc (.cells #[.int .u8 z] 5)).ownsRow B 5 1 v bs.length bs):=HB.out.2.alloc _
 have HC:Hid (∀j u,([.int .u8 z]:List Value)[j]?=some u->(w1.alloc (.cells #[.int .u8 z] 5)).cell? ((⟨w1.heap.size,0,none⟩:Addr).add j)=some u):=by
  intro j u hu
  have hj:j=0:=by have:=(List.getElem?_eq_some_iff.1 hu).1;simp at this;omega
  subst hj
  simp at hu
  subst hu
  simp[go_sem,Addr.add]
 go_wp2_with (at_builtin;refine wpList_append_own _ rfl _ _ 39 rfl B 5 i5 (.int .u8 0) 1 1 Tryz.underlying39 HI.out.1 HI.out.2.1 HI.out.2.2.1 HI.out.2.2.2 rfl (by decide) v bs.length bs rfl HO.out ⟨w1.heap.size,0,none⟩ 1 1 [.int .u8 z] rfl rfl HC.out (by intro u hu;simp at hu;subst hu;rfl) (by simp only[maxLen];omega) (by omega) (by simp;omega) ?_;intro v' w2 hown2 hgr2 hnil;obtain ⟨ao,cc,rfl⟩:=row_shape hown2;have hbk:Hid (w2.heap[b]?=w1.heap[b]?):=(hgr2.block b (by simp;omega) (fun e=>h4 e.symm)).trans (Below.heap_alloc _ _ b hlt);have d1:=(HB.out.1.same hbk.out).c1;have d2:=(HB.out.1.same hbk.out).fz 1;have HG2:Hid ((w1.alloc (.cells #[.int .u8 z] 5)).grownBy w2 v.ownBlock/\w2.ownsRow B 5 1 (.slice ao (bs.length+1) cc) (bs.length+1) (bs++[.int .u8 z])):=⟨hgr2,hown2⟩;clear hown2 hgr2 hnil)
 go_ret
 have hb2:=HB.out.1.same hbk.out
 have hrow:∀g,v.ownBlock=some g->B<=g:=fun g hg=>(HB.out.2.lt g hg).1
 have hbel:Below B w1 w2:=((Below.refl B w1).alloc (by omega) _).grown HG2.out.1 (by simp;omega) hrow
 have hne:(Value.slice ao (bs.length+1) cc).ownBlock≠some b:=by
  intro e
  obtain ⟨_,hc|⟨g,cap,cur,hv,_,hg,_⟩⟩:=HG2.out.2
  ·rw[hc.1] at e;simp[Value.ownBlock] at e
  ·rw[hv] at e
   have e2:g=b:=by simpa [Value.ownBlock] using e
   rw[e2] at hg
   have hb3:w2.heap[b]?=_:=hb2
   rw[hb3] at hg
   injection hg with hg
   injection hg with _ hg _
   exact absurd hg (by decide)
 refine ⟨rfl,.inr ⟨⟨.slice ao (bs.length+1) cc,?_,?_,hne⟩,by simp⟩,HB1.out.trans (hbel.setCell hB _)⟩
 ·have:=heap_set hb2 1 (.slice ao (bs.length+1) cc)
  simpa [BB] using this
 ·have:=row_set HG2.out.2 hne 1 (.slice ao (bs.length+1) cc)
  simpa using this
theorem wstring(B b:Nat)(l:List UInt8)(w:World)(h:GS B w b (Lib.byteCells l))(hl:l.length<=9223372036854775807) :
  Calls Tryz.prog 31 #[.pointer (some ⟨b,0,none⟩)] w fun e w'=>e=.returned (.string ⟨l.toArray⟩)/\Hid (Below B w w'):=by
 rcases h with ⟨h1,h0⟩|⟨⟨v,h1,h2,h4⟩,hne⟩
 ·have hl0:l=[]:=by
   have:=congrArg List.length h0
   rw[Lib.byteCells_length] at this
   exact List.eq_nil_of_length_eq_zero this
  subst hl0
  have c1:=h1.c1
  have s1:∀(W:World) (ts:Array TypeId) (ty:TypeId),(Builtin.unsafeSliceData_ ts ty #[.slice none 0 0]).run Tryz.prog W=.ok (.pointer none) W:=fun W ts ty=>Lib.run_unsafeSliceData_nil W ts ty 0 0
  have s2:∀(W:World) (ty:TypeId),(Builtin.unsafeString_ #[106,3] ty #[.pointer none,.int .i64 0]).run Tryz.prog W=.ok (.string .empty) W:=fun W ty=>Lib.run_unsafeString_none W 106 3 ty none
  clear h1 h0
  go_enter Tryz.func31,Tryz.ntmps31
  go_wp2_with fail
  go_region_held3 (fun W=>W.cell? ⟨b,1,none⟩=some (.slice none 0 0)) (go_keep) (fail)
  go_wp2
  go_ret
  exact ⟨rfl,(Below.refl _ _).drew⟩
 ·refine bstring B b l.length l w (.inr ?_) rfl hl
  have hlen:=Lib.byteCells_length l
  have hpos:0<(Lib.byteCells l).length:=List.length_pos_iff.2 hne
  rcases h2.2 with ⟨_,h0⟩|⟨g,cap,cur,rfl,hBg,hg,hn,hm,hs,hx⟩
  ·omega
  ·exact ⟨g,cap,h1,h2,by omega,fun e=>h4 (by rw[e];rfl),(h2.lt g rfl).2,by omega⟩
def spc(c:Int):Bool:=c == 46 || c == 92 || c == 34 || c == 59 || c == 40 || c == 41 || c == 64 || c == 36
def wst(c:Int):Int:=if c<33∨126<c then 2 else if spc c then 1 else 0
def tx1(c:Int):List Int:=if c<33∨126<c then [92,48+c / 100,48+c / 10 % 10,48+c % 10] else if spc c then [92,c] else [c]
def tx(l:List Int):List Int:=l.flatMap tx1
theorem tx_snoc(l:List Int)(c:Int):tx (l++[c])=tx l++tx1 c:=by simp[tx]
theorem tx1_len(c:Int):(tx1 c).length<=4/\1<=(tx1 c).length:=by unfold tx1;split <;> (try split) <;> simp
theorem tx_len(l:List Int):(tx l).length<=4*l.length:=by
 induction l with
 |nil=>simp[tx]
 |cons c l ih=>
  have:=tx1_len c
  simp only[tx,List.flatMap_cons,List.length_append,List.length_cons] at ih ⊢
  omega
theorem tx1_bd(c:Int)(h:0<=c/\c<=255):∀z∈tx1 c,0<=z/\z<=255:=by
 intro z hz
 unfold tx1 at hz
 split at hz
 ·simp only[List.mem_cons,List.mem_nil_iff,or_false] at hz
  omega
 ·split at hz
  ·simp only[List.mem_cons,List.mem_nil_iff,or_false] at hz
   omega
  ·simp only[List.mem_cons,List.mem_nil_iff,or_false] at hz
   omega
theorem tx_bd(l:List Int)(h:∀z∈l,0<=z/\z<=255):∀z∈tx l,0<=z/\z<=255:=by
 intro z hz
 simp only[tx,List.mem_flatMap] at hz
 obtain ⟨c,hc,hz⟩:=hz
 exact tx1_bd c (h c hc) z hz
theorem spc_cases(c:Int):(c=46∨c=92∨c=34∨c=59∨c=40∨c=41∨c=64∨c=36)∨(spc c=false/\(c == 46)=false/\(c == 92)=false/\(c == 34)=false/\(c == 59)=false/\(c == 40)=false/\(c == 41)=false/\(c == 64)=false/\(c == 36)=false/\(c<40∨41<c)):=by
 by_cases h:c=46∨c=92∨c=34∨c=59∨c=40∨c=41∨c=64∨c=36
 ·exact .inl h
 ·right
  have e1:¬ c=46:=by omega
  have e2:¬ c=92:=by omega
  have e3:¬ c=34:=by omega
  have e4:¬ c=59:=by omega
  have e5:¬ c=40:=by omega
  have e6:¬ c=41:=by omega
  have e7:¬ c=64:=by omega
  have e8:¬ c=36:=by omega
  simp[spc,e1,e2,e3,e4,e5,e6,e7,e8]
  omega
theorem written_any(c:Int)(w:World)(h:0<=c/\c<=255):Calls Tryz.prog 94 #[.int .u8 c] w fun e w'=>e=.returned (.int .i64 (wst c))/\w'=w:=by
 by_cases hu:c<33∨126<c
 ·have HW:Hid (wst c=2):=by show _=_;unfold wst;rw[if_pos hu]
  rcases hu with hu|hu
  all_goals
   go_enter Tryz.func94,Tryz.ntmps94
   go_wp2
   go_ret
   exact ⟨by rw[HW.out];rfl,rfl⟩
 ·have h1:¬ c<33:=by omega
  have h2:¬ 126<c:=by omega
  have hs:=spc_cases c
  have HW:Hid (wst c=if spc c then 1 else 0):=by show _=_;unfold wst;rw[if_neg hu]
  clear hu
  rcases hs with hs|⟨hs,e1,e2,e3,e4,e5,e6,e7,e8,hor⟩
  ·rcases hs with rfl|rfl|rfl|rfl|rfl|rfl|rfl|rfl
   all_goals
    clear HW
    go_enter Tryz.func94,Tryz.ntmps94
    go_wp2
    go_ret
    exact ⟨rfl,rfl⟩
  ·rw[hs] at HW
   clear hs e5 e6
   rcases hor with ho|ho
   all_goals
    go_enter Tryz.func94,Tryz.ntmps94
    go_wp2
    go_ret
    exact ⟨by rw[HW.out];rfl,rfl⟩
theorem bc_txt(l:List Int)(h:∀z∈l,0<=z/\z<=255):Lib.byteCells (txt l)=l.map (Value.int .u8):=by
 unfold Lib.byteCells txt
 rw[List.map_map]
 apply List.map_congr_left
 intro z hz
 have:=h z hz
 simp
 omega
theorem nums_all'(s:ByteArray):∀z∈nums s,0<=z/\z<=255:=by
 intro z hz
 simp only[nums,List.mem_map] at hz
 obtain ⟨b,_,rfl⟩:=hz
 have:=b.toNat_lt
 omega
theorem text_any(s:ByteArray)(w:World)(hs:s.size<=35184372088000) :
  Calls Tryz.prog 58 #[.string s] w fun e w'=>e=.returned (.string ⟨(txt (tx (nums s))).toArray⟩)/\Hid (Below w.heap.size w w'):=by
 have H0:Hid (GS w.heap.size (w.alloc (.cells #[.pointer none,.slice none 0 0] 65)) w.heap.size []/\Below w.heap.size w (w.alloc (.cells #[.pointer none,.slice none 0 0] 65))):=⟨GS.fresh w,(Below.refl _ _).alloc (Nat.le_refl _) _⟩
 go_enter Tryz.func58,Tryz.ntmps58
 go_wp2_with fail
 go_loopw [8] (fun x wr=>∃k:Nat,k<=s.size/\x=.int .i64 k/\Hid (GS w.heap.size wr w.heap.size ((tx ((nums s).take k)).map (Value.int .u8))/\Below w.heap.size w wr)) (fun x _=>s.size - (intOf x).toNat)
 case atStart=>exact ⟨0,Nat.zero_le _,rfl,H0⟩
 case round=>
  obtain ⟨k,hk,rfl,HW⟩:=hrel
  clear H0
  by_cases hlt:k<s.size
  ·have hlt':(k:Int)<(s.size:Int):=by omega
   have hbd:=nums_bd s k
   have HT:Hid ((nums s).take (k+1)=(nums s).take k++[(nums s).getD k 0]):=take_snoc _ _ (by rw[nums_len];exact hlt)
   rw[nums_at s k hlt] at hbd HT
   have hln:(tx ((nums s).take k)).length<=4*k:=by
    have h1:=tx_len ((nums s).take k)
    have h2:((nums s).take k).length<=k:=by simp;omega
    omega
   have HN:Hid (tx ((nums s).take (k+1))=tx ((nums s).take k)++tx1 (s[k].toNat:Int)):=by show _=_;rw[HT.out,tx_snoc]
   have HM:Hid (((tx ((nums s).take k)).map (Value.int .u8)).length=(tx ((nums s).take k)).length):=(show _=_ by simp)
   have HWR:Hid (∀W,Calls Tryz.prog 94 #[.int .u8 (s[k].toNat:Int)] W fun e w'=>e=.returned (.int .i64 (wst (s[k].toNat:Int)))/\w'=W):=fun W=>written_any _ W hbd
   by_cases hu:(s[k].toNat:Int)<33∨126<(s[k].toNat:Int)
   ·have hw:wst (s[k].toNat:Int)=2:=by unfold wst;rw[if_pos hu]
    have HX:Hid (tx1 (s[k].toNat:Int)=[92,48+(s[k].toNat:Int) / 100,48+(s[k].toNat:Int) / 10 % 10,48+(s[k].toNat:Int) % 10]):=by show _=_;unfold tx1;rw[if_pos hu]
    rw[hw] at HWR
    clear hu hw
    go_wp2_with fail
    refine (HWR.out _).mono ?_
    rintro e w1 ⟨rfl,rfl⟩
    go_wp2_with fail
    refine (wbyte w.heap.size w.heap.size _ 92 _ HW.out.1 (Nat.le_refl _) (by rw[HM.out];omega)).mono ?_
    rintro e w2 ⟨rfl,H2⟩
    go_wp2_with fail
    refine (wbyte w.heap.size w.heap.size _ _ _ H2.out.1 (Nat.le_refl _) (by simp only[List.length_append,List.length_singleton,HM.out];omega)).mono ?_
    rintro e w3 ⟨rfl,H3⟩
    go_wp2_with fail
    refine (wbyte w.heap.size w.heap.size _ _ _ H3.out.1 (Nat.le_refl _) (by simp only[List.length_append,List.length_singleton,HM.out];omega)).mono ?_
    rintro e w4 ⟨rfl,H4⟩
    go_wp2_with fail
    refine (wbyte w.heap.size w.heap.size _ _ _ H4.out.1 (Nat.le_refl _) (by simp only[List.length_append,List.length_singleton,HM.out];omega)).mono ?_
    rintro e w5 ⟨rfl,H5⟩
    go_wp2
    refine ⟨⟨k+1,by omega,by go_num,?_,((HW.out.2.trans H2.out.2).trans H3.out.2).trans (H4.out.2.trans H5.out.2)⟩,by simp[intOf];omega⟩
    rw[HN.out,HX.out,List.map_append]
    simpa only[List.map_cons,List.map_nil,List.append_assoc,List.cons_append,List.nil_append] using H5.out.1
   ·by_cases hp:spc (s[k].toNat:Int)=true
    ·have hw:wst (s[k].toNat:Int)=1:=by unfold wst;rw[if_neg hu,if_pos hp]
     have HX:Hid (tx1 (s[k].toNat:Int)=[92,(s[k].toNat:Int)]):=by show _=_;unfold tx1;rw[if_neg hu,if_pos hp]
     rw[hw] at HWR
     clear hu hw hp
     go_wp2_with fail
     refine (HWR.out _).mono ?_
     rintro e w1 ⟨rfl,rfl⟩
     go_wp2_with fail
     refine (wbyte w.heap.size w.heap.size _ 92 _ HW.out.1 (Nat.le_refl _) (by rw[HM.out];omega)).mono ?_
     rintro e w2 ⟨rfl,H2⟩
     go_wp2_with fail
     refine (wbyte w.heap.size w.heap.size _ _ _ H2.out.1 (Nat.le_refl _) (by simp only[List.length_append,List.length_singleton,HM.out];omega)).mono ?_
     rintro e w3 ⟨rfl,H3⟩
     go_wp2
     refine ⟨⟨k+1,by omega,by go_num,?_,(HW.out.2.trans H2.out.2).trans H3.out.2⟩,by simp[intOf];omega⟩
     rw[HN.out,HX.out,List.map_append]
     simpa only[List.map_cons,List.map_nil,List.append_assoc,List.cons_append,List.nil_append] using H3.out.1
    ·have hp':spc (s[k].toNat:Int)=false:=by simpa using hp
     have hw:wst (s[k].toNat:Int)=0:=by unfold wst;rw[if_neg hu,hp'];rfl
     have HX:Hid (tx1 (s[k].toNat:Int)=[(s[k].toNat:Int)]):=by show _=_;unfold tx1;rw[if_neg hu,hp'];rfl
     rw[hw] at HWR
     clear hu hw hp hp'
     go_wp2_with fail
     refine (HWR.out _).mono ?_
     rintro e w1 ⟨rfl,rfl⟩
     go_wp2_with fail
     refine (wbyte w.heap.size w.heap.size _ _ _ HW.out.1 (Nat.le_refl _) (by rw[HM.out];omega)).mono ?_
     rintro e w2 ⟨rfl,H2⟩
     go_wp2
     refine ⟨⟨k+1,by omega,by go_num,?_,HW.out.2.trans H2.out.2⟩,by simp[intOf];omega⟩
     rw[HN.out,HX.out,List.map_append]
     simpa only[List.map_cons,List.map_nil,List.append_assoc,List.cons_append,List.nil_append] using H2.out.1
  ·have hge:(s.size:Int)<=(k:Int):=by omega
   have ek:(nums s).take k=nums s:=List.take_of_length_le (by rw[nums_len];omega)
   have hg:=HW.out.1
   rw[ek,<- bc_txt _ (tx_bd _ (nums_all' s))] at hg
   have hl:(txt (tx (nums s))).length<=9223372036854775807:=by
    have:=tx_len (nums s)
    rw[nums_len] at this
    rw[txt_len];omega
   have HG:Hid (GS w.heap.size wr w.heap.size (Lib.byteCells (txt (tx (nums s))))):=hg
   clear hg ek
   generalize hLL:txt (tx (nums s))=L at*
   have HLL:Hid (txt (tx (nums s))=L):=hLL
   clear hLL
   go_wp2_with fail
   refine (wstring w.heap.size w.heap.size L _ HG.out hl).mono ?_
   rintro e w2 ⟨rfl,H2⟩
   go_wp2
   go_ret
   exact ⟨by rw[HLL.out];rfl,HW.out.2.trans H2.out⟩
def fz(z:Int):Int:=if 65<=z/\z<=90 then z+32 else z
theorem txt_nums(s:ByteArray):(⟨(txt (nums s)).toArray⟩:ByteArray)=s:=by
 have:txt (nums s)=s.data.toList:=by
  unfold nums txt
  rw[List.map_map]
  conv=>rhs;rw[<- List.map_id s.data.toList]
  apply List.map_congr_left
  intro b _
  simp
 rw[this]
theorem ba_loop(s:ByteArray)(n:Nat):∀i r,s.size - i=n->ByteArray.toList.loop s i r=r.reverse++s.data.toList.drop i:=by
 induction n with
 |zero=>
  intro i r h
  unfold ByteArray.toList.loop
  rw[if_neg (by omega),List.drop_eq_nil_of_le (by simp;omega),List.append_nil]
 |succ n ih=>
  intro i r h
  unfold ByteArray.toList.loop
  have hi:i<s.data.toList.length:=by simp;omega
  rw[if_pos (by omega),ih (i+1) _ (by omega),List.reverse_cons,List.append_assoc,List.drop_eq_getElem_cons hi]
  congr 1
  show (s.data[i]!::s.data.toList.drop (i+1))=_
  have h2:i<s.data.size:=by simpa using hi
  rw[getElem!_pos s.data i h2];rfl
theorem ba_toList(s:ByteArray):s.toList=s.data.toList:=by
 unfold ByteArray.toList
 rw[ba_loop s _ 0 [] rfl]
 simp
theorem ba_inj{a b:ByteArray}(h:a.toList=b.toList):a=b:=by
 rw[ba_toList,ba_toList] at h
 cases a;cases b
 simp at h
 rw[h]
theorem getD_bd(l:List Int)(h:∀z∈l,0<=z/\z<=255)(i:Nat):0<=l.getD i 0/\l.getD i 0<=255:=by
 by_cases hi:i<l.length
 ·have:=h (l.getD i 0) (by rw[List.getD_eq_getElem?_getD,List.getElem?_eq_getElem hi];simp)
  exact this
 ·rw[List.getD_eq_getElem?_getD,List.getElem?_eq_none (by omega)];simp
theorem num3_bd(l:List Int):0<=(num3 l).1/\(num3 l).1<=255/\0<=(num3 l).2/\(num3 l).2<=l.length:=by
 unfold num3
 split
 ·simp
 ·split
  ·rename_i h1 h2
   simp only[Bool.and_eq_true,dgt_iff,decide_eq_true_eq] at h2
   simp only
   unfold v3 at*
   omega
  ·simp
theorem esc_bd(l:List Int)(h:∀z∈l,0<=z/\z<=255):0<=(esc l).1/\(esc l).1<=255/\0<=(esc l).2/\(esc l).2<=l.length:=by
 unfold esc
 split
 ·simp
 ·split
  ·exact num3_bd l
  ·split
   ·have:=getD_bd l h 1
    simp only
    omega
   ·simp
theorem fr_bd(l:List Int)(h:∀z∈l,0<=z/\z<=255)(hl:0<l.length):0<=(fr l).1/\(fr l).1<=255/\0<=(fr l).2/\(fr l).2<=l.length:=by
 unfold fr
 split
 ·simp
 ·split
  ·exact esc_bd l h
  ·have:=getD_bd l h 0
   simp only
   omega
theorem nums_all(s:ByteArray):∀z∈nums s,0<=z/\z<=255:=by
 intro z hz
 simp only[nums,List.mem_map] at hz
 obtain ⟨b,_,rfl⟩:=hz
 have:=b.toNat_lt
 omega
def go(l:List Int)(p:Nat)(out:List Int):Option (List Int × Nat):=
 if h:p<l.length/\l.getD p 0≠46 then
  if hn:(fr (l.drop p)).2<=0 then none
  else go l (p+(fr (l.drop p)).2.toNat) (out++[(fr (l.drop p)).1])
 else some (out,p)
termination_by l.length - p
decreasing_by omega
def pres(l:List Int):List Int × Int × Int:=
 match go l 0 [] with
 |none=>([],0,120)
 |some (out,p)=>if 1<=out.length/\out.length<=63 then (out,(p:Int),0) else ([],0,4)
def chk(n:Nat):Int:=if 1<=n/\n<=63 then 0 else 4
theorem chk_any(s:ByteArray)(w:World)(hs:s.size<=9223372036854775807) :
  Calls Tryz.prog 45 #[.string s] w fun e w'=>e=.returned (.int .i64 (chk s.size))/\w'=w:=by
 by_cases h:1<=s.size/\s.size<=63
 ·have h1:¬ (s.size:Int)<1:=by omega
  have h2:¬ (63:Int)<(s.size:Int):=by omega
  have HE:Hid (chk s.size=0):=by show _=_;unfold chk;rw[if_pos h]
  clear h
  go_enter Tryz.func45,Tryz.ntmps45
  go_wp2
  go_ret
  exact ⟨by rw[HE.out];rfl,rfl⟩
 ·have HE:Hid (chk s.size=4):=by show _=_;unfold chk;rw[if_neg h]
  have ho:(s.size:Int)<1∨(63:Int)<(s.size:Int):=by omega
  clear h
  rcases ho with ho|ho
  all_goals
   go_enter Tryz.func45,Tryz.ntmps45
   go_wp2
   go_ret
   exact ⟨by rw[HE.out];rfl,rfl⟩
theorem nums_extract(s:ByteArray)(p:Nat):nums (s.extract p s.size)=(nums s).drop p:=by
 simp only[nums,ByteArray.data_extract]
 rw[Array.toList_extract,List.extract_eq_take_drop,<- List.map_drop,List.take_of_length_le (by simp)]
theorem txt_size(l:List Int):(⟨(txt l).toArray⟩:ByteArray).size=l.length:=by
 show (txt l).toArray.size=_
 simp[txt]
theorem go_stop(l:List Int)(p:Nat)(out:List Int)(h:¬ (p<l.length/\l.getD p 0≠46)):go l p out=some (out,p):=by
 rw[go,dif_neg h]
theorem go_bad(l:List Int)(p:Nat)(out:List Int)(h:p<l.length/\l.getD p 0≠46)(hn:(fr (l.drop p)).2<=0):go l p out=none:=by
 rw[go,dif_pos h,dif_pos hn]
theorem go_step(l:List Int)(p:Nat)(out:List Int)(h:p<l.length/\l.getD p 0≠46)(hn:¬ (fr (l.drop p)).2<=0):go l p out=go l (p+(fr (l.drop p)).2.toNat) (out++[(fr (l.drop p)).1]):=by
 rw[go,dif_pos h,dif_neg hn]
def PPost(s:ByteArray)(w:World)(e:Ending)(w':World):Prop:=
 e=.returned (.tuple #[.string ⟨(txt (pres (nums s)).1).toArray⟩,.int .i64 (pres (nums s)).2.1,.int .i64 (pres (nums s)).2.2])/\Hid (Below w.heap.size w w')
theorem pres_ok{l out:List Int}{p:Nat}(h:go l 0 []=some (out,p))(hc:chk out.length=0):pres l=(out,(p:Int),0):=by
 unfold pres
 rw[h]
 simp only
 unfold chk at hc
 split at hc
 ·rename_i h1;rw[if_pos h1]
 ·cases hc
theorem pres_no{l out:List Int}{p:Nat}(h:go l 0 []=some (out,p))(hc:¬ chk out.length=0):pres l=([],0,4)/\chk out.length=4:=by
 unfold pres
 rw[h]
 simp only
 unfold chk at hc ⊢
 split at hc
 ·exact absurd rfl hc
 ·rename_i h1;rw[if_neg h1,if_neg h1];exact ⟨rfl,rfl⟩
theorem pres_bad{l:List Int}(h:go l 0 []=none):pres l=([],0,120):=by
 unfold pres
 rw[h]
theorem parse_any(s:ByteArray)(w:World)(hs:s.size<=140737488355000):Calls Tryz.prog 90 #[.string s] w (PPost s w):=by
 go_enter Tryz.func90,Tryz.ntmps90
 go_wp2_with fail
 go_loopw [5,6] (fun v x wr=>∃(p:Nat) (out:List Int),p<=s.size/\x=.int .i64 p/\Hid (go (nums s) 0 []=go (nums s) p out/\out.length<=p)/\Hid (∃ys,Own w.heap.size wr v out.length ys/\ys.take out.length=out)/\Hid (Below w.heap.size w wr)) (fun _ x _=>s.size - (intOf x).toNat)
 case atStart=>exact ⟨0,[],Nat.zero_le _,rfl,⟨rfl,Nat.le_refl _⟩,⟨[],.inl ⟨rfl,rfl,rfl⟩,rfl⟩,Below.refl _ _⟩
 case round=>
  obtain ⟨p,out,hp,rfl,HG,HW,HB⟩:=hrel
  by_cases hlt:p<s.size/\(nums s).getD p 0≠46
  ·obtain ⟨hlt,hd⟩:=hlt
   have HC:Hid (p<(nums s).length/\(nums s).getD p 0≠46):=⟨by rw[nums_len];exact hlt,hd⟩
   rw[nums_at s p hlt] at hd
   have hd':((s[p].toNat:Int) != 46)=true:=bne_iff_ne.2 hd
   have hlt':(p:Int)<(s.size:Int):=by omega
   clear hd
   have hol:out.length<=p:=HG.out.2
   have HF:Hid (∀W,Calls Tryz.prog 133 #[.string (s.extract p s.size)] W fun e w'=>e=.returned (.tuple #[.int .u8 (fr ((nums s).drop p)).1,.int .i64 (fr ((nums s).drop p)).2])/\w'=W):=by
    intro W
    have:=fr_any (s.extract p s.size) W (by simp;omega) (by simp;omega)
    rw[nums_extract] at this
    exact this
   have hfb:=fr_bd ((nums s).drop p) (fun z hz=>nums_all s z (List.mem_of_mem_drop hz)) (by rw[List.length_drop,nums_len];omega)
   rw[List.length_drop,nums_len] at hfb
   have HS1:Hid ((fr ((nums s).drop p)).2<=0->go (nums s) 0 []=none):=fun h=>HG.out.1.trans (go_bad _ _ _ HC.out h)
   have HS2:Hid (¬ (fr ((nums s).drop p)).2<=0->go (nums s) 0 []=go (nums s) (p+(fr ((nums s).drop p)).2.toNat) (out++[(fr ((nums s).drop p)).1])):=fun h=>HG.out.1.trans (go_step _ _ _ HC.out h)
   generalize (fr ((nums s).drop p)).1=c at*
   generalize (fr ((nums s).drop p)).2=n at*
   go_wp2_with fail
   refine (HF.out _).mono ?_
   rintro e w1 ⟨rfl,rfl⟩
   by_cases hn:n=0
   ·subst hn
    go_wp2
    go_ret3
    exact ⟨by rw[pres_bad (HS1.out (by omega))];rfl,HB.out⟩
   ·have hn':(n == 0)=false:=by simp[hn]
    obtain ⟨ys,hO,hT⟩:=HW.out
    have hnb:Below w1.heap.size w1 (w1.alloc (.cells #[.int .u8 c] 5)):=(Below.refl _ _).alloc (Nat.le_refl _) _
    have HO2:Hid (Own w.heap.size (w1.alloc (.cells #[.int .u8 c] 5)) u5 out.length ys/\ys.take out.length=out):=⟨hO.below hnb,hT⟩
    have HR2:Hid (Rd (w1.alloc (.cells #[.int .u8 c] 5)) (some ⟨w1.heap.size,0,none⟩) [c]):=new_rd w1 c (by omega)
    have HNB:Hid (Below w1.heap.size w1 (w1.alloc (.cells #[.int .u8 c] 5))):=hnb
    clear hO hT hnb
    go_wp2_with (at_builtin;refine wpList_append_blk _ rfl _ _ rfl w.heap.size _ out.length ys rfl HO2.out.1 (some ⟨w1.heap.size,0,none⟩) 1 1 [c] rfl HR2.out rfl (by simp) (by omega) (Nat.le_trans HB.out.size HNB.out.size) ?_;intro v' w' ys' hO' hT' hG')
    have hrow:=HO2.out.1.lt
    refine ⟨⟨p+n.toNat,out++[c],by omega,congrArg _ (by omega),⟨HS2.out (by omega),by simp;omega⟩,⟨ys',?_,?_⟩,?_⟩,by simp[intOf];omega⟩
    ·rw[List.length_append];exact hO'.out
    ·rw[List.length_append];exact hT'.out.trans (by rw[HO2.out.2])
    ·exact (HB.out.trans (HNB.out.mono HB.out.size)).grown hG' (Nat.le_trans HB.out.size HNB.out.size) hrow
  ·have HS:Hid (go (nums s) 0 []=some (out,p)):=HG.out.1.trans (go_stop _ _ _ (by rw[nums_len];exact hlt))
   obtain ⟨ys,hO,hT⟩:=HW.out
   obtain ⟨ao,rfl,hoa⟩:=hO.addr
   have hrd:=hoa.rdTake out.length
   rw[hT] at hrd
   have hcv:=conv_rd ao out.length ys.length out wr hrd rfl
   have HK:Hid (∀W,Calls Tryz.prog 45 #[.string ⟨(txt out).toArray⟩] W fun e w'=>e=.returned (.int .i64 (chk out.length))/\w'=W):=by
    intro W
    have:=chk_any ⟨(txt out).toArray⟩ W (by rw[txt_size];have:=HG.out.2;omega)
    rw[txt_size] at this
    exact this
   clear hO hT hoa hrd
   have HX:Hid (chk out.length=0->pres (nums s)=(out,(p:Int),0)):=fun h=>pres_ok HS.out h
   have HY:Hid (¬ chk out.length=0->pres (nums s)=([],0,4)/\chk out.length=4):=fun h=>pres_no HS.out h
   generalize chk out.length=k at*
   have hor:(s.size:Int)<=(p:Int)∨(∃h:p<s.size,(s[p].toNat:Int)=46):=by
    by_cases h:p<s.size
    ·right
     refine ⟨h,?_⟩
     rw[<- nums_at s p h]
     exact Classical.byContradiction fun hne=>hlt ⟨h,hne⟩
    ·left;omega
   clear hlt
   generalize out.length=ol at*
   generalize ys.length=yl at*
   rcases hor with hge|⟨hlt,hd⟩
   ·by_cases hk:k=0
    ·have HQ:Hid (pres (nums s)=(out,(p:Int),0)):=HX.out hk
     clear HX HY
     subst hk
     go_wp2_with fail
     refine (HK.out _).mono ?_
     rintro e w1 ⟨rfl,rfl⟩
     go_wp2
     go_ret3
     exact ⟨by rw[HQ.out];rfl,HB.out⟩
    ·obtain ⟨hq,hk4⟩:=HY.out hk
     have HQ:Hid (pres (nums s)=([],0,4)):=hq
     clear hq hk HX HY
     subst hk4
     go_wp2_with fail
     refine (HK.out _).mono ?_
     rintro e w1 ⟨rfl,rfl⟩
     go_wp2
     go_ret3
     exact ⟨by rw[HQ.out];rfl,HB.out⟩
   ·have hd':((s[p].toNat:Int) != 46)=false:=by rw[hd];rfl
    have hlt':(p:Int)<(s.size:Int):=by omega
    clear hd
    by_cases hk:k=0
    ·have HQ:Hid (pres (nums s)=(out,(p:Int),0)):=HX.out hk
     clear HX HY
     subst hk
     go_wp2_with fail
     refine (HK.out _).mono ?_
     rintro e w1 ⟨rfl,rfl⟩
     go_wp2
     go_ret3
     exact ⟨by rw[HQ.out];rfl,HB.out⟩
    ·obtain ⟨hq,hk4⟩:=HY.out hk
     have HQ:Hid (pres (nums s)=([],0,4)):=hq
     clear hq hk HX HY
     subst hk4
     go_wp2_with fail
     refine (HK.out _).mono ?_
     rintro e w1 ⟨rfl,rfl⟩
     go_wp2
     go_ret3
     exact ⟨by rw[HQ.out];rfl,HB.out⟩
def nsz:List ByteArray->Nat
 |[]=>1
 |s::r=>s.size+1+nsz r
theorem nsz_snoc(l:List ByteArray)(s:ByteArray):nsz (l++[s])=nsz l+s.size+1:=by
 induction l with
 |nil=>simp[nsz];omega
 |cons x l ih=>simp only[List.cons_append,nsz,ih];omega
theorem nsz_le(l:List ByteArray)(k:Nat):nsz (l.take k)<=nsz l:=by
 induction l generalizing k with
 |nil=>simp[nsz]
 |cons x l ih=>
  cases k with
  |zero=>simp[nsz];omega
  |succ k=>simp only[List.take_succ_cons,nsz];have:=ih k;omega
theorem take_snocT(ss:List ByteArray)(k:Nat)(h:k<ss.length):ss.take (k+1)=ss.take k++[ss[k]]:=List.take_succ_eq_append_getElem h
def labsOk(ss:List ByteArray):Prop:=∀s∈ss,chk s.size=0
instance (ss:List ByteArray):Decidable (labsOk ss):=by unfold labsOk;exact inferInstance
def nck(ss:List ByteArray):Int:=if labsOk ss then (if 255<nsz ss then 5 else 0) else 4
theorem chk_cases(n:Nat):chk n=0∨chk n=4:=by unfold chk;split <;> simp
structure Nm(w:World)(a:Option Addr)(n:Nat)(ss:List ByteArray):Prop where
 rd:RdT w a ss
 len:ss.length=n
 sz:nsz ss<=1000000000000
theorem nsz_len:∀l:List ByteArray,l.length+1<=nsz l
 |[]=>by simp[nsz]
 |x::l=>by have:=nsz_len l;simp only[List.length_cons,nsz];omega
theorem nsz_mem:∀(l:List ByteArray) (s:ByteArray),s∈l->s.size<=nsz l
 |x::l,s,h=>by
  simp only[nsz]
  rcases List.mem_cons.1 h with rfl|h
  ·omega
  ·have:=nsz_mem l s h;omega
theorem Nm.below{w w':World}{a:Option Addr}{n:Nat}{ss:List ByteArray}(h:Nm w a n ss)(hb:Below w.heap.size w w'):Nm w' a n ss:=⟨h.rd.below hb,h.len,h.sz⟩
theorem Nm.n63{w:World}{a:Option Addr}{n:Nat}{ss:List ByteArray}(h:Nm w a n ss):n<=1000000000000:=by have:=nsz_len ss;have:=h.len;have:=h.sz;omega
theorem Nm.mem{w:World}{a:Option Addr}{n:Nat}{ss:List ByteArray}(h:Nm w a n ss)(s:ByteArray)(hs:s∈ss):s.size<=1000000000000:=Nat.le_trans (nsz_mem ss s hs) h.sz
def NPost(r:List ByteArray)(k:Int)(w:World)(e:Ending)(w':World):Prop:=
 ∃v ys,e=.returned (.tuple #[v,.int .i64 k])/\Hid (OwnT w.heap.size w' v r.length ys 1000000000000/\ys.take r.length=r/\Below w.heap.size w w')
theorem npost_none{k:Int}{w w':World}{e:Ending}(he:e=.returned (.tuple #[.slice none 0 0,.int .i64 k]))(hb:Below w.heap.size w w'):NPost [] k w e w':=
 ⟨.slice none 0 0,[],he,OwnT.nil _ _ _,rfl,hb⟩
theorem nsz_drop(l:List ByteArray)(k:Nat):nsz (l.drop k)<=nsz l:=by
 induction l generalizing k with
 |nil=>simp[nsz]
 |cons x l ih=>
  cases k with
  |zero=>simp
  |succ k=>simp only[List.drop_succ_cons,nsz];have:=ih k;omega
theorem Nm.cut{w:World}{a a':Option Addr}{n:Nat}{ss:List ByteArray}(h:Nm w a n ss)(p:Nat)(ha:p<ss.length->∀b o,a=some ⟨b,o,none⟩->a'=some ⟨b,o+p,none⟩):Nm w a' (n - p) (ss.drop p):=by
 refine ⟨?_,by rw[List.length_drop,h.len],Nat.le_trans (nsz_drop ss p) h.sz⟩
 have:=RdV.cut (w:=w) (a:=a) (xs:=tv ss) h.rd p (tv ss).length (a':=a') (fun hp=>ha (by rw[tv_len] at hp;exact hp))
 rw[List.take_of_length_le (by simp),tv_drop] at this
 exact this
theorem nck_small{ss:List ByteArray}(h:nck ss=0):nsz ss<=255/\labsOk ss:=by
 unfold nck at h
 split at h
 ·rename_i h1
  split at h
  ·cases h
  ·exact ⟨by omega,h1⟩
 ·cases h
theorem nsz_append(a b:List ByteArray):nsz (a++b)+1=nsz a+nsz b:=by
 induction a with
 |nil=>simp[nsz];omega
 |cons x a ih=>simp only[List.cons_append,nsz];omega
def njoin(a b:List ByteArray):List ByteArray × Int:=if nck a=0 then (if nck b=0 then (if nck (a++b)=0 then (a++b,0) else ([],5)) else ([],nck b)) else ([],nck a)
def tb(s:ByteArray):ByteArray:=⟨(txt (tx (nums s))).toArray⟩
def ntxt(l:List ByteArray):ByteArray:=l.foldl (fun acc s=>acc++tb s++⟨#[46]⟩) ⟨#[]⟩
theorem ntxt_snoc(l:List ByteArray)(s:ByteArray):ntxt (l++[s])=ntxt l++tb s++⟨#[46]⟩:=by simp[ntxt,List.foldl_append]
theorem tb_size(s:ByteArray):(tb s).size<=4*s.size:=by
 have:=tx_len (nums s)
 rw[nums_len] at this
 show (txt (tx (nums s))).toArray.size<=_
 simp[txt]
 exact this
theorem ntxt_size(l:List ByteArray):∀k,k<=l.length->(ntxt (l.take k)).size<=4*nsz l:=by
 intro k
 induction k with
 |zero=>intro _;exact Nat.zero_le _
 |succ k ih=>
  intro hk
  have hkl:k<l.length:=by omega
  have h0:∀j,j<=l.length->(ntxt (l.take j)).size<=4*nsz (l.take j):=by
   intro j
   induction j with
   |zero=>intro _;exact Nat.zero_le _
   |succ j ihj=>
    intro hj
    have hjl:j<l.length:=by omega
    rw[take_snocT l j hjl,ntxt_snoc,nsz_snoc,ByteArray.size_append,ByteArray.size_append]
    have:=ihj (by omega)
    have:=tb_size l[j]
    show _+_+1<=_
    omega
  have:=h0 (k+1) hk
  have:=nsz_le l (k+1)
  omega
def ntext(ss:List ByteArray):ByteArray × Int:=if nck ss=0 then (if ss.length=0 then (⟨#[46]⟩,0) else (ntxt ss,0)) else (⟨#[]⟩,nck ss)
def nby(l:List ByteArray):List Int:=l.flatMap fun s=>(s.size:Int)::nums s
theorem nby_len(l:List ByteArray):(nby l).length+1=nsz l:=by
 induction l with
 |nil=>simp[nby,nsz]
 |cons x l ih=>simp only[nby,List.flatMap_cons,List.length_append,List.length_cons,nums_len,nsz] at ih ⊢;omega
theorem go_le(l:List Int)(hb:∀z∈l,0<=z/\z<=255):∀(n p:Nat) (out o:List Int) (q:Nat),l.length - p<=n->p<=l.length->go l p out=some (o,q)->p<=q/\q<=l.length:=by
 intro n
 induction n with
 |zero=>
  intro p out o q hn hp h
  rw[go_stop _ _ _ (by omega)] at h
  cases h
  omega
 |succ n ih=>
  intro p out o q hn hp h
  by_cases hs:p<l.length/\l.getD p 0≠46
  ·by_cases hf:(fr (l.drop p)).2<=0
   ·rw[go_bad _ _ _ hs hf] at h;cases h
   ·rw[go_step _ _ _ hs hf] at h
    have hfb:=fr_bd (l.drop p) (fun z hz=>hb z (List.mem_of_mem_drop hz)) (by rw[List.length_drop];omega)
    rw[List.length_drop] at hfb
    have:=ih _ _ _ _ (by omega) (by omega) h
    omega
  ·rw[go_stop _ _ _ hs] at h
   cases h
   omega
theorem pres_le(l:List Int)(hb:∀z∈l,0<=z/\z<=255)(h:(pres l).2.2=0):∃p:Nat,(pres l).2.1=(p:Int)/\p<=l.length/\1<=(pres l).1.length/\(pres l).1.length<=63:=by
 unfold pres at h ⊢
 cases hg:go l 0 [] with
 |none=>rw[hg] at h;cases h
 |some r=>
  obtain ⟨o,q⟩:=r
  rw[hg] at h
  simp only at h ⊢
  split at h
  ·rename_i h1
   rw[if_pos h1]
   exact ⟨q,rfl,(go_le l hb _ 0 [] o q (Nat.le_refl _) (Nat.zero_le _) hg).2,h1.1,h1.2⟩
  ·cases h
def lb(l:List Int):ByteArray:=⟨(txt l).toArray⟩
theorem lb_size(l:List Int):(lb l).size=l.length:=txt_size l
def lgo(l:List Int)(out:List ByteArray):List ByteArray × Bool × Int:=
 if (pres l).2.2=0 then
  if (pres l).2.1=(l.length:Int) then (out++[lb (pres l).1],false,0)
  else if h:(l.drop ((pres l).2.1.toNat+1)).length=0 then (out++[lb (pres l).1],true,0)
  else lgo (l.drop ((pres l).2.1.toNat+1)) (out++[lb (pres l).1])
 else ([],false,(pres l).2.2)
termination_by l.length
decreasing_by
 simp only[List.length_drop] at h ⊢
 omega
def LPost(r:List ByteArray × Bool × Int)(w:World)(e:Ending)(w':World):Prop:=
 ∃v ys,e=.returned (.tuple #[v,.bool r.2.1,.int .i64 r.2.2])/\Hid (OwnT w.heap.size w' v r.1.length ys 1000000000000/\ys.take r.1.length=r.1/\Below w.heap.size w w')
theorem lgo_bd:∀(n:Nat) (l:List Int) (out:List ByteArray),l.length<=n->(∀z∈l,0<=z/\z<=255)->(∀x∈out,x.size<=63)->(∀x∈(lgo l out).1,x.size<=63)/\(lgo l out).1.length<=out.length+l.length+1:=by
 intro n
 induction n with
 |zero=>
  intro l out hl hb ho
  have e:l=[]:=List.eq_nil_of_length_eq_zero (by omega)
  subst e
  rw[lgo,if_neg]
  ·simp
  ·have:pres []=([],0,4):=(pres_no (l:=[]) (out:=[]) (p:=0) (go_stop _ _ _ (by simp)) (by decide)).1
   rw[this]
   decide
 |succ n ih=>
  intro l out hl hb ho
  rw[lgo]
  by_cases h0:(pres l).2.2=0
  ·rw[if_pos h0]
   obtain ⟨p,hp,hpl,hl1,hl2⟩:=pres_le l hb h0
   have ho2:∀x∈out++[lb (pres l).1],x.size<=63:=by
    intro x hx
    rcases List.mem_append.1 hx with hx|hx
    ·exact ho x hx
    ·simp at hx;subst hx;rw[lb_size];exact hl2
   rw[hp,Int.toNat_natCast]
   split
   ·exact ⟨ho2,by rw[List.length_append];show out.length+1<=_;omega⟩
   ·split
    ·exact ⟨ho2,by rw[List.length_append];show out.length+1<=_;omega⟩
    ·rename_i h1 h2
     rw[List.length_drop] at h2
     have:=ih (l.drop (p+1)) (out++[lb (pres l).1]) (by rw[List.length_drop];omega) (fun z hz=>hb z (List.mem_of_mem_drop hz)) ho2
     refine ⟨this.1,Nat.le_trans this.2 ?_⟩
     rw[List.length_append,List.length_drop]
     show out.length+1+_+1<=_
     omega
  ·rw[if_neg h0]
   simp
theorem nsz_bd(l:List ByteArray)(h:∀x∈l,x.size<=63):nsz l<=64*l.length+1:=by
 induction l with
 |nil=>simp[nsz]
 |cons x l ih=>
  have:=ih (fun y hy=>h y (by simp[hy]))
  have:=h x (by simp)
  simp only[nsz,List.length_cons]
  omega
theorem lgo_nsz(s:ByteArray)(hs:s.size<=1000000000):nsz (lgo (nums s) []).1<=1000000000000:=by
 have:=lgo_bd _ (nums s) [] (Nat.le_refl _) (nums_all s) (by simp)
 have h2:=nsz_bd _ this.1
 rw[nums_len] at this
 simp at this
 omega
def nparse(s:ByteArray):List ByteArray × Int:=
 if s.toList=[46] then ([],0)
 else if (lgo (nums s) []).2.2=0 then
  (if (lgo (nums s) []).2.1 then (if nck (lgo (nums s) []).1=0 then ((lgo (nums s) []).1,0) else ([],nck (lgo (nums s) []).1)) else ([],5))
 else ([],(lgo (nums s) []).2.2)
def nrel(s:ByteArray)(og:List ByteArray):List ByteArray × Int:=
 if nck og=0 then
  (if s.toList=[64] then (og,0) else if s.toList=[46] then ([],0)
  else if (lgo (nums s) []).2.2=0 then (if (lgo (nums s) []).2.1 then nparse s else njoin (lgo (nums s) []).1 og) else ([],(lgo (nums s) []).2.2))
 else ([],nck og)
end Go.Proofs.YtoppdmlmhigogaaGreatDoor
namespace Go.Proofs.YtoppdmlmhigogaaGreatDoor
open Go Go.Lib
def dv(l:List UInt8):Nat:=l.foldl (fun a b=>10*a+(b.toNat - 48)) 0
theorem dv_snoc(l:List UInt8)(b:UInt8):dv (l++[b])=10*dv l+(b.toNat - 48):=by
 simp[dv,List.foldl_append]
theorem dec_small{n:Nat}(h:n<10):decDigits n=[UInt8.ofNat (48+n)]:=by rw[decDigits,dif_pos h]
theorem dec_big{n:Nat}(h:¬ n<10):decDigits n=decDigits (n / 10)++[UInt8.ofNat (48+n % 10)]:=by rw[decDigits,dif_neg h]
theorem dig_toNat(d:Nat)(h:d<10):(UInt8.ofNat (48+d)).toNat=48+d:=by
 rw[UInt8.toNat_ofNat'];omega
theorem dv_dec(n:Nat):dv (decDigits n)=n:=by
 induction n using Nat.strongRecOn with
 |_ n ih=>
  by_cases h:n<10
  ·rw[dec_small h]
   simp only[dv,List.foldl_cons,List.foldl_nil]
   rw[dig_toNat n h];omega
  ·rw[dec_big h,dv_snoc,ih (n / 10) (by omega),dig_toNat _ (by omega)];omega
theorem dec_inj{m n:Nat}(h:decDigits m=decDigits n):m=n:=by
 rw[<- dv_dec m,h,dv_dec]
theorem dec_len(n:Nat)(h:n<100000):(decDigits n).length<=5:=by
 rw[decDigits_length]
 have:∀k n:Nat,n<10 ^ (k+1)->nDigits n<=k+1:=by
  intro k
  induction k with
  |zero=>intro n h;rw[nDigits_small (by omega)];exact Nat.le_refl _
  |succ k ih=>
   intro n h
   by_cases h1:n<10
   ·rw[nDigits_small h1];omega
   ·rw[nDigits_big h1]
    have:=ih (n / 10) (by rw[Nat.pow_succ] at h;omega)
    omega
 exact this 4 n (by omega)
abbrev Own4:=List (List UInt8 × Nat)
def tellF(ps:Own4)(pre:List UInt8)(n:Nat):List UInt8:=
 match ps.find? (fun p=>p.2 == n) with
 |some p=>p.1
 |none=>pre++decDigits n
def flatC(ps:Own4):List (List UInt8):=ps.flatMap fun p=>[p.1,decDigits p.2]
theorem flatC_len(ps:Own4):(flatC ps).length=2*ps.length:=by
 induction ps with
 |nil=>rfl
 |cons p ps ih=>simp[flatC] at ih ⊢;omega
theorem flatC_at:∀(ps:Own4) (j:Nat) (p:List UInt8 × Nat),ps[j]?=some p->(flatC ps)[2*j]?=some p.1/\(flatC ps)[2*j+1]?=some (decDigits p.2)
 |[],j,p,h=>by simp at h
 |q::ps,0,p,h=>by
  simp at h;subst h
  simp[flatC]
 |q::ps,j+1,p,h=>by
  have:=flatC_at ps j p (by simpa using h)
  simp only[flatC,List.flatMap_cons,List.cons_append,List.nil_append] at this ⊢
  rw[show 2*(j+1)=2*j+2 by omega,show 2*j+2+1=(2*j+1)+2 by omega]
  simpa using this
theorem find_step{α:Type}(f:α->Bool)(l:List α)(j:Nat)(h:∀p∈l.take j,f p=false)(p:α)(hp:l[j]?=some p) :
  (f p=true->l.find? f=some p)/\(f p=false->∀q∈l.take (j+1),f q=false):=by
 have hj:j<l.length:=(List.getElem?_eq_some_iff.1 hp).1
 have e:l[j]=p:=by rw[List.getElem?_eq_getElem hj] at hp;exact Option.some.inj hp
 constructor
 ·intro hf
  have:l=l.take j++p::l.drop (j+1):=by rw[<- e,<- List.drop_eq_getElem_cons hj,List.take_append_drop]
  rw[this,List.find?_append,List.find?_eq_none.2 (fun x hx=>by rw[h x hx];simp)]
  simp[hf]
 ·intro hf q hq
  rw[List.take_succ_eq_append_getElem hj,e] at hq
  simp only[List.mem_append,List.mem_singleton] at hq
  rcases hq with hq|hq
  ·exact h q hq
  ·subst hq;exact hf
theorem find_end{α:Type}(f:α->Bool)(l:List α)(j:Nat)(h:∀p∈l.take j,f p=false)(hj:l.length<=j):l.find? f=none:=by
 rw[List.take_of_length_le hj] at h
 exact List.find?_eq_none.2 (fun x hx=>by rw[h x hx];simp)
def xq1(c:Int):List Int:=if c<32∨126<c then [92,48+c / 100,48+c / 10 % 10,48+c % 10] else if c=34∨c=92 then [92,c] else [c]
def xq(l:List Int):List Int:=l.flatMap xq1
def xquote(l:List Int):List Int:=34::(xq l++[34])
theorem xq_print(l:List Int)(h:∀c∈l,0<=c/\c<=255):∀c∈xq l,32<=c/\c<=126:=by
 intro c hc
 simp only[xq,List.mem_flatMap] at hc
 obtain ⟨b,hb,hc⟩:=hc
 have:=h b hb
 unfold xq1 at hc
 split at hc
 ·simp at hc;omega
 ·split at hc
  ·simp at hc;omega
  ·simp at hc;omega
theorem xquote_print(l:List Int)(h:∀c∈l,0<=c/\c<=255):∀c∈xquote l,32<=c/\c<=126:=by
 intro c hc
 simp only[xquote,List.mem_cons,List.mem_append,List.mem_singleton,List.not_mem_nil,or_false] at hc
 rcases hc with rfl|hc|rfl
 ·omega
 ·exact xq_print l h c hc
 ·omega
def xjoin(c:Int):List (List Int)->List Int
 |[]=>[]
 |[p]=>p
 |p::q::ps=>p++c::xjoin c (q::ps)
def xdec(n:Nat):List Int:=(decDigits n).map fun b=>(b.toNat:Int)
def xhd(v:Nat):Int:=if v<10 then 48+v else 87+v
def xhex(n:Nat):List Int:=if h:n<16 then [xhd n] else xhex (n / 16)++[xhd (n % 16)]
termination_by n
theorem xhex_len(n:Nat)(h:n<65536):1<=(xhex n).length/\(xhex n).length<=4:=by
 rw[xhex]
 by_cases h1:n<16
 ·rw[dif_pos h1];simp
 ·rw[dif_neg h1,xhex]
  by_cases h2:n / 16<16
  ·rw[dif_pos h2];simp
  ·rw[dif_neg h2,xhex]
   by_cases h3:n / 16 / 16<16
   ·rw[dif_pos h3];simp
   ·rw[dif_neg h3,xhex,dif_pos (by omega)];simp
def xby(n:Nat):List Int:=[((n / 256:Nat):Int),((n % 256:Nat):Int)]
def xcol(l:List Nat):List Int:=xjoin 58 (l.map xhex)
def xzr:List Nat->Nat
 |[]=>0
 |n::l=>if n=0 then xzr l+1 else 0
def xstep(l:List Nat)(p:Nat × Nat)(i:Nat):Nat × Nat:=if p.2<xzr (l.drop i) then (i,xzr (l.drop i)) else p
def xlong(l:List Nat):Nat × Nat:=if ((List.range l.length).foldl (xstep l) (0,1)).2<2 then (l.length,0) else (List.range l.length).foldl (xstep l) (0,1)
def xa6(l:List Nat):List Int:=if (xlong l).2=0 then xcol l else xcol (l.take (xlong l).1)++58::58::xcol (l.drop ((xlong l).1+(xlong l).2))
theorem xdec_small{n:Nat}(h:n<10):xdec n=[48+(n:Int)]:=by
 unfold xdec
 rw[decDigits,dif_pos h]
 simp[UInt8.toNat_ofNat']
 omega
theorem xdec_big{n:Nat}(h:¬ n<10):xdec n=xdec (n / 10)++[48+((n % 10:Nat):Int)]:=by
 unfold xdec
 rw[decDigits,dif_neg h,List.map_append]
 congr 1
 simp[UInt8.toNat_ofNat']
 omega
theorem xdec_digit(n:Nat):∀c∈xdec n,48<=c/\c<=57:=by
 induction n using Nat.strongRecOn with
 |_ n ih=>
  by_cases h:n<10
  ·rw[xdec_small h];intro c hc;simp at hc;subst hc;omega
  ·rw[xdec_big h];intro c hc
   simp only[List.mem_append,List.mem_singleton] at hc
   rcases hc with hc|rfl
   ·exact ih (n / 10) (by omega) c hc
   ·omega
def xprs:List Int->List Nat
 |a::b::l=>(256*a.toNat+b.toNat)::xprs l
 |_=>[]
def xaddr(b:List Int):Option (List Int):=if b.length=4 then some (xjoin 46 (b.map fun c=>xdec c.toNat)) else if b.length=16 then some (xa6 (xprs b)) else none
theorem xprs_by(l:List Int):∀k,l.length=2*k->(∀c∈l,0<=c/\c<=255)->(xprs l).length=k/\(xprs l).flatMap xby=l/\∀n∈xprs l,n<65536:=by
 intro k
 induction k generalizing l with
 |zero=>intro h _;have:l=[]:=List.length_eq_zero_iff.1 (by omega);subst this;simp[xprs]
 |succ k ih=>
  intro h hb
  match l,h with
  |a::b::l,h=>
   simp only[List.length_cons] at h
   obtain ⟨i1,i2,i3⟩:=ih l (by omega) (fun c hc=>hb c (by simp[hc]))
   have ha:=hb a (by simp)
   have hbb:=hb b (by simp)
   refine ⟨by simp[xprs,i1],?_,?_⟩
   ·simp only[xprs,List.flatMap_cons,i2]
    have e:xby (256*a.toNat+b.toNat)=[a,b]:=by
     unfold xby
     have e1:(((256*a.toNat+b.toNat) / 256:Nat):Int)=a:=by omega
     have e2:(((256*a.toNat+b.toNat) % 256:Nat):Int)=b:=by omega
     rw[e1,e2]
    rw[e];rfl
   ·intro n hn
    simp only[xprs,List.mem_cons] at hn
    rcases hn with rfl|hn
    ·omega
    ·exact i3 n hn
  |[a],h=>simp at h;omega
  |[],h=>simp at h
def bi(l:List UInt8):List Int:=l.map fun b=>(b.toNat:Int)
theorem bi_len(l:List UInt8):(bi l).length=l.length:=by simp[bi]
theorem join_x(c:UInt8)(xs:List (List UInt8)):bi (Lib.join xs [c])=xjoin c.toNat (xs.map bi):=by
 cases xs with
 |nil=>rfl
 |cons x xs=>
  induction xs generalizing x with
  |nil=>rw[join_one];rfl
  |cons y r ih=>
   rw[join_cons]
   have h:=ih y
   rw[join_cons] at h
   simp only[List.map_cons,xjoin]
   rw[List.map_cons] at h
   rw[<- h]
   simp[joinTail,bi]
theorem bi_dec(n:Nat):bi (decDigits n)=xdec n:=rfl
def lstep(l:List Nat)(s:Nat × Nat × Nat)(r:Nat):Nat × Nat × Nat:=
 if max 1 (s.2.1 - s.1)<r+1 - (if l.getD r 0≠0 then r+1 else s.2.2) then ((if l.getD r 0≠0 then r+1 else s.2.2),r+1,(if l.getD r 0≠0 then r+1 else s.2.2)) else (s.1,s.2.1,(if l.getD r 0≠0 then r+1 else s.2.2))
def lrunK(l:List Nat)(k:Nat):Nat × Nat × Nat:=(List.range k).foldl (lstep l) (0,0,0)
theorem lrunK_succ(l:List Nat)(k:Nat):lrunK l (k+1)=lstep l (lrunK l k) k:=by
 unfold lrunK;rw[List.range_succ,List.foldl_append];rfl
theorem lrunK_ok(l:List Nat):∀k,(lrunK l k).1<=(lrunK l k).2.1/\(lrunK l k).2.1<=k/\(lrunK l k).2.2<=k:=by
 intro k
 induction k with
 |zero=>exact ⟨Nat.le_refl _,Nat.le_refl _,Nat.le_refl _⟩
 |succ k ih=>
  rw[lrunK_succ]
  unfold lstep
  generalize lrunK l k=s at*
  have hm:(if l.getD k 0≠0 then k+1 else s.2.2)<=k+1:=by split <;> omega
  generalize (if l.getD k 0≠0 then k+1 else s.2.2)=m at*
  split
  ·exact ⟨hm,Nat.le_refl _,hm⟩
  ·exact ⟨ih.1,Nat.le_succ_of_le ih.2.1,hm⟩
def nz(n:Nat):Nat:=if n=0 then 0 else 1
theorem nz_zero(n:Nat):nz n=0↔n=0:=by unfold nz;split <;> simp[*]
theorem xzr_nz(l:List Nat):xzr (l.map nz)=xzr l:=by
 induction l with
 |nil=>rfl
 |cons n l ih=>simp only[List.map_cons,xzr,ih,nz_zero]
theorem xstep_nz(l:List Nat):xstep (l.map nz)=xstep l:=by
 funext p i
 unfold xstep
 rw[<- List.map_drop,xzr_nz]
theorem xlong_nz(l:List Nat):xlong (l.map nz)=xlong l:=by unfold xlong;rw[xstep_nz,List.length_map]
theorem lstep_nz(l:List Nat):lstep (l.map nz)=lstep l:=by
 funext s r
 have e:((l.map nz).getD r 0≠0)=(l.getD r 0≠0):=by
  rw[List.getD_eq_getElem?_getD,List.getD_eq_getElem?_getD,List.getElem?_map]
  cases h:l[r]? with
  |none=>rfl
  |some n=>simp only[Option.map_some,Option.getD_some,ne_eq,nz_zero]
 unfold lstep
 simp only[e]
theorem lrunK_nz(l:List Nat)(k:Nat):lrunK (l.map nz) k=lrunK l k:=by unfold lrunK;rw[lstep_nz]
def okRun(l:List Nat):Bool:=if (xlong l).2=0 then decide ((lrunK l 8).1=(lrunK l 8).2.1) else decide ((lrunK l 8).1=(xlong l).1/\(lrunK l 8).2.1=(xlong l).1+(xlong l).2/\(lrunK l 8).1≠(lrunK l 8).2.1)
def b2(b:Bool):Nat:=if b then 1 else 0
theorem okRun_all:∀a b c d e f g h:Bool,okRun [b2 a,b2 b,b2 c,b2 d,b2 e,b2 f,b2 g,b2 h]=true:=by decide +kernel
theorem okRun_any(l:List Nat)(h8:l.length=8):okRun l=true:=by
 have e:okRun l=okRun (l.map nz):=by unfold okRun;rw[xlong_nz,lrunK_nz]
 rw[e]
 match l,h8 with
 |[a,b,c,d,e,f,g,h],_=>
  have hb:∀n,nz n=b2 (decide (n≠0)):=by intro n;unfold nz b2;by_cases h:n=0 <;> simp[h]
  simp only[List.map_cons,List.map_nil,hb]
  exact okRun_all _ _ _ _ _ _ _ _
theorem xa6_run(l:List Nat)(h8:l.length=8):((lrunK l 8).1=(lrunK l 8).2.1->xa6 l=xcol l)/\((lrunK l 8).1≠(lrunK l 8).2.1->xa6 l=xcol (l.take (lrunK l 8).1)++58::58::xcol (l.drop (lrunK l 8).2.1)):=by
 have h:=okRun_any l h8
 unfold okRun at h
 unfold xa6
 by_cases h0:(xlong l).2=0
 ·rw[if_pos h0] at h ⊢
  rw[decide_eq_true_eq] at h
  exact ⟨fun _=>rfl,fun hn=>absurd h hn⟩
 ·rw[if_neg h0] at h ⊢
  rw[decide_eq_true_eq] at h
  obtain ⟨h1,h2,h3⟩:=h
  exact ⟨fun e=>absurd e h3,fun _=>by rw[h2,h1]⟩
end Go.Proofs.YtoppdmlmhigogaaGreatDoor
namespace Go.Proofs
open Go.Shelf
def Tryz.lays156_ren:Go.Shelf.Ren:=⟨fun|156=>113|165=>153|166=>57|169=>31|240=>93|241=>188|276=>136|277=>206|n=>n,fun|31=>22|9=>9|3=>3|4=>4|0=>0|20=>20|72=>65|76=>96|70=>63|37=>39|75=>95|127=>106|164=>175|5=>5|80=>67|n=>n,fun|n=>n⟩
theorem Tryz.lays156:Go.Proofs.Lays.n156 Tryz.prog Tryz.lays156_ren:={
 mixed:=by kernel_rfl
 f156:=Tryz.func113.trans (congrArg some (by kernel_rfl))
 f165:=Tryz.func153.trans (congrArg some (by kernel_rfl))
 f166:=Tryz.func57.trans (congrArg some (by kernel_rfl))
 f169:=Tryz.func31.trans (congrArg some (by kernel_rfl))
 f240:=Tryz.func93.trans (congrArg some (by kernel_rfl))
 f241:=Tryz.func188.trans (congrArg some (by kernel_rfl))
 f276:=Tryz.func136.trans (congrArg some (by kernel_rfl))
 f277:=Tryz.func206.trans (congrArg some (by kernel_rfl))
 t0:=Tryz.underlying0
 a0:=Tryz.isAgg0
 z0:=Tryz.sizeOf0
 v0:=Tryz.zeroValue0
 t3:=Tryz.underlying3
 a3:=Tryz.isAgg3
 z3:=Tryz.sizeOf3
 v3:=Tryz.zeroValue3
 t4:=Tryz.underlying4
 a4:=Tryz.isAgg4
 z4:=Tryz.sizeOf4
 v4:=Tryz.zeroValue4
 t9:=Tryz.underlying9
 a9:=Tryz.isAgg9
 z9:=Tryz.sizeOf9
 v9:=Tryz.zeroValue9
 t20:=Tryz.underlying20
 a20:=Tryz.isAgg20
 z20:=Tryz.sizeOf20
 v20:=Tryz.zeroValue20
 t31:=Tryz.underlying22
 a31:=Tryz.isAgg22
 z31:=Tryz.sizeOf22
 v31:=Tryz.zeroValue22
 t37:=Tryz.underlying39
 a37:=Tryz.isAgg39
 z37:=Tryz.sizeOf39
 v37:=Tryz.zeroValue39
 t70:=Tryz.underlying63
 a70:=Tryz.isAgg63
 z70:=Tryz.sizeOf63
 v70:=Tryz.zeroValue63
 t72:=Tryz.underlying65
 a72:=Tryz.isAgg65
 z72:=Tryz.sizeOf65
 v72:=Tryz.zeroValue65
 t75:=Tryz.underlying95
 a75:=Tryz.isAgg95
 z75:=Tryz.sizeOf95
 v75:=Tryz.zeroValue95
 t76:=Tryz.underlying96
 a76:=Tryz.isAgg96
 z76:=Tryz.sizeOf96
 v76:=Tryz.zeroValue96
 t127:=Tryz.underlying106
 a127:=Tryz.isAgg106
 z127:=Tryz.sizeOf106
 v127:=Tryz.zeroValue106
 t164:=Tryz.underlying175
 a164:=Tryz.isAgg175
 z164:=Tryz.sizeOf175
 v164:=Tryz.zeroValue175 }
theorem Tryz.Builder_Extra_156:Builder.Extra Tryz.prog Tryz.lays156_ren:={
 sizeBuilder:=by kernel_rfl
 liesBuilder:=by kernel_rfl
 t5:=Tryz.underlying5
 a5:=Tryz.isAgg5
 z5:=Tryz.sizeOf5
 v5:=Tryz.zeroValue5
 infoByte:=by kernel_rfl
 cellsByte:=by kernel_rfl
 sizeByte:=by kernel_rfl
 neB5:=by decide }
open Go.RowKit in
theorem Tryz.strings_Join_none(a:Option Addr)(c:Nat)(sep:ByteArray)(w:World) :
  Calls Tryz.prog 113 #[.slice a 0 c,.string sep] w fun e w'=>e=.returned (.string ⟨#[]⟩)/\w'=w:=Any.strings_Join_none Tryz.lays156 Tryz.Builder_Extra_156 a c sep w
open Go.RowKit in
theorem Tryz.strings_Join(bk o c:Nat)(xs:List ByteArray)(sep:ByteArray)(w:World)(hcells:∀(j:Nat) x,xs[j]?=some x->w.cell? ⟨bk,o+j,none⟩=some (.string x))(hbk:bk<w.heap.size)(hN:xs.length<=140737488355328)(hcap:xs.length<=c)(hlen:(Lib.join (xs.map (·.data.toList)) sep.data.toList).length<=140737488355328) :
  Calls Tryz.prog 113 #[.slice (some ⟨bk,o,none⟩) xs.length c,.string sep] w fun e w'=>e=.returned (.string ⟨(Lib.join (xs.map (·.data.toList)) sep.data.toList).toArray⟩)/\Below w.heap.size w w':=Any.strings_Join Tryz.lays156 Tryz.Builder_Extra_156 bk o c xs sep w hcells hbk hN hcap hlen
def Tryz.lays283_ren:Go.Shelf.Ren:=⟨fun|283=>147|n=>n,fun|3=>3|9=>9|4=>4|n=>n,fun|n=>n⟩
theorem Tryz.lays283:Go.Proofs.Lays.n283 Tryz.prog Tryz.lays283_ren:={
 mixed:=by kernel_rfl
 f283:=Tryz.func147.trans (congrArg some (by kernel_rfl))
 t3:=Tryz.underlying3
 a3:=Tryz.isAgg3
 z3:=Tryz.sizeOf3
 v3:=Tryz.zeroValue3
 t4:=Tryz.underlying4
 a4:=Tryz.isAgg4
 z4:=Tryz.sizeOf4
 v4:=Tryz.zeroValue4
 t9:=Tryz.underlying9
 a9:=Tryz.isAgg9
 z9:=Tryz.sizeOf9
 v9:=Tryz.zeroValue9 }
open Go.Lib in
theorem Tryz.internal_strconv_small(i:Nat)(h:i<100)(w:World) :
  Calls Tryz.prog 147 #[.int .i64 i] w fun e w'=>e=.returned (.string ⟨(Lib.decDigits i).toArray⟩)/\w'=w:=Any.internal_strconv_small Tryz.lays283 i h w
def Tryz.laysM284_ren:Go.Shelf.Ren:=⟨fun|284=>148|129=>178|317=>177|318=>179|n=>n,fun|53=>116|3=>3|212=>214|0=>0|4=>4|46=>171|5=>5|9=>9|n=>n,fun|17=>1|n=>n⟩
theorem Tryz.laysM284:Go.Proofs.LaysM.n284 Tryz.prog Tryz.laysM284_ren:={
 mixed:=by kernel_rfl
 f129:=Tryz.func178.trans (congrArg some (by kernel_rfl))
 f284:=Tryz.func148.trans (congrArg some (by kernel_rfl))
 f317:=Tryz.func177.trans (congrArg some (by kernel_rfl))
 f318:=Tryz.func179.trans (congrArg some (by kernel_rfl))
 t0:=Tryz.underlying0
 a0:=Tryz.isAgg0
 z0:=Tryz.sizeOf0
 v0:=Tryz.zeroValue0
 t3:=Tryz.underlying3
 a3:=Tryz.isAgg3
 z3:=Tryz.sizeOf3
 v3:=Tryz.zeroValue3
 t4:=Tryz.underlying4
 a4:=Tryz.isAgg4
 z4:=Tryz.sizeOf4
 v4:=Tryz.zeroValue4
 t5:=Tryz.underlying5
 a5:=Tryz.isAgg5
 z5:=Tryz.sizeOf5
 v5:=Tryz.zeroValue5
 t9:=Tryz.underlying9
 a9:=Tryz.isAgg9
 z9:=Tryz.sizeOf9
 v9:=Tryz.zeroValue9
 t46:=Tryz.underlying171
 a46:=Tryz.isAgg171
 z46:=Tryz.sizeOf171
 v46:=Tryz.zeroValue171
 t53:=Tryz.underlying116
 a53:=Tryz.isAgg116
 z53:=Tryz.sizeOf116
 v53:=Tryz.zeroValue116
 t212:=Tryz.underlying214
 a212:=Tryz.isAgg214
 z212:=Tryz.sizeOf214
 v212:=Tryz.zeroValue214
 g17:=by kernel_rfl
 i0:=by kernel_rfl
 i3:=by kernel_rfl
 i4:=by kernel_rfl
 i5:=by kernel_rfl
 i9:=by kernel_rfl
 i46:=by kernel_rfl
 i53:=by kernel_rfl
 i212:=by kernel_rfl
 m17:=by kernel_rfl }
open Go.Lib in
theorem Tryz.internal_strconv_numDigits (u : Nat) (h1 : 1 <= u) (h2 : u < 18446744073709551616) (w : World) (htab : Lib.TabIs Tryz.prog w "internal/strconv.uint64pow10" .u64 Lib.pow10Tab) :
    Calls Tryz.prog 148 #[.int .u64 u] w fun e w' => e = .returned (.int .i64 (Lib.nDigits u)) /\ w' = w := Any.internal_strconv_numDigits Tryz.laysM284 u h1 h2 w htab
def Tryz.lays285_ren:Go.Shelf.Ren:=⟨fun|285=>149|n=>n,fun|37=>39|53=>116|3=>3|4=>4|51=>36|9=>9|5=>5|0=>0|n=>n,fun|n=>n⟩
theorem Tryz.lays285:Go.Proofs.Lays.n285 Tryz.prog Tryz.lays285_ren:={
 mixed:=by kernel_rfl
 f285:=Tryz.func149.trans (congrArg some (by kernel_rfl))
 t0:=Tryz.underlying0
 a0:=Tryz.isAgg0
 z0:=Tryz.sizeOf0
 v0:=Tryz.zeroValue0
 t3:=Tryz.underlying3
 a3:=Tryz.isAgg3
 z3:=Tryz.sizeOf3
 v3:=Tryz.zeroValue3
 t4:=Tryz.underlying4
 a4:=Tryz.isAgg4
 z4:=Tryz.sizeOf4
 v4:=Tryz.zeroValue4
 t5:=Tryz.underlying5
 a5:=Tryz.isAgg5
 z5:=Tryz.sizeOf5
 v5:=Tryz.zeroValue5
 t9:=Tryz.underlying9
 a9:=Tryz.isAgg9
 z9:=Tryz.sizeOf9
 v9:=Tryz.zeroValue9
 t37:=Tryz.underlying39
 a37:=Tryz.isAgg39
 z37:=Tryz.sizeOf39
 v37:=Tryz.zeroValue39
 t51:=Tryz.underlying36
 a51:=Tryz.isAgg36
 z51:=Tryz.sizeOf36
 v51:=Tryz.zeroValue36
 t53:=Tryz.underlying116
 a53:=Tryz.isAgg116
 z53:=Tryz.sizeOf116
 v53:=Tryz.zeroValue116 }
open Go.RowKit Go.Sort Go.Lib in
theorem Tryz.internal_strconv_formatBase10(blk off cap:Nat)(u:Nat)(d:Array UInt8)(w:World)(hH:Holds (fun (b:UInt8)=>Value.int .u8 (b.toNat:Int)) w blk off d)(hu:u<10 ^ d.size)(hu64:u<18446744073709551616)(hsz:d.size<4611686018427387904) :
  Calls Tryz.prog 149 #[.slice (some ⟨blk,off,none⟩) d.size cap,.int .u64 u] w fun e w'=>
   e=.returned (.tuple #[])/\∃(n v':Nat) (dk:Array UInt8),w'=(putRow (fun (b:UInt8)=>Value.int .u8 (b.toNat:Int)) w blk off dk).drewN n/\FmtInv d.size u 0 v' dk:=Any.internal_strconv_formatBase10 Tryz.lays285 blk off cap u d w hH hu hu64 hsz
def Tryz.laysM171_ren:Go.Shelf.Ren:=⟨fun|171=>154|243=>189|246=>207|283=>147|284=>148|285=>149|286=>150|129=>178|317=>177|318=>179|319=>180|320=>181|337=>201|338=>202|n=>n,fun|3=>3|9=>9|2=>2|4=>4|171=>184|0=>0|53=>116|37=>39|5=>5|173=>187|212=>214|51=>36|20=>20|213=>215|46=>171|232=>247|233=>248|n=>n,fun|17=>1|18=>4|19=>5|n=>n⟩
theorem Tryz.laysM171:Go.Proofs.LaysM.n171 Tryz.prog Tryz.laysM171_ren:={
 mixed:=by kernel_rfl
 f129:=Tryz.func178.trans (congrArg some (by kernel_rfl))
 f171:=Tryz.func154.trans (congrArg some (by kernel_rfl))
 f243:=Tryz.func189.trans (congrArg some (by kernel_rfl))
 f246:=Tryz.func207.trans (congrArg some (by kernel_rfl))
 f283:=Tryz.func147.trans (congrArg some (by kernel_rfl))
 f284:=Tryz.func148.trans (congrArg some (by kernel_rfl))
 f285:=Tryz.func149.trans (congrArg some (by kernel_rfl))
 f286:=Tryz.func150.trans (congrArg some (by kernel_rfl))
 f317:=Tryz.func177.trans (congrArg some (by kernel_rfl))
 f318:=Tryz.func179.trans (congrArg some (by kernel_rfl))
 f319:=Tryz.func180.trans (congrArg some (by kernel_rfl))
 f320:=Tryz.func181.trans (congrArg some (by kernel_rfl))
 f337:=Tryz.func201.trans (congrArg some (by kernel_rfl))
 f338:=Tryz.func202.trans (congrArg some (by kernel_rfl))
 t0:=Tryz.underlying0
 a0:=Tryz.isAgg0
 z0:=Tryz.sizeOf0
 v0:=Tryz.zeroValue0
 t2:=Tryz.underlying2
 a2:=Tryz.isAgg2
 z2:=Tryz.sizeOf2
 v2:=Tryz.zeroValue2
 t3:=Tryz.underlying3
 a3:=Tryz.isAgg3
 z3:=Tryz.sizeOf3
 v3:=Tryz.zeroValue3
 t4:=Tryz.underlying4
 a4:=Tryz.isAgg4
 z4:=Tryz.sizeOf4
 v4:=Tryz.zeroValue4
 t5:=Tryz.underlying5
 a5:=Tryz.isAgg5
 z5:=Tryz.sizeOf5
 v5:=Tryz.zeroValue5
 t9:=Tryz.underlying9
 a9:=Tryz.isAgg9
 z9:=Tryz.sizeOf9
 v9:=Tryz.zeroValue9
 t20:=Tryz.underlying20
 a20:=Tryz.isAgg20
 z20:=Tryz.sizeOf20
 v20:=Tryz.zeroValue20
 t37:=Tryz.underlying39
 a37:=Tryz.isAgg39
 z37:=Tryz.sizeOf39
 v37:=Tryz.zeroValue39
 t46:=Tryz.underlying171
 a46:=Tryz.isAgg171
 z46:=Tryz.sizeOf171
 v46:=Tryz.zeroValue171
 t51:=Tryz.underlying36
 a51:=Tryz.isAgg36
 z51:=Tryz.sizeOf36
 v51:=Tryz.zeroValue36
 t53:=Tryz.underlying116
 a53:=Tryz.isAgg116
 z53:=Tryz.sizeOf116
 v53:=Tryz.zeroValue116
 t171:=Tryz.underlying184
 a171:=Tryz.isAgg184
 z171:=Tryz.sizeOf184
 v171:=Tryz.zeroValue184
 t173:=Tryz.underlying187
 a173:=Tryz.isAgg187
 z173:=Tryz.sizeOf187
 v173:=Tryz.zeroValue187
 t212:=Tryz.underlying214
 a212:=Tryz.isAgg214
 z212:=Tryz.sizeOf214
 v212:=Tryz.zeroValue214
 t213:=Tryz.underlying215
 a213:=Tryz.isAgg215
 z213:=Tryz.sizeOf215
 t232:=Tryz.underlying247
 a232:=Tryz.isAgg247
 z232:=Tryz.sizeOf247
 v232:=Tryz.zeroValue247
 t233:=Tryz.underlying248
 a233:=Tryz.isAgg248
 z233:=Tryz.sizeOf248
 v233:=Tryz.zeroValue248
 g17:=by kernel_rfl
 g18:=by kernel_rfl
 g19:=by kernel_rfl
 i0:=by kernel_rfl
 i2:=by kernel_rfl
 i3:=by kernel_rfl
 i4:=by kernel_rfl
 i5:=by kernel_rfl
 i9:=by kernel_rfl
 i20:=by kernel_rfl
 i37:=by kernel_rfl
 i46:=by kernel_rfl
 i51:=by kernel_rfl
 i53:=by kernel_rfl
 i171:=by kernel_rfl
 i173:=by kernel_rfl
 i212:=by kernel_rfl
 i232:=by kernel_rfl
 i233:=by kernel_rfl
 m17:=by kernel_rfl
 m18:=by kernel_rfl
 m19:=by kernel_rfl }
open Go.RowKit Go.Sort Go.Lib in
theorem Tryz.strconv_Itoa (n : Int) (h0 : -9223372036854775808 <= n) (h1 : n <= 9223372036854775807) (w : World) (htab : Lib.TabIs Tryz.prog w "internal/strconv.uint64pow10" .u64 Lib.pow10Tab) :
    Calls Tryz.prog 154 #[.int .i64 n] w fun e w' => e = .returned (.string ⟨(Lib.itoa n).toArray⟩) /\ ∃ k os, w' = grow (w.drewN k) os := Any.strconv_Itoa Tryz.laysM171 n h0 h1 w htab
def Tryz.lays157_ren:Go.Shelf.Ren:=⟨fun|157=>155|229=>190|199=>191|261=>208|311=>220|312=>221|n=>n,fun|9=>9|31=>22|3=>3|5=>5|4=>4|119=>221|0=>0|40=>223|152=>233|21=>21|154=>235|51=>36|141=>237|196=>256|193=>253|198=>258|49=>33|194=>254|201=>261|226=>273|46=>171|227=>274|n=>n,fun|0=>2|6=>3|n=>n⟩
theorem Tryz.lays157:Go.Proofs.Lays.n157 Tryz.prog Tryz.lays157_ren:={
 mixed:=by kernel_rfl
 f157:=Tryz.func155.trans (congrArg some (by kernel_rfl))
 f199:=Tryz.func191.trans (congrArg some (by kernel_rfl))
 f229:=Tryz.func190.trans (congrArg some (by kernel_rfl))
 f261:=Tryz.func208.trans (congrArg some (by kernel_rfl))
 f311:=Tryz.func220.trans (congrArg some (by kernel_rfl))
 f312:=Tryz.func221.trans (congrArg some (by kernel_rfl))
 t0:=Tryz.underlying0
 a0:=Tryz.isAgg0
 z0:=Tryz.sizeOf0
 v0:=Tryz.zeroValue0
 t3:=Tryz.underlying3
 a3:=Tryz.isAgg3
 z3:=Tryz.sizeOf3
 v3:=Tryz.zeroValue3
 t4:=Tryz.underlying4
 a4:=Tryz.isAgg4
 z4:=Tryz.sizeOf4
 v4:=Tryz.zeroValue4
 t5:=Tryz.underlying5
 a5:=Tryz.isAgg5
 z5:=Tryz.sizeOf5
 v5:=Tryz.zeroValue5
 t9:=Tryz.underlying9
 a9:=Tryz.isAgg9
 z9:=Tryz.sizeOf9
 v9:=Tryz.zeroValue9
 t21:=Tryz.underlying21
 a21:=Tryz.isAgg21
 z21:=Tryz.sizeOf21
 v21:=Tryz.zeroValue21
 t31:=Tryz.underlying22
 a31:=Tryz.isAgg22
 z31:=Tryz.sizeOf22
 v31:=Tryz.zeroValue22
 t40:=Tryz.underlying223
 a40:=Tryz.isAgg223
 z40:=Tryz.sizeOf223
 v40:=Tryz.zeroValue223
 t46:=Tryz.underlying171
 a46:=Tryz.isAgg171
 z46:=Tryz.sizeOf171
 v46:=Tryz.zeroValue171
 t49:=Tryz.underlying33
 a49:=Tryz.isAgg33
 z49:=Tryz.sizeOf33
 v49:=Tryz.zeroValue33
 t51:=Tryz.underlying36
 a51:=Tryz.isAgg36
 z51:=Tryz.sizeOf36
 v51:=Tryz.zeroValue36
 t119:=Tryz.underlying221
 a119:=Tryz.isAgg221
 z119:=Tryz.sizeOf221
 t141:=Tryz.underlying237
 a141:=Tryz.isAgg237
 z141:=Tryz.sizeOf237
 v141:=Tryz.zeroValue237
 t152:=Tryz.underlying233
 a152:=Tryz.isAgg233
 z152:=Tryz.sizeOf233
 v152:=Tryz.zeroValue233
 t154:=Tryz.underlying235
 a154:=Tryz.isAgg235
 z154:=Tryz.sizeOf235
 v154:=Tryz.zeroValue235
 t193:=Tryz.underlying253
 a193:=Tryz.isAgg253
 z193:=Tryz.sizeOf253
 v193:=Tryz.zeroValue253
 t194:=Tryz.underlying254
 a194:=Tryz.isAgg254
 z194:=Tryz.sizeOf254
 v194:=Tryz.zeroValue254
 t196:=Tryz.underlying256
 a196:=Tryz.isAgg256
 z196:=Tryz.sizeOf256
 v196:=Tryz.zeroValue256
 t198:=Tryz.underlying258
 a198:=Tryz.isAgg258
 z198:=Tryz.sizeOf258
 v198:=Tryz.zeroValue258
 t201:=Tryz.underlying261
 a201:=Tryz.isAgg261
 z201:=Tryz.sizeOf261
 v201:=Tryz.zeroValue261
 t226:=Tryz.underlying273
 a226:=Tryz.isAgg273
 z226:=Tryz.sizeOf273
 v226:=Tryz.zeroValue273
 t227:=Tryz.underlying274
 a227:=Tryz.isAgg274
 z227:=Tryz.sizeOf274
 v227:=Tryz.zeroValue274
 g0:=by kernel_rfl
 g6:=by kernel_rfl }
open Go.RowKit Go.Lib in
theorem Tryz.strings_Fields (s : ByteArray) (w : World) (hs : s.size < 4294967281) (hascii : ∀ (j : Nat) b, s.data.toList[j]? = some b -> b.toNat < 128) (htab : Lib.TabIs Tryz.prog w "strings.asciiSpace" .u8 Lib.asciiSpaceTab) :
    Calls Tryz.prog 155 #[.string s] w fun e w' =>
      e = .returned (.slice (some ⟨w.heap.size, 0, none⟩) (Lib.fields s.data.toList).length (Lib.fields s.data.toList).length) /\ w' = w.alloc (.cells ((Lib.fields s.data.toList).map fun l => Value.string ⟨l.toArray⟩).toArray 9) := Any.strings_Fields Tryz.lays157 (by kernel_rfl) (by kernel_rfl) s w hs hascii htab
end Go.Proofs
namespace Go.Proofs.YtoppdmlmhigogaaGreatDoor
open Go.ChangeShapes Go.WideShapes Go.ChangeAt Go.RowKit Go.Sort
theorem gPow : Tryz.prog.globalNamed "internal/strconv.uint64pow10" = some 1 := by kernel_rfl
theorem gSp : Tryz.prog.globalNamed "strings.asciiSpace" = some 2 := by kernel_rfl
def LayT (w : World) : Prop := Lib.TabIs Tryz.prog w "internal/strconv.uint64pow10" .u64 Lib.pow10Tab /\ Lib.TabIs Tryz.prog w "strings.asciiSpace" .u8 Lib.asciiSpaceTab /\ 5 < w.heap.size /\ w.cell? ⟨5, 15, none⟩ = some (.int .u8 4)
theorem cell_below{w w':World}{g o:Nat}(hb:Below w.heap.size w w')(hg:g<w.heap.size):w'.cell? ⟨g,o,none⟩=w.cell? ⟨g,o,none⟩:=by
 unfold World.cell?
 rw[hb.block g hg]
theorem LayT.below{w w':World}(h:LayT w)(hb:Below w.heap.size w w'):LayT w':=⟨Joins.tab_stays gPow h.1 hb (Nat.le_refl _),Joins.tab_stays gSp h.2.1 hb (Nat.le_refl _),Nat.lt_of_lt_of_le h.2.2.1 hb.size,by rw[cell_below hb h.2.2.1];exact h.2.2.2⟩
theorem itoa_nat(n:Nat)(h1:n<9223372036854775808)(w:World)(hL:LayT w) :
  Calls Tryz.prog 154 #[.int .i64 n] w fun e w'=>e=.returned (.string ⟨(Lib.decDigits n).toArray⟩)/\Hid (Below w.heap.size w w'):=by
 refine (Tryz.strconv_Itoa n (by omega) (by omega) w hL.1).mono ?_
 rintro e w' ⟨rfl,k,os,rfl⟩
 rw[Lib.itoa_nonneg]
 exact ⟨rfl,Lib.below_grow _ w (Nat.le_refl _) k os⟩
theorem holds_z(w:World)(T:TypeId)(nd:Nat)(hs:nd<=24):Holds (fun (b:UInt8)=>Value.int .u8 (b.toNat:Int)) (w.alloc (.cells Lib.zeros24 T)) w.heap.size 0 (Array.replicate nd (0:UInt8)):=fun j hj=>by
 have hj':j<nd:=by simpa using hj
 refine ⟨?_,World.frozen?_alloc_new _ _ _ _⟩
 rw[World.cell?_alloc_new,Lib.zeros24_at _ (by omega),getElem!_pos _ j hj]
 simp
theorem fin_z(w:World)(o:Obj)(dk:Array UInt8)(k:Nat):∃os,(putRow (fun (b:UInt8)=>Value.int .u8 (b.toNat:Int)) (w.alloc o) w.heap.size 0 dk).drewN k=grow (w.drewN k) os:=by
 rw[alloc_eq_grow]
 obtain ⟨os',_,e⟩:=putRow_grow_new (fun (b:UInt8)=>Value.int .u8 (b.toNat:Int)) w #[o] w.heap.size 0 dk (Nat.le_refl _)
 exact ⟨os',by rw[e];rfl⟩
theorem fmt10_in (u : Nat) (hu64 : u < 18446744073709551616) (w : World) (hL : LayT w) :
    Calls Tryz.prog 110 #[.int .u64 u, .int .i64 10] w fun e w' => e = .returned (.string ⟨(Lib.decDigits u).toArray⟩) /\ Hid (Below w.heap.size w w') := by
  have HT : Hid (Lib.TabIs Tryz.prog w "internal/strconv.uint64pow10" .u64 Lib.pow10Tab) := hL.1
  clear hL
  by_cases hs : u < 100
  · have hs' : (u : Int) < 100 := by omega
    go_enter Tryz.func110, Tryz.ntmps110
    go_wp2_with fail
    refine (Tryz.internal_strconv_small u hs _).mono ?_
    rintro e w' ⟨rfl, rfl⟩
    go_wp2_with fail
    go_ret
    exact ⟨rfl, Below.refl _ _⟩
  · have hu1 : 1 <= u := by omega
    have hs' : ¬ (u : Int) < 100 := by omega
    have hnd20 : Lib.nDigits u <= 20 := by have := Lib.numDigits_eq u hu1 hu64; split at this <;> omega
    have hb3 : Lib.nDigits u <= 23 := by omega
    have hal : Tryz.prog.arrayLen 184 = 24 := by kernel_rfl
    have hsl1 : ∀ W, (Instr.sliceAt 184 (.pointer (some ⟨w.heap.size, 0, none⟩)) none (some (.int .i64 (Lib.nDigits u : Int))) none).run Tryz.prog W = .ok (.slice (some ⟨w.heap.size, 0, none⟩) (Lib.nDigits u) 24) W := fun W => by
      rw [run_sliceAt_array_h W 184 ⟨w.heap.size, 0, none⟩ (by simp [Program.arrayLen, Program.elem, Tryz.underlying184]) .i64 (Lib.nDigits u : Int) (by omega) (by rw [hal]; omega)]
      go_simp
    have hH0 := holds_z w 184 (Lib.nDigits u) (by omega)
    have hfmt := Tryz.internal_strconv_formatBase10 w.heap.size 0 24 u (Array.replicate (Lib.nDigits u) 0) (w.alloc (.cells Lib.zeros24 184)) hH0 (by rw [Array.size_replicate]; exact Lib.lt_pow_nDigits u) hu64 (by rw [Array.size_replicate]; omega)
    rw [Array.size_replicate] at hfmt
    have HF := Lib.hid hfmt
    have HH0 := Lib.hid hH0
    clear hH0 hal hfmt
    go_enter Tryz.func110, Tryz.ntmps110
    go_wp2_with fail
    refine (Tryz.internal_strconv_numDigits u hu1 hu64 _ (Lib.tabIs_alloc HT.out _)).mono ?_
    rintro e w' ⟨rfl, rfl⟩
    go_wp2_with fail
    refine HF.out.mono ?_
    rintro e w' ⟨rfl, k, v', dk, rfl, hF⟩
    have hcv : (convert 39 9 (.slice (some ⟨w.heap.size, 0, none⟩) (Lib.nDigits u) 24)).run Tryz.prog ((putRow (fun (b : UInt8) => Value.int .u8 (b.toNat : Int)) (w.alloc (.cells Lib.zeros24 184)) w.heap.size 0 dk).drewN k) = .ok (.string ⟨(Lib.decDigits u).toArray⟩) ((putRow (fun (b : UInt8) => Value.int .u8 (b.toNat : Int)) (w.alloc (.cells Lib.zeros24 184)) w.heap.size 0 dk).drewN k) := by
      have h := run_convert_bytes_back (P := Tryz.prog) ((putRow (fun (b : UInt8) => Value.int .u8 (b.toNat : Int)) (w.alloc (.cells Lib.zeros24 184)) w.heap.size 0 dk).drewN k) 39 9 5 ⟨w.heap.size, 0, none⟩ 24 (Lib.decDigits u) Tryz.underlying39 Tryz.underlying5 Tryz.underlying9 (fun j hj => by
        rw [Lib.row_is_numeral hF j hj, Lib.add_plain, World.cell?_drewN]
        exact cell?_putRow (fun (b : UInt8) => Value.int .u8 (b.toNat : Int)) _ w.heap.size 0 _ dk HH0.out (by rw [hF.size, Array.size_replicate]) j (by rw [hF.size]; rw [Lib.decDigits_length] at hj; exact hj))
      rw [Lib.decDigits_length] at h
      exact h
    go_wp2
    go_ret
    obtain ⟨os, eo⟩ := fin_z w (.cells Lib.zeros24 184) dk k
    refine ⟨rfl, ?_⟩
    show Below _ _ _
    rw [eo]
    exact Lib.below_grow _ w (Nat.le_refl _) k os
theorem fmt10(u:Nat)(hu64:u<18446744073709551616)(w:World)(hL:LayT w) :
  Calls Tryz.prog 78 #[.int .u64 u,.int .i64 10] w fun e w'=>e=.returned (.string ⟨(Lib.decDigits u).toArray⟩)/\Hid (Below w.heap.size w w'):=by
 have K:Hid (LayT w):=hL
 go_enter Tryz.func78,Tryz.ntmps78
 go_wp2_with fail
 refine (fmt10_in u hu64 w K.out).mono ?_
 rintro e w' ⟨rfl,H⟩
 go_wp2_with fail
 go_ret
 exact ⟨rfl,H.out⟩
end Go.Proofs.YtoppdmlmhigogaaGreatDoor
