/- Texts laid together, in parts: Hn Hq Nxk Qa Sd Ak Qb Qd Un. -/
import Derived.Test.YtoppdmlmhigogaaGreatDoorWze
import Derived.Deep.CutBlock
import Derived.Lib.Bytealg
import Derived.WalkLawsBesides
import Derived.Deep.QuietTactic
import Derived.BigQuiet
import Derived.Deep.RegionHeld3
import Derived.Lib.MakeNoZero
import Derived.Lib.Builder
import Derived.Lib.UnsafeStr
set_option maxRecDepth 100000
set_option maxHeartbeats 8000000
set_option linter.unusedVariables false
set_option linter.unusedSimpArgs false
open Array renaming getElem?_eq_some_iff → As, replicate → CF
open Go renaming World → Ab, Calls → Ag, bodyPost_ret → An, Value → Ao, heap_alloc_new → Au, results → AJ, TypeId → BH, maxLen → Gi
open Go.IntKind renaming wrap_i64 → BZ, i64 → CV
open Go.Lib renaming hid → Ac, byteCells → Ak, indexByte → Bu, byteCells_length → Dr
open Go.Proofs.Tryz renaming prog → Aa, underlying39 → AI, results244 → Gj, results228 → Jm, ntmps23 → Mu, func23 → NN
open Go.Region renaming wanted → FQ
open Go.RowKit.Below renaming refl → Ae, heap_setCell → Ar, heap_alloc → EP
open Go.Value renaming int → AL
open Go.World renaming cell? → Az, cell?_of_block → AE, setCell → Dq, frozen? → Dv
open Go.World.grownBy renaming refl → DU
open Int renaming eq_ofNat_of_zero_le → DS
open List renaming length_append → Af, take_of_length_le → Al, getD_eq_getElem?_getD → Am, length_eq_zero_iff → Aq, mem_cons → Ax, mem_append → AG, replicate → AM, length_cons → AP, mem_map → AY, mem_singleton → Bc, length_singleton → Ch, flatMap_cons → Cn, length_take → CC, length_nil → CZ, not_mem_nil → Ep, length → FH, length_replicate → LI, mem_replicate → MW
open Nat renaming le_refl → Ad, le_trans → Aj, lt_of_lt_of_le → Ap, zero_le → Aw, zero_add → Fg
open Option.some renaming inj → Bf
open UInt8 renaming ofNat → CS
namespace Go.Proofs.YtoppdmlmhigogaaGreatDoor
open Go.ChangeShapes Go.WideShapes Go.ChangeAt Go.RowKit
theorem Em.off{w w':Ab}{b g:Nat}{f:Fs}(h:Em w b f)(hg:w.grownBy w' (some g))(hne:g≠b):Em w' b f:=by
 obtain⟨h0,h1,h2,h3,h4,h5,h6,h7,hl⟩:=h;have hb:w'.heap[b]?=w.heap[b]?:=hg.block b hl (fun e=>by cases e;omega);exact⟨(AE hb).trans h0,(AE hb).trans h1,(AE hb).trans h2,(AE hb).trans h3,(AE hb).trans h4,(AE hb).trans h5,(AE hb).trans h6,(AE hb).trans h7,Ap hl hg.size⟩
theorem RS.rebase{Wb W:Ab}{g:Nat}{a:Option Addr}{len cap:Nat}{zs:List Int}{st:Option Nat}(h:RS Wb W g a len cap zs st):RS W W g a len cap zs st:=
 ⟨h.rst,DU _ _,h.rdW,h.hl,h.hc,h.hd,h.off,Ap h.gl h.kp.size,h.hm⟩
theorem RS.back{Wb W W':Ab}{g:Nat}{a:Option Addr}{len cap:Nat}{zs:List Int}{st st':Option Nat}(h:RS Wb W g a len cap zs st)(h':RS W W' g a len cap zs st'):RS Wb W' g a len cap zs st':=h.to h'.rst h'.kp
theorem Ea.mono{B B':Nat}{w:Ab}{s:Sl}{us:List Nat}(h:Ea B w s us)(hB:B'<=B):Ea B' w s us:=by
 obtain⟨xs,h1,h2⟩:=h;exact⟨xs,h1.mono hB,h2⟩
theorem Dk.mono{B B':Nat}{w:Ab}{v:Ao}{nss:List (List ByteArray)}(h:Dk B w v nss)(hB:B'<=B):Dk B' w v nss:=by
 obtain⟨xs,h1,h2⟩:=h;refine⟨xs,h1.mono hB,fun i hi=>?_⟩;obtain⟨s,e1,e2⟩:=h2 i hi;exact⟨s,e1,e2.mono hB⟩
theorem GO.mono{B B':Nat}{w:Ab}{s:Sl}{zs:List Int}(h:GO B w s zs)(hB:B'<=B):GO B' w s zs:=by
 obtain⟨xs,h1,h2⟩:=h;exact⟨xs,Vw h1 hB,h2⟩
theorem Ea.offTy{B:Nat}{w w':Ab}{s:Sl}{us:List Nat}(h:Ea B w s us)(hg:∃o,w.grownBy w' o/\∀j,o=some j->B<=j/\∃zs,Co w j 23 zs):Ea B w' s us:=by
 obtain⟨o,h1,h2⟩:=hg;refine h.keepTy fun j _ hj ⟨zs,hz⟩=>h1.block j hj (fun e=>?_)
 obtain⟨_,zs',hz'⟩:=h2 j e.symm;exact absurd (TR hz hz') (by decide)
theorem BU.offTy{B:Nat}{w w':Ab}{s:Sl}{us:List ByteArray}(h:BU B w s us)(hg:∃o,w.grownBy w' o/\∀j,o=some j->B<=j/\∃zs,Co w j 23 zs):BU B w' s us:=by
 obtain⟨o,h1,h2⟩:=hg;refine h.keep fun j _ hj ⟨zs,hz⟩=>h1.block j hj (fun e=>?_)
 obtain⟨_,zs',hz'⟩:=h2 j e.symm;exact absurd (TR hz hz') (by decide)
theorem RS.offTy{Wb W W':Ab}{g:Nat}{a:Option Addr}{len cap:Nat}{zs:List Int}{st:Option Nat}(h:RS Wb W g a len cap zs st)(hg:∃o,W.grownBy W' o/\∀j,o=some j->Wb.heap.size<=j/\∃zs,Co W j 23 zs):RS Wb W' g a len cap zs st:=by
 obtain⟨o,h1,h2⟩:=hg;exact h.app h1 (fun j hj=>(h2 j hj).1)
theorem BD.offTy{W W':Ab}{D B:Nat}{x:DA}(h:BD W D x)(hg:∃o,W.grownBy W' o/\∀j,o=some j->B<=j/\∃zs,Co W j 23 zs):BD W' D x:=by
 obtain⟨o,h1,h2⟩:=hg;refine h.same (h1.block D h.lt (fun e=>?_));obtain⟨_,zs',hz'⟩:=h2 D e.symm;have hh:=h;have hh':W.heap[D]?=some (.cells zs'.toArray 23 (0,0)):=hz';rw[hh]at hh';injection hh' with hh'
 injection hh' with _ hh'
 exact absurd hh' (by decide)
theorem BD.call{W W':Ab}{D g:Nat}{x:DA}(h:BD W D x)(hg:W.grownBy W' (some g))(hne:g<D):BD W' D x:=h.same (hg.block D h.lt (fun e=>by cases e;omega))
theorem NY(W:Ab):BD (W.alloc (.cells #[.slice none 0 0,.slice none 0 0,.slice none 0 0,.slice none 0 0] 41)) W.heap.size Bo:=Au _ _
theorem gE(a:Option Addr)(len cap:Nat)(zs:List Int)(w:Ab)(hr:Rd w a zs)(hl:zs.length=len)(hm:len<=65535)(hn:a=none->cap=0) :
  Ag Aa 259 #[.slice a len cap] w fun e w'=>∃gr a' ca,e=.returned (.pointer (some ⟨gr,0,none⟩))/\Hid (w.heap.size<=gr/\RS w' w' gr a' len ca zs (some 0)/\Blw w w'):=by
 subst hl;cases a with
 |none=>
  have e0:=hn rfl;have ez:=qH hr;subst e0;subst ez;refine(iW w).mono ?_;rintro e w' ⟨gr,a',ca,rfl,H⟩;obtain⟨q1,q2,q3,q4,q5,q6,q7,q8⟩:=H.out;exact⟨gr,a',ca,rfl,q1,⟨⟨q2,Aw _⟩,DU _ _,q3,rfl,q4,q5,q6,q2.lt,hm⟩,q8⟩
 |some x=>
  refine(Zv x cap zs w hr (by omega)).mono ?_;rintro e w' ⟨gr,a',ca,rfl,H⟩;obtain⟨q1,q2,q3,q4,q5,q6,q7,q8⟩:=H.out;exact⟨gr,a',ca,rfl,q1,⟨⟨q2,Aw _⟩,DU _ _,q3,rfl,q4,q5,q6,q2.lt,hm⟩,q8⟩
theorem Dk.keepTy{B:Nat}{w w':Ab}{v:Ao}{nss:List (List ByteArray)}(h:Dk B w v nss)(hb:∀j,B<=j->j<w.heap.size->(∃t zs,Co w j t zs/\(t=23∨t=9))->w'.heap[j]?=w.heap[j]?):Dk B w' v nss:=by
 obtain⟨xs,h1,h2⟩:=h;refine⟨xs,?_,fun i hi=>?_⟩
 ·obtain h1|⟨g,e,hg,hblk,hn⟩:=h1
  ·exact .inl h1
  ·exact .inr ⟨g,e,hg,hblk.same (hb g hg hblk.lt ⟨_,_,hblk,.inl rfl⟩),hn⟩
 ·obtain⟨s,e1,e2⟩:=h2 i hi;exact⟨s,e1,e2.keep (fun j h1 h2 ⟨zs,hz⟩=>hb j h1 h2 ⟨_,zs,hz,.inr rfl⟩)⟩
theorem BD.ne{W:Ab}{D j:Nat}{x:DA}{t:BH}{zs:List Ao}(h:BD W D x)(hz:Co W j t zs)(ht:t≠41):j≠D:=by
 rintro rfl;have hh:=h;have hh':W.heap[j]?=some (.cells zs.toArray t (0,0)):=hz;rw[hh]at hh';injection hh' with hh'
 injection hh' with _ hh'
 exact ht hh'.symm
abbrev set4(W:Ab)(D:Nat)(x:DA):Ab:=(WD3 W D x).setCell ⟨D,3,none⟩ (.slice x.p4.a x.p4.n x.p4.c)
theorem QV{W:Ab}{D:Nat}{y:DA}(h:BD W D y)(x:DA):BD (set4 W D x) D x:=(AD (AD (AD (AD h 0 _) 1 _) 2 _) 3 _).trans (by simp)
theorem Oo(W:Ab)(D:Nat)(x:DA)(j:Nat)(hj:j≠D):(set4 W D x).heap[j]?=W.heap[j]?:=
 (((Ar _ _ _ j hj).trans (Ar _ _ _ j hj)).trans (Ar _ _ _ j hj)).trans (Ar _ _ _ j hj)
theorem dE(W:Ab)(D:Nat)(x:DA):(set4 W D x).heap.size=W.heap.size:=by simp[set4,Dq]
theorem Xp(W:Ab)(D:Nat)(x:DA):W.grownBy (set4 W D x) (some D):=⟨rfl,rfl,rfl,by rw[dE];exact Ad _,fun j _ hne=>Oo W D x j (fun e=>hne (by rw[e]))⟩
structure OA(Wb W:Ab)(g:Nat)(a:Option Addr)(len cap:Nat)(zs:List Int)(st:Option Nat)(D:Nat)(x:DA)(d:Dat):Prop where
 rs:RS Wb W g a len cap zs st
 own:Dd Wb.heap.size W x d
 blk:BD W D x
 low:Wb.heap.size<=D
theorem RB(B:Nat)(w:Ab):GO B w ⟨none,0,0⟩ []:=⟨[],.inl ⟨rfl,rfl,rfl⟩,rfl⟩
theorem mI{Wb W:Ab}{g:Nat}{a:Option Addr}{len cap:Nat}{zs:List Int}{st:Option Nat}{tn su sx:Sl}{L:List (List ByteArray)}{us:List Nat}{ts:List ByteArray}
  (h:RS Wb W g a len cap zs st/\Dk Wb.heap.size W (.slice tn.a tn.n tn.c) L/\Ea Wb.heap.size W su us/\BU Wb.heap.size W sx ts) :
  OA Wb (W.alloc (.cells #[.slice tn.a tn.n tn.c,.slice su.a su.n su.c,.slice sx.a sx.n sx.c,.slice none 0 0] 41)) g a len cap zs st W.heap.size ⟨tn,su,sx,⟨none,0,0⟩⟩ ⟨L,us,ts,[]⟩:=by
 obtain⟨h1,h2,h3,h4⟩:=h;have hb:=Ah W (.cells #[.slice tn.a tn.n tn.c,.slice su.a su.n su.c,.slice sx.a sx.n sx.c,.slice none 0 0] 41);exact⟨h1.below hb,⟨h2.stays hb,h3.stays hb,h4.stays hb,RB _ _⟩,Au _ _,h1.kp.size⟩
theorem pE{Wb W:Ab}{g:Nat}{a:Option Addr}{len cap:Nat}{zs:List Int}{st:Option Nat}{tn su sx:Sl}{L:List (List ByteArray)}{us:List Nat}{ts:List ByteArray}{D:Nat}{y:DA}
  (h:RS Wb W g a len cap zs st/\Dk Wb.heap.size W (.slice tn.a tn.n tn.c) L/\Ea Wb.heap.size W su us/\BU Wb.heap.size W sx ts) (hD:BD W D y) (hl:Wb.heap.size<=D) :
  OA Wb ((WG3 W D (.slice tn.a tn.n tn.c) (.slice su.a su.n su.c) (.slice sx.a sx.n sx.c)).setCell ⟨D,3,none⟩ (.slice none 0 0)) g a len cap zs st D ⟨tn,su,sx,⟨none,0,0⟩⟩ ⟨L,us,ts,[]⟩:=by
 obtain⟨h1,h2,h3,h4⟩:=h;have e:=Oo W D ⟨tn,su,sx,⟨none,0,0⟩⟩;have hg:=Xp W D ⟨tn,su,sx,⟨none,0,0⟩⟩;refine⟨h1.app hg (by rintro j ⟨⟩;exact hl),⟨h2.keepTy ?_,h3.keepTy ?_,h4.keep ?_,RB _ _⟩,QV hD ⟨tn,su,sx,⟨none,0,0⟩⟩,hl⟩
 ·rintro j _ _ ⟨t,zs,hz,ht⟩;exact e j (hD.ne hz (by obtain rfl|rfl:=ht <;> decide))
 ·rintro j _ _ ⟨zs,hz⟩;exact e j (hD.ne hz (by decide))
 ·rintro j _ _ ⟨zs,hz⟩;exact e j (hD.ne hz (by decide))
theorem OA.rd{Wb W W':Ab}{g:Nat}{a:Option Addr}{len cap:Nat}{zs:List Int}{st st':Option Nat}{D:Nat}{x:DA}{d:Dat}(h:OA Wb W g a len cap zs st D x d)(h1:RS Wb W' g a len cap zs st')(h2:W.grownBy W' (some g)):OA Wb W' g a len cap zs st' D x d:=
 ⟨h1,h.own.keep (fun j hj hl=>h2.block j hl (fun e=>by have:=h.rs.gl;have:=Bf e;omega)),h.blk.call h2 (Ap h.rs.gl h.low),h.low⟩
theorem GO.keepD{B:Nat}{w w':Ab}{s:Sl}{zs:List Int}{D:Nat}{x:DA}(h:GO B w s zs)(hD:BD w D x)(hb:∀j,j≠D->w'.heap[j]?=w.heap[j]?):GO B w' s zs:=by
 obtain⟨ys,h1,h2⟩:=h;refine⟨ys,?_,h2⟩;obtain h1|⟨g,e1,e2,e3,e4⟩:=h1
 ·exact .inl h1
 ·refine .inr ⟨g,e1,e2,e3.same (hb g ?_),e4⟩;rintro rfl;have hh:=hD;have hh':=e3.1;rw[hh]at hh';injection hh' with hh'
  injection hh' with _ hh'
  exact absurd hh' (by decide)
theorem OA.raw{Wb W:Ab}{g:Nat}{a:Option Addr}{len cap:Nat}{zs:List Int}{st:Option Nat}{D:Nat}{x:DA}{d:Dat}(h:OA Wb W g a len cap zs st D x d){s:Sl}{ys:List Int}(hs:GO Wb.heap.size W s ys):OA Wb (W.setCell ⟨D,3,none⟩ (.slice s.a s.n s.c)) g a len cap zs st D ⟨x.p1,x.p2,x.p3,s⟩ ⟨d.ns,d.us,d.ts,ys⟩:=by
 have e:∀j,j≠D->(W.setCell ⟨D,3,none⟩ (.slice s.a s.n s.c)).heap[j]?=W.heap[j]?:=fun j hj=>Ar _ _ _ j hj
 have hg:W.grownBy (W.setCell ⟨D,3,none⟩ (.slice s.a s.n s.c)) (some D):=⟨rfl,rfl,rfl,by simp[Dq],fun j _ hne=>e j (fun e=>hne (by rw[e]))⟩;obtain⟨h1,⟨h2,h3,h4,_⟩,hD,hl⟩:=h;refine⟨h1.app hg (by rintro j ⟨⟩;exact hl),⟨h2.keepTy ?_,h3.keepTy ?_,h4.keep ?_,hs.keepD hD e⟩,hD.set3 s,hl⟩
 ·rintro j _ _ ⟨t,zs,hz,ht⟩;exact e j (hD.ne hz (by obtain rfl|rfl:=ht <;> decide))
 ·rintro j _ _ ⟨zs,hz⟩;exact e j (hD.ne hz (by decide))
 ·rintro j _ _ ⟨zs,hz⟩;exact e j (hD.ne hz (by decide))
theorem Dd.mono{B B':Nat}{w:Ab}{x:DA}{d:Dat}(h:Dd B w x d)(hB:B'<=B):Dd B' w x d:=⟨h.1.mono hB,h.2.1.mono hB,h.2.2.1.mono hB,h.2.2.2.mono hB⟩
theorem OA.ret{w Wb W:Ab}{g:Nat}{a:Option Addr}{len cap:Nat}{zs:List Int}{st:Option Nat}{D R:Nat}{x y:DA}{d:Dat}(h:OA Wb W g a len cap zs st D x d)(hR:BD W R y)(hRb:R<Wb.heap.size)(hw:w.heap.size<=R)(hb:Blw w W) :
  BD (set4 W R x) R x/\Dd w.heap.size (set4 W R x) x d/\Blw w (set4 W R x):=by
 refine⟨QV hR x,(h.own.keep (fun j hj _=>Oo W R x j (by omega))).mono (by omega),?_⟩;exact(((hb.setCell (p:=⟨R,0,none⟩) hw _).setCell (p:=⟨R,1,none⟩) hw _).setCell (p:=⟨R,2,none⟩) hw _).setCell (p:=⟨R,3,none⟩) hw _
theorem Ui(t:Nat)(a0:Option Addr)(len c0:Nat)(zs:List Int)(w:Ab)(hr:Rd w a0 zs)(hl:zs.length=len)(hm:len<=65535)(hc:len<=c0/\c0<=9223372036854775807)(hnil:a0=none->c0=0) :
  Ag Aa 244 #[.agg #[.int .i64 (fs t).nn,.int .i64 (fs t).nf,.int .i64 (fs t).nu,.int .i64 (fs t).wd,.int .i64 (fs t).nt,.int .i64 (fs t).tg,.int .i64 (fs t).tl,.int .i64 (fs t).nr],.slice a0 len c0] w fun e w'=>∃x:DA,e=.returned (.tuple #[.agg #[.slice x.p1.a x.p1.n x.p1.c,.slice x.p2.a x.p2.n x.p2.c,.slice x.p3.a x.p3.n x.p3.c,.slice x.p4.a x.p4.n x.p4.c],.bool (decide ((Ec (fs t) zs len).2=some len))])/\Hid (Dd w.heap.size w' x (Ec (fs t) zs len).1/\Below w.heap.size w w'):=by
 have hb1:Below w.heap.size w (w.alloc (.cells #[.int .i64 (fs t).nn,.int .i64 (fs t).nf,.int .i64 (fs t).nu,.int .i64 (fs t).wd,.int .i64 (fs t).nt,.int .i64 (fs t).tg,.int .i64 (fs t).tl,.int .i64 (fs t).nr] 146)):=(Ae _ _).alloc (Ad _) _;have hsz1:(w.alloc (.cells #[.int .i64 (fs t).nn,.int .i64 (fs t).nf,.int .i64 (fs t).nu,.int .i64 (fs t).wd,.int .i64 (fs t).nt,.int .i64 (fs t).tg,.int .i64 (fs t).tl,.int .i64 (fs t).nr] 146)).heap.size=w.heap.size+1:=by simp
 have hX1:=Em.new w (fs t);have hb2:Below (w.alloc (.cells #[.int .i64 (fs t).nn,.int .i64 (fs t).nf,.int .i64 (fs t).nu,.int .i64 (fs t).wd,.int .i64 (fs t).nt,.int .i64 (fs t).tg,.int .i64 (fs t).tl,.int .i64 (fs t).nr] 146)).heap.size (w.alloc (.cells #[.int .i64 (fs t).nn,.int .i64 (fs t).nf,.int .i64 (fs t).nu,.int .i64 (fs t).wd,.int .i64 (fs t).nt,.int .i64 (fs t).tg,.int .i64 (fs t).tl,.int .i64 (fs t).nr] 146)) ((w.alloc (.cells #[.int .i64 (fs t).nn,.int .i64 (fs t).nf,.int .i64 (fs t).nu,.int .i64 (fs t).wd,.int .i64 (fs t).nt,.int .i64 (fs t).tg,.int .i64 (fs t).tl,.int .i64 (fs t).nr] 146)).alloc (.cells #[.slice none 0 0,.slice none 0 0,.slice none 0 0,.slice none 0 0] 41)):=(Ae _ _).alloc (Ad _) _;have hD1:BD ((w.alloc (.cells #[.int .i64 (fs t).nn,.int .i64 (fs t).nf,.int .i64 (fs t).nu,.int .i64 (fs t).wd,.int .i64 (fs t).nt,.int .i64 (fs t).tg,.int .i64 (fs t).tl,.int .i64 (fs t).nr] 146)).alloc (.cells #[.slice none 0 0,.slice none 0 0,.slice none 0 0,.slice none 0 0] 41)) (w.heap.size+1) Bo:=by
  have:=Au (w.alloc (.cells #[.int .i64 (fs t).nn,.int .i64 (fs t).nf,.int .i64 (fs t).nu,.int .i64 (fs t).wd,.int .i64 (fs t).nt,.int .i64 (fs t).tg,.int .i64 (fs t).tl,.int .i64 (fs t).nr] 146)) (.cells #[.slice none 0 0,.slice none 0 0,.slice none 0 0,.slice none 0 0] 41);rw[hsz1]at this;exact this
 have H:Hid (Em ((w.alloc (.cells #[.int .i64 (fs t).nn,.int .i64 (fs t).nf,.int .i64 (fs t).nu,.int .i64 (fs t).wd,.int .i64 (fs t).nt,.int .i64 (fs t).tg,.int .i64 (fs t).tl,.int .i64 (fs t).nr] 146)).alloc (.cells #[.slice none 0 0,.slice none 0 0,.slice none 0 0,.slice none 0 0] 41)) w.heap.size (fs t)/\BD ((w.alloc (.cells #[.int .i64 (fs t).nn,.int .i64 (fs t).nf,.int .i64 (fs t).nu,.int .i64 (fs t).wd,.int .i64 (fs t).nt,.int .i64 (fs t).tg,.int .i64 (fs t).tl,.int .i64 (fs t).nr] 146)).alloc (.cells #[.slice none 0 0,.slice none 0 0,.slice none 0 0,.slice none 0 0] 41)) (w.heap.size+1) Bo/\Below w.heap.size w ((w.alloc (.cells #[.int .i64 (fs t).nn,.int .i64 (fs t).nf,.int .i64 (fs t).nu,.int .i64 (fs t).wd,.int .i64 (fs t).nt,.int .i64 (fs t).tg,.int .i64 (fs t).tl,.int .i64 (fs t).nr] 146)).alloc (.cells #[.slice none 0 0,.slice none 0 0,.slice none 0 0,.slice none 0 0] 41))/\Rd ((w.alloc (.cells #[.int .i64 (fs t).nn,.int .i64 (fs t).nf,.int .i64 (fs t).nu,.int .i64 (fs t).wd,.int .i64 (fs t).nt,.int .i64 (fs t).tg,.int .i64 (fs t).tl,.int .i64 (fs t).nr] 146)).alloc (.cells #[.slice none 0 0,.slice none 0 0,.slice none 0 0,.slice none 0 0] 41)) a0 zs):=⟨hX1.below hb2,hD1,hb1.trans (hb2.mono hb1.size),(hr.below hb1).below hb2⟩;have KW:Hid (∀W,Rd W a0 zs->Ag Aa 259 #[.slice a0 len c0] W fun e w'=>∃gr a' ca,e=.returned (.pointer (some ⟨gr,0,none⟩))/\Hid (W.heap.size<=gr/\RS w' w' gr a' len ca zs (some 0)/\Below W.heap.size W w')):=fun W hW=>gE a0 len c0 zs W hW hl hm hnil
 have KN:Hid (∀(n:Nat) Wb W g a cap st,n<=1000->(∀W,Wb.grownBy W (some g)->Rd W a0 zs)->RS Wb W g a len cap zs st->Ag Aa 260 #[.pointer (some ⟨g,0,none⟩),.slice a0 len c0,.int .i64 n] W fun e w'=>∃s:Sl,e=.returned (.slice s.a s.n s.c)/\Hid (Dk Wb.heap.size w' (.slice s.a s.n s.c) (BO zs len st n).1/\RS Wb w' g a len cap zs (BO zs len st n).2)):=fun n Wb W g a cap st h1 h2 h4=>Sp Wb W g a len cap zs st n a0 c0 h1 h2 hc h4
 have KT:Hid (∀Wb W g a cap st,RS Wb W g a len cap zs st->Ag Aa 262 #[.agg #[.int .i64 (fs t).nn,.int .i64 (fs t).nf,.int .i64 (fs t).nu,.int .i64 (fs t).wd,.int .i64 (fs t).nt,.int .i64 (fs t).tg,.int .i64 (fs t).tl,.int .i64 (fs t).nr],.pointer (some ⟨g,0,none⟩)] W fun e w'=>∃s:Sl,e=.returned (.slice s.a s.n s.c)/\Hid (BU Wb.heap.size w' s (Fe (fs t) zs len st).1/\RS Wb w' g a len cap zs (Fe (fs t) zs len st).2)):=fun Wb W g a cap st hh=>So t Wb W g a len cap zs st hh
 have hfc:(fs t).nf<=(fs t).nn/\(fs t).nn<=2/\(fs t).nu<=5/\((fs t).nu=0∨(fs t).wd=1∨(fs t).wd=2∨(fs t).wd=4):=by
  obtain⟨_,e⟩|⟨_,e⟩|⟨_,e⟩|⟨_,e⟩|⟨_,e⟩|⟨_,e⟩|⟨_,e⟩|⟨_,e⟩|⟨_,e⟩:=Ew t <;> rw[e] <;> simp
 have HPR:Hid (Ec (fs t) zs len=(⟨(BO zs len (some 0) (fs t).nf).1++(BO zs len (Dp zs len (BO zs len (some 0) (fs t).nf).2 (fs t).wd (fs t).nu).2 ((fs t).nn - (fs t).nf)).1,(Dp zs len (BO zs len (some 0) (fs t).nf).2 (fs t).wd (fs t).nu).1,(Fe (fs t) zs len (BO zs len (Dp zs len (BO zs len (some 0) (fs t).nf).2 (fs t).wd (fs t).nu).2 ((fs t).nn - (fs t).nf)).2).1,(if (fs t).nr=0 then(([]:List Int),(Fe (fs t) zs len (BO zs len (Dp zs len (BO zs len (some 0) (fs t).nf).2 (fs t).wd (fs t).nu).2 ((fs t).nn - (fs t).nf)).2).2) else(tk zs (Fe (fs t) zs len (BO zs len (Dp zs len (BO zs len (some 0) (fs t).nf).2 (fs t).wd (fs t).nu).2 ((fs t).nn - (fs t).nf)).2).2 (lft len (Fe (fs t) zs len (BO zs len (Dp zs len (BO zs len (some 0) (fs t).nf).2 (fs t).wd (fs t).nu).2 ((fs t).nn - (fs t).nf)).2).2),mv len (Fe (fs t) zs len (BO zs len (Dp zs len (BO zs len (some 0) (fs t).nf).2 (fs t).wd (fs t).nu).2 ((fs t).nn - (fs t).nf)).2).2 (lft len (Fe (fs t) zs len (BO zs len (Dp zs len (BO zs len (some 0) (fs t).nf).2 (fs t).wd (fs t).nu).2 ((fs t).nn - (fs t).nf)).2).2))).1⟩,(if (fs t).nr=0 then(([]:List Int),(Fe (fs t) zs len (BO zs len (Dp zs len (BO zs len (some 0) (fs t).nf).2 (fs t).wd (fs t).nu).2 ((fs t).nn - (fs t).nf)).2).2) else(tk zs (Fe (fs t) zs len (BO zs len (Dp zs len (BO zs len (some 0) (fs t).nf).2 (fs t).wd (fs t).nu).2 ((fs t).nn - (fs t).nf)).2).2 (lft len (Fe (fs t) zs len (BO zs len (Dp zs len (BO zs len (some 0) (fs t).nf).2 (fs t).wd (fs t).nu).2 ((fs t).nn - (fs t).nf)).2).2),mv len (Fe (fs t) zs len (BO zs len (Dp zs len (BO zs len (some 0) (fs t).nf).2 (fs t).wd (fs t).nu).2 ((fs t).nn - (fs t).nf)).2).2 (lft len (Fe (fs t) zs len (BO zs len (Dp zs len (BO zs len (some 0) (fs t).nf).2 (fs t).wd (fs t).nu).2 ((fs t).nn - (fs t).nf)).2).2))).2)):=(show _=_ from rfl)
 obtain⟨PR,hPR⟩:∃PR,Ec (fs t) zs len=PR:=⟨_,rfl⟩;rw[hPR]at HPR ⊢;clear hPR hb1 hb2 hX1 hD1 hsz1 hr;generalize (fs t)=f at*;have HTX:Hid (∀st,Fe f zs len st=Fe f zs len st):=fun _=>rfl
 obtain⟨nn,nf,nu,wd,nt,tg,tl,nr⟩:=f;simp only at H KT HPR hfc ⊢;obtain⟨F,hF⟩:∃F:Option Nat->List ByteArray × Option Nat,F=fun st=>Fe ⟨nn,nf,nu,wd,nt,tg,tl,nr⟩ zs len st:=⟨_,rfl⟩
 have HFF:Hid (∀st,Fe ⟨nn,nf,nu,wd,nt,tg,tl,nr⟩ zs len st=F st):=fun st=>by rw[hF]
 simp only[HFF.out]at KT HPR;clear hF HFF HTX;generalize hn1:BO zs len (some 0) nf=r1 at*;generalize hn2:Dp zs len r1.2 wd nu=r2 at*;generalize hn3:BO zs len r2.2 (nn - nf)=r3 at*;generalize hn4:F r3.2=r4 at*;have HN:Hid (BO zs len (some 0) nf=r1/\Dp zs len r1.2 wd nu=r2/\BO zs len r2.2 (nn - nf)=r3/\F r3.2=r4):=⟨hn1,hn2,hn3,hn4⟩;have HLN:Hid (r1.1.length+r3.1.length<=1000):=by
  show _<=_;rw[<- hn1,<- hn3,Jj,Jj];omega
 clear hn1 hn2 hn3 hn4;have hnfi:(nn:Int) - (nf:Int)=((nn - nf:Nat):Int):=by omega
 have hnfw:CV.wrap ((nn:Int) - (nf:Int))=((nn - nf:Nat):Int):=by rw[hnfi,BZ];omega
 clear hnfi;go_enter Tryz.func244,Tryz.ntmps244
 go_upto_region 1 with fail
 generalize ((w.alloc (.cells #[.int .i64 nn,.int .i64 nf,.int .i64 nu,.int .i64 wd,.int .i64 nt,.int .i64 tg,.int .i64 tl,.int .i64 nr] 146)).alloc (.cells #[.slice none 0 0,.slice none 0 0,.slice none 0 0,.slice none 0 0] 41))=W1 at*;obtain⟨b,hb⟩:∃b,b=w.heap.size:=⟨_,rfl⟩;rw[<- hb]at H ⊢;have Hb:Hid (b=w.heap.size):=hb;clear hb;go_wp2_with fail;refine(KW.out _ H.out.2.2.2).mono ?_;rintro e Wb ⟨g,a',ca,rfl,H1⟩;have hbW:b+1<W1.heap.size:=H.out.2.1.lt;have HBB:Hid (Em Wb b ⟨nn,nf,nu,wd,nt,tg,tl,nr⟩/\BD Wb (b+1) Bo/\Below b w Wb/\(∀W,Wb.grownBy W (some g)->Rd W a0 zs)/\b+1<g/\b+1<Wb.heap.size):=by
  obtain⟨p1,p2,p3,p4⟩:=H.out;obtain⟨q1,q2,q3⟩:=H1.out;refine⟨p1.below q3,p2.same (q3.block _ hbW),?_,?_,by omega,Ap hbW q3.size⟩
  ·rw[Hb.out]at p3 ⊢;exact p3.trans (q3.mono p3.size)
  ·intro W hW;obtain h|⟨b2,o2,h2,h3,_⟩:=p4.1
   ·rw[h];exact⟨.inl rfl,by simp⟩
   ·refine(p4.below q3).grown hW ?_;intro b' o' e;rw[h2]at e;cases e;omega
 have HS0:Hid (RS Wb Wb g a' len ca zs (some 0)):=H1.out.2.1;have HFB:Hid (∀W,Wb.grownBy W (some g)->Em W b ⟨nn,nf,nu,wd,nt,tg,tl,nr⟩):=fun W hW=>HBB.out.1.off hW (by have:=HBB.out;omega)
 clear H H1 KW hbW;have K1:Hid (Ag Aa 260 #[.pointer (some ⟨g,0,none⟩),.slice a0 len c0,.int .i64 nf] Wb fun e w'=>∃s:Sl,e=.returned (.slice s.a s.n s.c)/\Hid (Dk Wb.heap.size w' (.slice s.a s.n s.c) r1.1/\RS Wb w' g a' len ca zs r1.2)):=by
  have:=KN.out nf Wb Wb g a' ca (some 0) (by omega) HBB.out.2.2.2.1 HS0.out;rw[HN.out.1]at this;exact this
 have s1:=HBB.out.1.2.1;simp only at s1;go_wp2_with fail;refine K1.out.mono ?_;rintro e W2 ⟨sf,rfl,H2⟩;clear K1 HS0 s1;have K2:Hid (Ag Aa 261 #[.pointer (some ⟨g,0,none⟩),.int .i64 nu,.int .i64 wd] W2 fun e w'=>∃s:Sl,e=.returned (.slice s.a s.n s.c)/\Hid (Ea W2.heap.size w' s r2.1/\RS W2 w' g a' len ca zs r2.2)):=by
  have:=TP W2 W2 g a' len ca zs r1.2 nu wd hfc.2.2.2 (by omega) H2.out.2.rebase;rw[HN.out.2.1]at this;exact this
 have s2:=(HFB.out W2 H2.out.2.kp).2.2.1;have s3:=(HFB.out W2 H2.out.2.kp).2.2.2.1;simp only at s2 s3;go_wp2_with fail;refine K2.out.mono ?_;rintro e W3 ⟨su,rfl,H3⟩;have HG3:Hid (RS Wb W3 g a' len ca zs r2.2/\Dk Wb.heap.size W3 (.slice sf.a sf.n sf.c) r1.1/\Ea Wb.heap.size W3 su r2.1):=⟨H2.out.2.back H3.out.2,H2.out.1.kept H3.out.2.kp H2.out.2.gl,H3.out.1.mono H2.out.2.kp.size⟩;clear K2 H3 H2 s2 s3;have K3:Hid (Ag Aa 260 #[.pointer (some ⟨g,0,none⟩),.slice a0 len c0,.int .i64 ((nn - nf:Nat):Int)] W3 fun e w'=>∃s:Sl,e=.returned (.slice s.a s.n s.c)/\Hid (Dk W3.heap.size w' (.slice s.a s.n s.c) r3.1/\RS W3 w' g a' len ca zs r3.2)):=by
  have:=KN.out (nn - nf) W3 W3 g a' ca r2.2 (by omega) (fun W hW=>HBB.out.2.2.2.1 W (Ii HG3.out.1.kp hW)) HG3.out.1.rebase;rw[HN.out.2.2.1]at this;exact this
 clear KN;have s0:=(HFB.out W3 HG3.out.1.kp).1;have s1:=(HFB.out W3 HG3.out.1.kp).2.1;simp only at s0 s1
 go_upto_region 5 with fail
 refine K3.out.mono ?_;rintro e W4 ⟨sb,rfl,H4⟩;have HG4:Hid (RS Wb W4 g a' len ca zs r3.2/\Dk Wb.heap.size W4 (.slice sf.a sf.n sf.c) r1.1/\Ea Wb.heap.size W4 su r2.1/\Dk Wb.heap.size W4 (.slice sb.a sb.n sb.c) r3.1):=⟨HG3.out.1.back H4.out.2,HG3.out.2.1.kept H4.out.2.kp HG3.out.1.gl,HG3.out.2.2.kept H4.out.2.kp HG3.out.1.gl,H4.out.1.mono HG3.out.1.kp.size⟩;clear K3 H4 HG3 s0 s1;have hdr:Below W4.heap.size W4 W4.drew:=(Ae _ _).drew;have HV:Hid (RS Wb W4.drew g a' len ca zs r3.2/\Dk Wb.heap.size W4.drew (.slice sf.a sf.n sf.c) r1.1/\Ea Wb.heap.size W4.drew su r2.1/\Dk Wb.heap.size W4.drew (.slice sb.a sb.n sb.c) r3.1):=⟨HG4.out.1.below hdr,HG4.out.2.1.stays hdr,HG4.out.2.2.1.stays hdr,HG4.out.2.2.2.stays hdr⟩;have KT2:Hid (∀V,RS V V g a' len ca zs r3.2->Ag Aa 262 #[.agg #[.int .i64 nn,.int .i64 nf,.int .i64 nu,.int .i64 wd,.int .i64 nt,.int .i64 tg,.int .i64 tl,.int .i64 nr],.pointer (some ⟨g,0,none⟩)] V fun e w'=>∃s:Sl,e=.returned (.slice s.a s.n s.c)/\Hid (BU V.heap.size w' s r4.1/\RS V w' g a' len ca zs r4.2)):=by
  intro V hV;have:=KT.out V V g a' ca r3.2 hV;rw[HN.out.2.2.2]at this;exact this
 clear KT hdr;obtain⟨s0,s1,s2,s3,s4,s5,s6,s7,s8⟩:=HFB.out W4 HG4.out.1.kp;simp only at s0 s1 s2 s3 s4 s5 s6 s7
 go_upto_region 5 with fail
 go_cut [10] from 32 to 39 (fun s10 wx=>∃(D:Nat) (tn sx:Sl),s10=.pointer (some ⟨D,0,none⟩)/\Hid (OA Wb wx g a' len ca zs r4.2 D ⟨tn,su,sx,⟨none,0,0⟩⟩ ⟨r1.1++r3.1,r2.1,r4.1,[]⟩))
 case first=>
  go_region_law (first
   |(refine Vr rfl _ _ rfl Wb.heap.size sf sb r1.1 r3.1 rfl rfl (by first|exact HA5.out.2.1|exact HA5.out.2.1.stays (Ah _ _)) (by first|exact HA5.out.2.2.2.1|exact HA5.out.2.2.2.1.stays (Ah _ _)) HLN.out (by first|exact HA5.out.1.kp.size|exact(HA5.out.1.below (Ah _ _)).kp.size) ?_;intro tn W6 H6 HX6;have HZ:Hid (RS Wb W6 g a' len ca zs r4.2/\Dk Wb.heap.size W6 (.slice tn.a tn.n tn.c) (r1.1++r3.1)/\Ea Wb.heap.size W6 su r2.1/\BU Wb.heap.size W6 sx r4.1):=⟨(by first|exact HA5.out.1.offTy HX6.out|exact(HA5.out.1.below (Ah _ _)).offTy HX6.out),H6.out,(by first|exact HA5.out.2.2.1.offTy HX6.out|exact(HA5.out.2.2.1.stays (Ah _ _)).offTy HX6.out),(by first|exact HA5.out.2.2.2.2.offTy HX6.out|exact(HA5.out.2.2.2.2.stays (Ah _ _)).offTy HX6.out)⟩;(try (have hD6:Hid (BD W6 W5.heap.size Bo):=(NY W5).offTy HX6.out));(try (have hD6:Hid (BD W6 W4.heap.size Bo):=hD5.out.offTy HX6.out));(try (have d0:=hD6.out.box.1;have d1:=hD6.out.box.2.1;have d2:=hD6.out.box.2.2.1;have d3:=hD6.out.box.2.2.2.1;have z0:=hD6.out.fz 0;have z1:=hD6.out.fz 1;have z2:=hD6.out.fz 2;have z3:=hD6.out.fz 3;simp only at d0 d1 d2 d3));have f0:W6.cell? ⟨b,0,none⟩=some (.int .i64 nn):=(HFB.out W6 HZ.out.1.kp).1;have f1:W6.cell? ⟨b,1,none⟩=some (.int .i64 nf):=(HFB.out W6 HZ.out.1.kp).2.1;have f2:W6.cell? ⟨b,2,none⟩=some (.int .i64 nu):=(HFB.out W6 HZ.out.1.kp).2.2.1;have f3:W6.cell? ⟨b,3,none⟩=some (.int .i64 wd):=(HFB.out W6 HZ.out.1.kp).2.2.2.1;have f4:W6.cell? ⟨b,4,none⟩=some (.int .i64 nt):=(HFB.out W6 HZ.out.1.kp).2.2.2.2.1;have f5:W6.cell? ⟨b,5,none⟩=some (.int .i64 tg):=(HFB.out W6 HZ.out.1.kp).2.2.2.2.2.1;have f6:W6.cell? ⟨b,6,none⟩=some (.int .i64 tl):=(HFB.out W6 HZ.out.1.kp).2.2.2.2.2.2.1;have f7:W6.cell? ⟨b,7,none⟩=some (.int .i64 nr):=(HFB.out W6 HZ.out.1.kp).2.2.2.2.2.2.2.1;have f8:b<W6.heap.size:=(HFB.out W6 HZ.out.1.kp).2.2.2.2.2.2.2.2)
   |(go_simp;go_at_call 262;refine(KT2.out _ (by first|exact HB5.out.1.rebase|exact(HB5.out.1.below (Ah _ _)).rebase)).mono ?_;rintro e W6 ⟨sx,rfl,H6⟩;have HZ:Hid (RS Wb W6 g a' len ca zs r4.2/\Dk Wb.heap.size W6 (.slice tn.a tn.n tn.c) (r1.1++r3.1)/\Ea Wb.heap.size W6 su r2.1/\BU Wb.heap.size W6 sx r4.1):=⟨(by first|exact HB5.out.1.back H6.out.2|exact(HB5.out.1.below (Ah _ _)).back H6.out.2),(by first|exact HB5.out.2.1.kept H6.out.2.kp HB5.out.1.gl|exact(HB5.out.2.1.stays (Ah _ _)).kept H6.out.2.kp HB5.out.1.gl),(by first|exact HB5.out.2.2.kept H6.out.2.kp HB5.out.1.gl|exact(HB5.out.2.2.stays (Ah _ _)).kept H6.out.2.kp HB5.out.1.gl),(by first|exact H6.out.1.mono HB5.out.1.kp.size|exact H6.out.1.mono (HB5.out.1.below (Ah _ _)).kp.size)⟩;(try (have hD6:Hid (BD W6 W5.heap.size Bo):=(NY W5).call H6.out.2.kp (Ap HB5.out.1.gl HB5.out.1.kp.size)));(try (have hD6:Hid (BD W6 W4.heap.size Bo):=hD5.out.call H6.out.2.kp (Ap HG4.out.1.gl HG4.out.1.kp.size)));(try (have d0:=hD6.out.box.1;have d1:=hD6.out.box.2.1;have d2:=hD6.out.box.2.2.1;have d3:=hD6.out.box.2.2.2.1;have z0:=hD6.out.fz 0;have z1:=hD6.out.fz 1;have z2:=hD6.out.fz 2;have z3:=hD6.out.fz 3;simp only at d0 d1 d2 d3));have f0:W6.cell? ⟨b,0,none⟩=some (.int .i64 nn):=(HFB.out W6 HZ.out.1.kp).1;have f1:W6.cell? ⟨b,1,none⟩=some (.int .i64 nf):=(HFB.out W6 HZ.out.1.kp).2.1;have f2:W6.cell? ⟨b,2,none⟩=some (.int .i64 nu):=(HFB.out W6 HZ.out.1.kp).2.2.1;have f3:W6.cell? ⟨b,3,none⟩=some (.int .i64 wd):=(HFB.out W6 HZ.out.1.kp).2.2.2.1;have f4:W6.cell? ⟨b,4,none⟩=some (.int .i64 nt):=(HFB.out W6 HZ.out.1.kp).2.2.2.2.1;have f5:W6.cell? ⟨b,5,none⟩=some (.int .i64 tg):=(HFB.out W6 HZ.out.1.kp).2.2.2.2.2.1;have f6:W6.cell? ⟨b,6,none⟩=some (.int .i64 tl):=(HFB.out W6 HZ.out.1.kp).2.2.2.2.2.2.1;have f7:W6.cell? ⟨b,7,none⟩=some (.int .i64 nr):=(HFB.out W6 HZ.out.1.kp).2.2.2.2.2.2.2.1;have f8:b<W6.heap.size:=(HFB.out W6 HZ.out.1.kp).2.2.2.2.2.2.2.2)
   |(refine Vr rfl _ _ rfl Wb.heap.size sf sb r1.1 r3.1 rfl rfl (by first|exact HV.out.2.1|exact HV.out.2.1.stays (Ah _ _)) (by first|exact HV.out.2.2.2|exact HV.out.2.2.2.stays (Ah _ _)) HLN.out (by first|exact HV.out.1.kp.size|exact(HV.out.1.below (Ah _ _)).kp.size) ?_;intro tn W5 H5 HX5;have HB5:Hid (RS Wb W5 g a' len ca zs r3.2/\Dk Wb.heap.size W5 (.slice tn.a tn.n tn.c) (r1.1++r3.1)/\Ea Wb.heap.size W5 su r2.1):=⟨(by first|exact HV.out.1.offTy HX5.out|exact(HV.out.1.below (Ah _ _)).offTy HX5.out),H5.out,(by first|exact HV.out.2.2.1.offTy HX5.out|exact(HV.out.2.2.1.stays (Ah _ _)).offTy HX5.out)⟩;(try (have hD5:Hid (BD W5 W4.heap.size Bo):=(show BD _ W4.heap.size Bo from NY W4.drew).offTy HX5.out));have e0:W5.cell? ⟨b,0,none⟩=some (.int .i64 nn):=(HFB.out W5 HB5.out.1.kp).1;have e1:W5.cell? ⟨b,1,none⟩=some (.int .i64 nf):=(HFB.out W5 HB5.out.1.kp).2.1;have e2:W5.cell? ⟨b,2,none⟩=some (.int .i64 nu):=(HFB.out W5 HB5.out.1.kp).2.2.1;have e3:W5.cell? ⟨b,3,none⟩=some (.int .i64 wd):=(HFB.out W5 HB5.out.1.kp).2.2.2.1;have e4:W5.cell? ⟨b,4,none⟩=some (.int .i64 nt):=(HFB.out W5 HB5.out.1.kp).2.2.2.2.1;have e5:W5.cell? ⟨b,5,none⟩=some (.int .i64 tg):=(HFB.out W5 HB5.out.1.kp).2.2.2.2.2.1;have e6:W5.cell? ⟨b,6,none⟩=some (.int .i64 tl):=(HFB.out W5 HB5.out.1.kp).2.2.2.2.2.2.1;have e7:W5.cell? ⟨b,7,none⟩=some (.int .i64 nr):=(HFB.out W5 HB5.out.1.kp).2.2.2.2.2.2.2.1;have e8:b<W5.heap.size:=(HFB.out W5 HB5.out.1.kp).2.2.2.2.2.2.2.2)
   |(go_simp;go_at_call 262;refine(KT2.out _ (by first|exact HV.out.1.rebase|exact(HV.out.1.below (Ah _ _)).rebase)).mono ?_;rintro e W5 ⟨sx,rfl,H5⟩;have HA5:Hid (RS Wb W5 g a' len ca zs r4.2/\Dk Wb.heap.size W5 (.slice sf.a sf.n sf.c) r1.1/\Ea Wb.heap.size W5 su r2.1/\Dk Wb.heap.size W5 (.slice sb.a sb.n sb.c) r3.1/\BU Wb.heap.size W5 sx r4.1):=⟨(by first|exact HV.out.1.back H5.out.2|exact(HV.out.1.below (Ah _ _)).back H5.out.2),(by first|exact HV.out.2.1.kept H5.out.2.kp HV.out.1.gl|exact(HV.out.2.1.stays (Ah _ _)).kept H5.out.2.kp HV.out.1.gl),(by first|exact HV.out.2.2.1.kept H5.out.2.kp HV.out.1.gl|exact(HV.out.2.2.1.stays (Ah _ _)).kept H5.out.2.kp HV.out.1.gl),(by first|exact HV.out.2.2.2.kept H5.out.2.kp HV.out.1.gl|exact(HV.out.2.2.2.stays (Ah _ _)).kept H5.out.2.kp HV.out.1.gl),(by first|exact H5.out.1.mono HV.out.1.kp.size|exact H5.out.1.mono (HV.out.1.below (Ah _ _)).kp.size)⟩;(try (have hD5:Hid (BD W5 W4.heap.size Bo):=(show BD _ W4.heap.size Bo from NY W4.drew).call H5.out.2.kp (Ap HG4.out.1.gl HG4.out.1.kp.size)));have e0:W5.cell? ⟨b,0,none⟩=some (.int .i64 nn):=(HFB.out W5 HA5.out.1.kp).1;have e1:W5.cell? ⟨b,1,none⟩=some (.int .i64 nf):=(HFB.out W5 HA5.out.1.kp).2.1;have e2:W5.cell? ⟨b,2,none⟩=some (.int .i64 nu):=(HFB.out W5 HA5.out.1.kp).2.2.1;have e3:W5.cell? ⟨b,3,none⟩=some (.int .i64 wd):=(HFB.out W5 HA5.out.1.kp).2.2.2.1;have e4:W5.cell? ⟨b,4,none⟩=some (.int .i64 nt):=(HFB.out W5 HA5.out.1.kp).2.2.2.2.1;have e5:W5.cell? ⟨b,5,none⟩=some (.int .i64 tg):=(HFB.out W5 HA5.out.1.kp).2.2.2.2.2.1;have e6:W5.cell? ⟨b,6,none⟩=some (.int .i64 tl):=(HFB.out W5 HA5.out.1.kp).2.2.2.2.2.2.1;have e7:W5.cell? ⟨b,7,none⟩=some (.int .i64 nr):=(HFB.out W5 HA5.out.1.kp).2.2.2.2.2.2.2.1;have e8:b<W5.heap.size:=(HFB.out W5 HA5.out.1.kp).2.2.2.2.2.2.2.2))
  all_goals
   go_wp2_with fail
   go_meet
   first
    |exact⟨_,tn,sx,rfl,mI HZ.out⟩
    |exact⟨_,tn,sx,rfl,pE HZ.out hD6.out (by first|exact HA5.out.1.kp.size|exact HB5.out.1.kp.size|exact HG4.out.1.kp.size)⟩
 case rest=>
  obtain⟨D,tn,sx,rfl,HC⟩:=hcut;have f7:=(HFB.out wc HC.out.rs.kp).2.2.2.2.2.2.2.1;simp only at f7;have HRB:Hid (∀W,Wb.grownBy W (some g)->BD W (b+1) Bo):=fun W hW=>HBB.out.2.1.same (hW.block _ HBB.out.2.2.2.2.2 (fun e=>by have:=HBB.out.2.2.2.2.1;have:=Bf e;omega))
  have HBW:Hid (∀W,Wb.grownBy W (some g)->Below w.heap.size w W):=fun W hW=>by
   have h1:=HBB.out.2.2.1;have h2:=HBB.out.2.2.2.2;have h3:=Hb.out;rw[h3]at h1;exact⟨hW.os.trans h1.os,hW.tape.trans h1.tape,hW.output.trans h1.output,Aj h1.size hW.size,fun j hj=>(hW.block j (by omega) (fun e=>by have:=Bf e;omega)).trans (h1.block j hj)⟩
  have KL:Hid (∀W st,RS Wb W g a' len ca zs st->Ag Aa 264 #[.pointer (some ⟨g,0,none⟩)] W fun e w'=>e=.returned (.int .i64 (lft len st))/\Hid (RS Wb w' g a' len ca zs st/\W.grownBy w' (some g))):=fun W st hW=>(Pg g a' len ca zs st W hW.rst hW.rdW hW.hl hW.hc (by omega) hW.hd hW.off).mono (by rintro e w' ⟨rfl,H⟩;exact⟨rfl,hW.to H.out.1 H.out.2,H.out.2⟩)
  have KB:Hid (∀W st,RS Wb W g a' len ca zs st->Ag Aa 265 #[.pointer (some ⟨g,0,none⟩)] W fun e w'=>e=.returned (.bool st.isNone)/\Hid (RS Wb w' g a' len ca zs st/\W.grownBy w' (some g))):=fun W st hW=>(VB g a' len ca zs st W hW.rst hW.rdW hW.hl hW.hc (by omega) hW.hd hW.off).mono (by rintro e w' ⟨rfl,H⟩;exact⟨rfl,hW.to H.out.1 H.out.2,H.out.2⟩)
  have KT:Hid (∀W st n,RS Wb W g a' len ca zs st->Ag Aa 263 #[.pointer (some ⟨g,0,none⟩),.int .i64 n] W fun e w'=>∃s:Sl,e=.returned (.slice s.a s.n s.c)/\Hid (GO Wb.heap.size w' s (tk zs st n)/\RS Wb w' g a' len ca zs (mv len st n)/\W.grownBy w' (some g))):=fun W st n hW=>UP Wb W g a' len ca zs st n hW
  clear HG4 HV KT2 s0 s1 s2 s3 s4 s5 s6 s7 s8 HLN hnfw hc hl;by_cases hnr:nr=0
  ·have hnr':(nr != 0)=false:=by simp[hnr]
   have HQ:Hid (OA Wb wc g a' len ca zs PR.2 D ⟨tn,su,sx,⟨none,0,0⟩⟩ PR.1):=by
    have e:=HPR.out;rw[if_pos hnr]at e;rw[e];exact HC.out
   clear HC HPR HN;obtain⟨d,st⟩:=PR;simp only at HQ ⊢;go_wp2_with fail;have d0:wc.cell? ⟨D,0,none⟩=some (.slice tn.a tn.n tn.c):=HQ.out.blk.box.1;have d1:wc.cell? ⟨D,1,none⟩=some (.slice su.a su.n su.c):=HQ.out.blk.box.2.1;have d2:wc.cell? ⟨D,2,none⟩=some (.slice sx.a sx.n sx.c):=HQ.out.blk.box.2.2.1;have d3:wc.cell? ⟨D,3,none⟩=some (.slice none 0 0):=HQ.out.blk.box.2.2.2.1;have HQD:Hid (∀W,wc.grownBy W (some g)->BD W D ⟨tn,su,sx,⟨none,0,0⟩⟩):=fun W hW=>HQ.out.blk.call hW (Ap HQ.out.rs.gl HQ.out.low)
   have HVD:Hid (RS Wb wc.drew g a' len ca zs st):=HQ.out.rs.below (Ae _ _).drew;have hDb:¬ b+1=D:=by have h1:=HBB.out.2.2.2.2.2;have h2:=HQ.out.low;omega
   have hDb2:¬ D=b+1:=by omega
   cases st with
   |none=>
    have KLs:=KL.out _ none HVD.out;have K1:Hid (Ag Aa 264 #[.pointer (some ⟨g,0,none⟩)] wc.drew fun e w'=>e=.returned (.int .i64 0)/\Hid (RS Wb w' g a' len ca zs none/\wc.drew.grownBy w' (some g))):=KLs;have K2:Hid (∀W,RS Wb W g a' len ca zs none->Ag Aa 265 #[.pointer (some ⟨g,0,none⟩)] W fun e w'=>e=.returned (.bool true)/\Hid (RS Wb w' g a' len ca zs none/\W.grownBy w' (some g))):=fun W hW=>KB.out W none hW
    clear KL KB KT KLs;go_wp2_with fail
    go_region_held3 (fun W=>W.cell? ⟨D,0,none⟩=some (.slice tn.a tn.n tn.c)/\W.cell? ⟨D,1,none⟩=some (.slice su.a su.n su.c)/\W.cell? ⟨D,2,none⟩=some (.slice sx.a sx.n sx.c)/\W.cell? ⟨D,3,none⟩=some (.slice none 0 0)) (exact⟨by go_keep,by go_keep,by go_keep,by go_keep⟩) (first
     |(go_at_call 264;refine K1.out.mono ?_;rintro e V1 ⟨rfl,H1⟩;have HG1:Hid (wc.grownBy V1 (some g)):=Ii (Ee (Ae _ _).drew) H1.out.2;have e0:V1.cell? ⟨D,0,none⟩=some (.slice tn.a tn.n tn.c):=(HQD.out V1 HG1.out).box.1;have e1:V1.cell? ⟨D,1,none⟩=some (.slice su.a su.n su.c):=(HQD.out V1 HG1.out).box.2.1;have e2:V1.cell? ⟨D,2,none⟩=some (.slice sx.a sx.n sx.c):=(HQD.out V1 HG1.out).box.2.2.1;have e3:V1.cell? ⟨D,3,none⟩=some (.slice none 0 0):=(HQD.out V1 HG1.out).box.2.2.2.1;have er0:V1.cell? ⟨b+1,0,none⟩=some (.slice none 0 0):=(HRB.out V1 H1.out.1.kp).box.1;have ez0:=(HRB.out V1 H1.out.1.kp).fz 0;have er1:V1.cell? ⟨b+1,1,none⟩=some (.slice none 0 0):=(HRB.out V1 H1.out.1.kp).box.2.1;have ez1:=(HRB.out V1 H1.out.1.kp).fz 1;have er2:V1.cell? ⟨b+1,2,none⟩=some (.slice none 0 0):=(HRB.out V1 H1.out.1.kp).box.2.2.1;have ez2:=(HRB.out V1 H1.out.1.kp).fz 2;have er3:V1.cell? ⟨b+1,3,none⟩=some (.slice none 0 0):=(HRB.out V1 H1.out.1.kp).box.2.2.2.1;have ez3:=(HRB.out V1 H1.out.1.kp).fz 3;have el:b+1<V1.heap.size:=(HRB.out V1 H1.out.1.kp).lt)
     |(go_at_call 265;refine(K2.out _ H1.out.1).mono ?_;rintro e V2 ⟨rfl,H2⟩;have HV2:Hid (RS Wb V2 g a' len ca zs none/\wc.grownBy V2 (some g)):=⟨H2.out.1,Ii HG1.out H2.out.2⟩;have f0:V2.cell? ⟨D,0,none⟩=some (.slice tn.a tn.n tn.c):=(HQD.out V2 HV2.out.2).box.1;have f1:V2.cell? ⟨D,1,none⟩=some (.slice su.a su.n su.c):=(HQD.out V2 HV2.out.2).box.2.1;have f2:V2.cell? ⟨D,2,none⟩=some (.slice sx.a sx.n sx.c):=(HQD.out V2 HV2.out.2).box.2.2.1;have f3:V2.cell? ⟨D,3,none⟩=some (.slice none 0 0):=(HQD.out V2 HV2.out.2).box.2.2.2.1;have fr0:V2.cell? ⟨b+1,0,none⟩=some (.slice none 0 0):=(HRB.out V2 H2.out.1.kp).box.1;have fz0:=(HRB.out V2 H2.out.1.kp).fz 0;have fr1:V2.cell? ⟨b+1,1,none⟩=some (.slice none 0 0):=(HRB.out V2 H2.out.1.kp).box.2.1;have fz1:=(HRB.out V2 H2.out.1.kp).fz 1;have fr2:V2.cell? ⟨b+1,2,none⟩=some (.slice none 0 0):=(HRB.out V2 H2.out.1.kp).box.2.2.1;have fz2:=(HRB.out V2 H2.out.1.kp).fz 2;have fr3:V2.cell? ⟨b+1,3,none⟩=some (.slice none 0 0):=(HRB.out V2 H2.out.1.kp).box.2.2.2.1;have fz3:=(HRB.out V2 H2.out.1.kp).fz 3;have fl:b+1<V2.heap.size:=(HRB.out V2 H2.out.1.kp).lt))
    all_goals
     go_wp2_with fail;generalize hG:((WG3 V2 (b+1) (.slice tn.a tn.n tn.c) (.slice su.a su.n su.c) (.slice sx.a sx.n sx.c)).setCell ⟨b+1,3,none⟩ (.slice none 0 0))=W9 at*;have HX:Hid (BD W9 (b+1) ⟨tn,su,sx,⟨none,0,0⟩⟩/\Dd w.heap.size W9 ⟨tn,su,sx,⟨none,0,0⟩⟩ d/\Below w.heap.size w W9):=by subst hG;exact(HQ.out.rd HV2.out.1 HV2.out.2).ret (HRB.out V2 HV2.out.1.kp) HBB.out.2.2.2.2.2 (by have:=Hb.out;omega) (HBW.out V2 HV2.out.1.kp)
     clear hG;have k0:=HX.out.1.box.1;have k1:=HX.out.1.box.2.1;have k2:=HX.out.1.box.2.2.1;have k3:=HX.out.1.box.2.2.2.1;simp only at k0 k1 k2 k3;exact An (v:=.tuple #[.agg #[.slice tn.a tn.n tn.c,.slice su.a su.n su.c,.slice sx.a sx.n sx.c,.slice none 0 0],.bool false]) (by simp[AJ,Gj,go_sem,k0,k1,k2,k3]) rfl ⟨⟨tn,su,sx,⟨none,0,0⟩⟩,by simp,HX.out.2.1,HX.out.2.2⟩
   |some k=>
    have KLs:=KL.out _ (some k) HVD.out;have hkl:k<=len:=HQ.out.rs.rst.le k rfl;by_cases hke:k=len
    ·subst hke;have hz:lft k (some k)=0:=by simp[lft]
     rw[hz]at KLs;clear hz;have K1:Hid (Ag Aa 264 #[.pointer (some ⟨g,0,none⟩)] wc.drew fun e w'=>e=.returned (.int .i64 0)/\Hid (RS Wb w' g a' k ca zs (some k)/\wc.drew.grownBy w' (some g))):=KLs;have K2:Hid (∀W,RS Wb W g a' k ca zs (some k)->Ag Aa 265 #[.pointer (some ⟨g,0,none⟩)] W fun e w'=>e=.returned (.bool false)/\Hid (RS Wb w' g a' k ca zs (some k)/\W.grownBy w' (some g))):=fun W hW=>KB.out W (some k) hW
     clear KL KB KT KLs;go_wp2_with fail
     go_region_held3 (fun W=>W.cell? ⟨D,0,none⟩=some (.slice tn.a tn.n tn.c)/\W.cell? ⟨D,1,none⟩=some (.slice su.a su.n su.c)/\W.cell? ⟨D,2,none⟩=some (.slice sx.a sx.n sx.c)/\W.cell? ⟨D,3,none⟩=some (.slice none 0 0)) (exact⟨by go_keep,by go_keep,by go_keep,by go_keep⟩) (first
      |(go_at_call 264;refine K1.out.mono ?_;rintro e V1 ⟨rfl,H1⟩;have HG1:Hid (wc.grownBy V1 (some g)):=Ii (Ee (Ae _ _).drew) H1.out.2;have e0:V1.cell? ⟨D,0,none⟩=some (.slice tn.a tn.n tn.c):=(HQD.out V1 HG1.out).box.1;have e1:V1.cell? ⟨D,1,none⟩=some (.slice su.a su.n su.c):=(HQD.out V1 HG1.out).box.2.1;have e2:V1.cell? ⟨D,2,none⟩=some (.slice sx.a sx.n sx.c):=(HQD.out V1 HG1.out).box.2.2.1;have e3:V1.cell? ⟨D,3,none⟩=some (.slice none 0 0):=(HQD.out V1 HG1.out).box.2.2.2.1;have er0:V1.cell? ⟨b+1,0,none⟩=some (.slice none 0 0):=(HRB.out V1 H1.out.1.kp).box.1;have ez0:=(HRB.out V1 H1.out.1.kp).fz 0;have er1:V1.cell? ⟨b+1,1,none⟩=some (.slice none 0 0):=(HRB.out V1 H1.out.1.kp).box.2.1;have ez1:=(HRB.out V1 H1.out.1.kp).fz 1;have er2:V1.cell? ⟨b+1,2,none⟩=some (.slice none 0 0):=(HRB.out V1 H1.out.1.kp).box.2.2.1;have ez2:=(HRB.out V1 H1.out.1.kp).fz 2;have er3:V1.cell? ⟨b+1,3,none⟩=some (.slice none 0 0):=(HRB.out V1 H1.out.1.kp).box.2.2.2.1;have ez3:=(HRB.out V1 H1.out.1.kp).fz 3;have el:b+1<V1.heap.size:=(HRB.out V1 H1.out.1.kp).lt)
      |(go_at_call 265;refine(K2.out _ H1.out.1).mono ?_;rintro e V2 ⟨rfl,H2⟩;have HV2:Hid (RS Wb V2 g a' k ca zs (some k)/\wc.grownBy V2 (some g)):=⟨H2.out.1,Ii HG1.out H2.out.2⟩;have f0:V2.cell? ⟨D,0,none⟩=some (.slice tn.a tn.n tn.c):=(HQD.out V2 HV2.out.2).box.1;have f1:V2.cell? ⟨D,1,none⟩=some (.slice su.a su.n su.c):=(HQD.out V2 HV2.out.2).box.2.1;have f2:V2.cell? ⟨D,2,none⟩=some (.slice sx.a sx.n sx.c):=(HQD.out V2 HV2.out.2).box.2.2.1;have f3:V2.cell? ⟨D,3,none⟩=some (.slice none 0 0):=(HQD.out V2 HV2.out.2).box.2.2.2.1;have fr0:V2.cell? ⟨b+1,0,none⟩=some (.slice none 0 0):=(HRB.out V2 H2.out.1.kp).box.1;have fz0:=(HRB.out V2 H2.out.1.kp).fz 0;have fr1:V2.cell? ⟨b+1,1,none⟩=some (.slice none 0 0):=(HRB.out V2 H2.out.1.kp).box.2.1;have fz1:=(HRB.out V2 H2.out.1.kp).fz 1;have fr2:V2.cell? ⟨b+1,2,none⟩=some (.slice none 0 0):=(HRB.out V2 H2.out.1.kp).box.2.2.1;have fz2:=(HRB.out V2 H2.out.1.kp).fz 2;have fr3:V2.cell? ⟨b+1,3,none⟩=some (.slice none 0 0):=(HRB.out V2 H2.out.1.kp).box.2.2.2.1;have fz3:=(HRB.out V2 H2.out.1.kp).fz 3;have fl:b+1<V2.heap.size:=(HRB.out V2 H2.out.1.kp).lt))
     all_goals
      go_wp2_with fail;generalize hG:((WG3 V2 (b+1) (.slice tn.a tn.n tn.c) (.slice su.a su.n su.c) (.slice sx.a sx.n sx.c)).setCell ⟨b+1,3,none⟩ (.slice none 0 0))=W9 at*;have HX:Hid (BD W9 (b+1) ⟨tn,su,sx,⟨none,0,0⟩⟩/\Dd w.heap.size W9 ⟨tn,su,sx,⟨none,0,0⟩⟩ d/\Below w.heap.size w W9):=by subst hG;exact(HQ.out.rd HV2.out.1 HV2.out.2).ret (HRB.out V2 HV2.out.1.kp) HBB.out.2.2.2.2.2 (by have:=Hb.out;omega) (HBW.out V2 HV2.out.1.kp)
      clear hG;have k0:=HX.out.1.box.1;have k1:=HX.out.1.box.2.1;have k2:=HX.out.1.box.2.2.1;have k3:=HX.out.1.box.2.2.2.1;simp only at k0 k1 k2 k3;exact An (v:=.tuple #[.agg #[.slice tn.a tn.n tn.c,.slice su.a su.n su.c,.slice sx.a sx.n sx.c,.slice none 0 0],.bool true]) (by simp[AJ,Gj,go_sem,k0,k1,k2,k3]) rfl ⟨⟨tn,su,sx,⟨none,0,0⟩⟩,by simp,HX.out.2.1,HX.out.2.2⟩
    ·obtain⟨m,hm2⟩:∃m:Nat,len=k+m+1:=⟨len - k - 1,by omega⟩;have hz:lft len (some k)=(m:Int)+1:=by
      show(len:Int) - (k:Int)=_;omega
     rw[hz]at KLs;clear hz hm2;have hm0:¬ ((m:Int)+1=0):=by omega
     have hm1:((m:Int)+1 == 0)=false:=by simpa using hm0
     have K1:Hid (Ag Aa 264 #[.pointer (some ⟨g,0,none⟩)] wc.drew fun e w'=>e=.returned (.int .i64 ((m:Int)+1))/\Hid (RS Wb w' g a' len ca zs (some k)/\wc.drew.grownBy w' (some g))):=KLs;clear KL KB KT KLs;go_wp2_with fail
     first
      |(go_region_with (first
      |(go_at_call 264;refine K1.out.mono ?_;rintro e V2 ⟨rfl,HV2⟩;have HV3:Hid (wc.grownBy V2 (some g)):=Ii (Ee (Ae _ _).drew) HV2.out.2;have e0:V2.cell? ⟨D,0,none⟩=some (.slice tn.a tn.n tn.c):=(HQD.out V2 HV3.out).box.1;have e1:V2.cell? ⟨D,1,none⟩=some (.slice su.a su.n su.c):=(HQD.out V2 HV3.out).box.2.1;have e2:V2.cell? ⟨D,2,none⟩=some (.slice sx.a sx.n sx.c):=(HQD.out V2 HV3.out).box.2.2.1;have e3:V2.cell? ⟨D,3,none⟩=some (.slice none 0 0):=(HQD.out V2 HV3.out).box.2.2.2.1;have er0:V2.cell? ⟨b+1,0,none⟩=some (.slice none 0 0):=(HRB.out V2 HV2.out.1.kp).box.1;have ez0:=(HRB.out V2 HV2.out.1.kp).fz 0;have er1:V2.cell? ⟨b+1,1,none⟩=some (.slice none 0 0):=(HRB.out V2 HV2.out.1.kp).box.2.1;have ez1:=(HRB.out V2 HV2.out.1.kp).fz 1;have er2:V2.cell? ⟨b+1,2,none⟩=some (.slice none 0 0):=(HRB.out V2 HV2.out.1.kp).box.2.2.1;have ez2:=(HRB.out V2 HV2.out.1.kp).fz 2;have er3:V2.cell? ⟨b+1,3,none⟩=some (.slice none 0 0):=(HRB.out V2 HV2.out.1.kp).box.2.2.2.1;have ez3:=(HRB.out V2 HV2.out.1.kp).fz 3;have el:b+1<V2.heap.size:=(HRB.out V2 HV2.out.1.kp).lt)))
      |fail
     all_goals
      go_wp2_with fail;generalize hG:((WG3 V2 (b+1) (.slice tn.a tn.n tn.c) (.slice su.a su.n su.c) (.slice sx.a sx.n sx.c)).setCell ⟨b+1,3,none⟩ (.slice none 0 0))=W9 at*;have HX:Hid (BD W9 (b+1) ⟨tn,su,sx,⟨none,0,0⟩⟩/\Dd w.heap.size W9 ⟨tn,su,sx,⟨none,0,0⟩⟩ d/\Below w.heap.size w W9):=by subst hG;exact(HQ.out.rd HV2.out.1 HV3.out).ret (HRB.out V2 HV2.out.1.kp) HBB.out.2.2.2.2.2 (by have:=Hb.out;omega) (HBW.out V2 HV2.out.1.kp)
      clear hG;have k0:=HX.out.1.box.1;have k1:=HX.out.1.box.2.1;have k2:=HX.out.1.box.2.2.1;have k3:=HX.out.1.box.2.2.2.1;simp only at k0 k1 k2 k3;exact An (v:=.tuple #[.agg #[.slice tn.a tn.n tn.c,.slice su.a su.n su.c,.slice sx.a sx.n sx.c,.slice none 0 0],.bool false]) (by simp[AJ,Gj,go_sem,k0,k1,k2,k3]) rfl ⟨⟨tn,su,sx,⟨none,0,0⟩⟩,by simp,HX.out.2.1,HX.out.2.2⟩
  ·have hnr':(nr != 0)=true:=by simp[hnr]
   have K1:Hid (Ag Aa 264 #[.pointer (some ⟨g,0,none⟩)] wc fun e w'=>e=.returned (.int .i64 (lft len r4.2))/\Hid (RS Wb w' g a' len ca zs r4.2/\wc.grownBy w' (some g))):=KL.out wc r4.2 HC.out.rs;have K2:Hid (∀W,RS Wb W g a' len ca zs r4.2->Ag Aa 263 #[.pointer (some ⟨g,0,none⟩),.int .i64 (lft len r4.2)] W fun e w'=>∃s:Sl,e=.returned (.slice s.a s.n s.c)/\Hid (GO Wb.heap.size w' s (tk zs r4.2 (lft len r4.2))/\RS Wb w' g a' len ca zs (mv len r4.2 (lft len r4.2))/\W.grownBy w' (some g))):=fun W hW=>KT.out W r4.2 _ hW
   have HPR2:Hid (PR=(⟨r1.1++r3.1,r2.1,r4.1,tk zs r4.2 (lft len r4.2)⟩,mv len r4.2 (lft len r4.2))):=by
    have e:=HPR.out;rw[if_neg hnr]at e;exact e
   clear HPR HN;obtain⟨z,hz⟩:∃z,lft len r4.2=z:=⟨_,rfl⟩;rw[hz]at K1 K2 HPR2;clear hz;go_wp2_with fail;refine K1.out.mono ?_;rintro e W7 ⟨rfl,H7⟩;go_wp2_with fail;refine(K2.out _ H7.out.1).mono ?_;rintro e W8 ⟨s8,rfl,H8⟩;have HC8:Hid (OA Wb W8 g a' len ca zs (mv len r4.2 z) D ⟨tn,su,sx,⟨none,0,0⟩⟩ ⟨r1.1++r3.1,r2.1,r4.1,[]⟩):=(HC.out.rd H7.out.1 H7.out.2).rd H8.out.2.1 H8.out.2.2;have HQ:Hid (OA Wb (W8.setCell ⟨D,3,none⟩ (.slice s8.a s8.n s8.c)) g a' len ca zs PR.2 D ⟨tn,su,sx,s8⟩ PR.1):=by
    rw[HPR2.out];exact HC8.out.raw H8.out.1
   have c3:=HC8.out.blk.box.2.2.2.1;have c4:=HC8.out.blk.fz 3;have c5:=HC8.out.blk.lt;simp only at c3;clear HC HPR2 K1 K2 H7 H8 f7;obtain⟨d,st⟩:=PR;obtain⟨a8,n8,c8⟩:=s8;simp only at HQ ⊢
   go_upto_region 8 with fail
   generalize W8.setCell ⟨D,3,none⟩ (.slice a8 n8 c8)=W9 at*;clear HC8 c3 c4 c5;have d0:W9.cell? ⟨D,0,none⟩=some (.slice tn.a tn.n tn.c):=HQ.out.blk.box.1;have d1:W9.cell? ⟨D,1,none⟩=some (.slice su.a su.n su.c):=HQ.out.blk.box.2.1;have d2:W9.cell? ⟨D,2,none⟩=some (.slice sx.a sx.n sx.c):=HQ.out.blk.box.2.2.1;have d3:W9.cell? ⟨D,3,none⟩=some (.slice a8 n8 c8):=HQ.out.blk.box.2.2.2.1;have HQD:Hid (∀W,W9.grownBy W (some g)->BD W D ⟨tn,su,sx,⟨a8,n8,c8⟩⟩):=fun W hW=>HQ.out.blk.call hW (Ap HQ.out.rs.gl HQ.out.low)
   have HVD:Hid (RS Wb W9.drew g a' len ca zs st):=HQ.out.rs.below (Ae _ _).drew;have hDb:¬ b+1=D:=by have h1:=HBB.out.2.2.2.2.2;have h2:=HQ.out.low;omega
   have hDb2:¬ D=b+1:=by omega
   cases st with
   |none=>
    have KLs:=KL.out _ none HVD.out;have K1:Hid (Ag Aa 264 #[.pointer (some ⟨g,0,none⟩)] W9.drew fun e w'=>e=.returned (.int .i64 0)/\Hid (RS Wb w' g a' len ca zs none/\W9.drew.grownBy w' (some g))):=KLs;have K2:Hid (∀W,RS Wb W g a' len ca zs none->Ag Aa 265 #[.pointer (some ⟨g,0,none⟩)] W fun e w'=>e=.returned (.bool true)/\Hid (RS Wb w' g a' len ca zs none/\W.grownBy w' (some g))):=fun W hW=>KB.out W none hW
    clear KL KB KT KLs;go_wp2_with fail
    go_region_held3 (fun W=>W.cell? ⟨D,0,none⟩=some (.slice tn.a tn.n tn.c)/\W.cell? ⟨D,1,none⟩=some (.slice su.a su.n su.c)/\W.cell? ⟨D,2,none⟩=some (.slice sx.a sx.n sx.c)/\W.cell? ⟨D,3,none⟩=some (.slice a8 n8 c8)) (exact⟨by go_keep,by go_keep,by go_keep,by go_keep⟩) (first
     |(go_at_call 264;refine K1.out.mono ?_;rintro e V1 ⟨rfl,H1⟩;have HG1:Hid (W9.grownBy V1 (some g)):=Ii (Ee (Ae _ _).drew) H1.out.2;have e0:V1.cell? ⟨D,0,none⟩=some (.slice tn.a tn.n tn.c):=(HQD.out V1 HG1.out).box.1;have e1:V1.cell? ⟨D,1,none⟩=some (.slice su.a su.n su.c):=(HQD.out V1 HG1.out).box.2.1;have e2:V1.cell? ⟨D,2,none⟩=some (.slice sx.a sx.n sx.c):=(HQD.out V1 HG1.out).box.2.2.1;have e3:V1.cell? ⟨D,3,none⟩=some (.slice a8 n8 c8):=(HQD.out V1 HG1.out).box.2.2.2.1;have er0:V1.cell? ⟨b+1,0,none⟩=some (.slice none 0 0):=(HRB.out V1 H1.out.1.kp).box.1;have ez0:=(HRB.out V1 H1.out.1.kp).fz 0;have er1:V1.cell? ⟨b+1,1,none⟩=some (.slice none 0 0):=(HRB.out V1 H1.out.1.kp).box.2.1;have ez1:=(HRB.out V1 H1.out.1.kp).fz 1;have er2:V1.cell? ⟨b+1,2,none⟩=some (.slice none 0 0):=(HRB.out V1 H1.out.1.kp).box.2.2.1;have ez2:=(HRB.out V1 H1.out.1.kp).fz 2;have er3:V1.cell? ⟨b+1,3,none⟩=some (.slice none 0 0):=(HRB.out V1 H1.out.1.kp).box.2.2.2.1;have ez3:=(HRB.out V1 H1.out.1.kp).fz 3;have el:b+1<V1.heap.size:=(HRB.out V1 H1.out.1.kp).lt)
     |(go_at_call 265;refine(K2.out _ H1.out.1).mono ?_;rintro e V2 ⟨rfl,H2⟩;have HV2:Hid (RS Wb V2 g a' len ca zs none/\W9.grownBy V2 (some g)):=⟨H2.out.1,Ii HG1.out H2.out.2⟩;have f0:V2.cell? ⟨D,0,none⟩=some (.slice tn.a tn.n tn.c):=(HQD.out V2 HV2.out.2).box.1;have f1:V2.cell? ⟨D,1,none⟩=some (.slice su.a su.n su.c):=(HQD.out V2 HV2.out.2).box.2.1;have f2:V2.cell? ⟨D,2,none⟩=some (.slice sx.a sx.n sx.c):=(HQD.out V2 HV2.out.2).box.2.2.1;have f3:V2.cell? ⟨D,3,none⟩=some (.slice a8 n8 c8):=(HQD.out V2 HV2.out.2).box.2.2.2.1;have fr0:V2.cell? ⟨b+1,0,none⟩=some (.slice none 0 0):=(HRB.out V2 H2.out.1.kp).box.1;have fz0:=(HRB.out V2 H2.out.1.kp).fz 0;have fr1:V2.cell? ⟨b+1,1,none⟩=some (.slice none 0 0):=(HRB.out V2 H2.out.1.kp).box.2.1;have fz1:=(HRB.out V2 H2.out.1.kp).fz 1;have fr2:V2.cell? ⟨b+1,2,none⟩=some (.slice none 0 0):=(HRB.out V2 H2.out.1.kp).box.2.2.1;have fz2:=(HRB.out V2 H2.out.1.kp).fz 2;have fr3:V2.cell? ⟨b+1,3,none⟩=some (.slice none 0 0):=(HRB.out V2 H2.out.1.kp).box.2.2.2.1;have fz3:=(HRB.out V2 H2.out.1.kp).fz 3;have fl:b+1<V2.heap.size:=(HRB.out V2 H2.out.1.kp).lt))
    all_goals
     go_wp2_with fail;generalize hG:((WG3 V2 (b+1) (.slice tn.a tn.n tn.c) (.slice su.a su.n su.c) (.slice sx.a sx.n sx.c)).setCell ⟨b+1,3,none⟩ (.slice a8 n8 c8))=W99 at*;have HX:Hid (BD W99 (b+1) ⟨tn,su,sx,⟨a8,n8,c8⟩⟩/\Dd w.heap.size W99 ⟨tn,su,sx,⟨a8,n8,c8⟩⟩ d/\Below w.heap.size w W99):=by subst hG;exact(HQ.out.rd HV2.out.1 HV2.out.2).ret (HRB.out V2 HV2.out.1.kp) HBB.out.2.2.2.2.2 (by have:=Hb.out;omega) (HBW.out V2 HV2.out.1.kp)
     clear hG;have k0:=HX.out.1.box.1;have k1:=HX.out.1.box.2.1;have k2:=HX.out.1.box.2.2.1;have k3:=HX.out.1.box.2.2.2.1;simp only at k0 k1 k2 k3;exact An (v:=.tuple #[.agg #[.slice tn.a tn.n tn.c,.slice su.a su.n su.c,.slice sx.a sx.n sx.c,.slice a8 n8 c8],.bool false]) (by simp[AJ,Gj,go_sem,k0,k1,k2,k3]) rfl ⟨⟨tn,su,sx,⟨a8,n8,c8⟩⟩,by simp,HX.out.2.1,HX.out.2.2⟩
   |some k=>
    have KLs:=KL.out _ (some k) HVD.out;have hkl:k<=len:=HQ.out.rs.rst.le k rfl;by_cases hke:k=len
    ·subst hke;have hz:lft k (some k)=0:=by simp[lft]
     rw[hz]at KLs;clear hz;have K1:Hid (Ag Aa 264 #[.pointer (some ⟨g,0,none⟩)] W9.drew fun e w'=>e=.returned (.int .i64 0)/\Hid (RS Wb w' g a' k ca zs (some k)/\W9.drew.grownBy w' (some g))):=KLs;have K2:Hid (∀W,RS Wb W g a' k ca zs (some k)->Ag Aa 265 #[.pointer (some ⟨g,0,none⟩)] W fun e w'=>e=.returned (.bool false)/\Hid (RS Wb w' g a' k ca zs (some k)/\W.grownBy w' (some g))):=fun W hW=>KB.out W (some k) hW
     clear KL KB KT KLs;go_wp2_with fail
     go_region_held3 (fun W=>W.cell? ⟨D,0,none⟩=some (.slice tn.a tn.n tn.c)/\W.cell? ⟨D,1,none⟩=some (.slice su.a su.n su.c)/\W.cell? ⟨D,2,none⟩=some (.slice sx.a sx.n sx.c)/\W.cell? ⟨D,3,none⟩=some (.slice a8 n8 c8)) (exact⟨by go_keep,by go_keep,by go_keep,by go_keep⟩) (first
      |(go_at_call 264;refine K1.out.mono ?_;rintro e V1 ⟨rfl,H1⟩;have HG1:Hid (W9.grownBy V1 (some g)):=Ii (Ee (Ae _ _).drew) H1.out.2;have e0:V1.cell? ⟨D,0,none⟩=some (.slice tn.a tn.n tn.c):=(HQD.out V1 HG1.out).box.1;have e1:V1.cell? ⟨D,1,none⟩=some (.slice su.a su.n su.c):=(HQD.out V1 HG1.out).box.2.1;have e2:V1.cell? ⟨D,2,none⟩=some (.slice sx.a sx.n sx.c):=(HQD.out V1 HG1.out).box.2.2.1;have e3:V1.cell? ⟨D,3,none⟩=some (.slice a8 n8 c8):=(HQD.out V1 HG1.out).box.2.2.2.1;have er0:V1.cell? ⟨b+1,0,none⟩=some (.slice none 0 0):=(HRB.out V1 H1.out.1.kp).box.1;have ez0:=(HRB.out V1 H1.out.1.kp).fz 0;have er1:V1.cell? ⟨b+1,1,none⟩=some (.slice none 0 0):=(HRB.out V1 H1.out.1.kp).box.2.1;have ez1:=(HRB.out V1 H1.out.1.kp).fz 1;have er2:V1.cell? ⟨b+1,2,none⟩=some (.slice none 0 0):=(HRB.out V1 H1.out.1.kp).box.2.2.1;have ez2:=(HRB.out V1 H1.out.1.kp).fz 2;have er3:V1.cell? ⟨b+1,3,none⟩=some (.slice none 0 0):=(HRB.out V1 H1.out.1.kp).box.2.2.2.1;have ez3:=(HRB.out V1 H1.out.1.kp).fz 3;have el:b+1<V1.heap.size:=(HRB.out V1 H1.out.1.kp).lt)
      |(go_at_call 265;refine(K2.out _ H1.out.1).mono ?_;rintro e V2 ⟨rfl,H2⟩;have HV2:Hid (RS Wb V2 g a' k ca zs (some k)/\W9.grownBy V2 (some g)):=⟨H2.out.1,Ii HG1.out H2.out.2⟩;have f0:V2.cell? ⟨D,0,none⟩=some (.slice tn.a tn.n tn.c):=(HQD.out V2 HV2.out.2).box.1;have f1:V2.cell? ⟨D,1,none⟩=some (.slice su.a su.n su.c):=(HQD.out V2 HV2.out.2).box.2.1;have f2:V2.cell? ⟨D,2,none⟩=some (.slice sx.a sx.n sx.c):=(HQD.out V2 HV2.out.2).box.2.2.1;have f3:V2.cell? ⟨D,3,none⟩=some (.slice a8 n8 c8):=(HQD.out V2 HV2.out.2).box.2.2.2.1;have fr0:V2.cell? ⟨b+1,0,none⟩=some (.slice none 0 0):=(HRB.out V2 H2.out.1.kp).box.1;have fz0:=(HRB.out V2 H2.out.1.kp).fz 0;have fr1:V2.cell? ⟨b+1,1,none⟩=some (.slice none 0 0):=(HRB.out V2 H2.out.1.kp).box.2.1;have fz1:=(HRB.out V2 H2.out.1.kp).fz 1;have fr2:V2.cell? ⟨b+1,2,none⟩=some (.slice none 0 0):=(HRB.out V2 H2.out.1.kp).box.2.2.1;have fz2:=(HRB.out V2 H2.out.1.kp).fz 2;have fr3:V2.cell? ⟨b+1,3,none⟩=some (.slice none 0 0):=(HRB.out V2 H2.out.1.kp).box.2.2.2.1;have fz3:=(HRB.out V2 H2.out.1.kp).fz 3;have fl:b+1<V2.heap.size:=(HRB.out V2 H2.out.1.kp).lt))
     all_goals
      go_wp2_with fail;generalize hG:((WG3 V2 (b+1) (.slice tn.a tn.n tn.c) (.slice su.a su.n su.c) (.slice sx.a sx.n sx.c)).setCell ⟨b+1,3,none⟩ (.slice a8 n8 c8))=W99 at*;have HX:Hid (BD W99 (b+1) ⟨tn,su,sx,⟨a8,n8,c8⟩⟩/\Dd w.heap.size W99 ⟨tn,su,sx,⟨a8,n8,c8⟩⟩ d/\Below w.heap.size w W99):=by subst hG;exact(HQ.out.rd HV2.out.1 HV2.out.2).ret (HRB.out V2 HV2.out.1.kp) HBB.out.2.2.2.2.2 (by have:=Hb.out;omega) (HBW.out V2 HV2.out.1.kp)
      clear hG;have k0:=HX.out.1.box.1;have k1:=HX.out.1.box.2.1;have k2:=HX.out.1.box.2.2.1;have k3:=HX.out.1.box.2.2.2.1;simp only at k0 k1 k2 k3;exact An (v:=.tuple #[.agg #[.slice tn.a tn.n tn.c,.slice su.a su.n su.c,.slice sx.a sx.n sx.c,.slice a8 n8 c8],.bool true]) (by simp[AJ,Gj,go_sem,k0,k1,k2,k3]) rfl ⟨⟨tn,su,sx,⟨a8,n8,c8⟩⟩,by simp,HX.out.2.1,HX.out.2.2⟩
    ·obtain⟨m,hm2⟩:∃m:Nat,len=k+m+1:=⟨len - k - 1,by omega⟩;have hz:lft len (some k)=(m:Int)+1:=by
      show(len:Int) - (k:Int)=_;omega
     rw[hz]at KLs;clear hz hm2;have hm0:¬ ((m:Int)+1=0):=by omega
     have hm1:((m:Int)+1 == 0)=false:=by simpa using hm0
     have K1:Hid (Ag Aa 264 #[.pointer (some ⟨g,0,none⟩)] W9.drew fun e w'=>e=.returned (.int .i64 ((m:Int)+1))/\Hid (RS Wb w' g a' len ca zs (some k)/\W9.drew.grownBy w' (some g))):=KLs;clear KL KB KT KLs;go_wp2_with fail
     first
      |(go_region_with (first
      |(go_at_call 264;refine K1.out.mono ?_;rintro e V2 ⟨rfl,HV2⟩;have HV3:Hid (W9.grownBy V2 (some g)):=Ii (Ee (Ae _ _).drew) HV2.out.2;have e0:V2.cell? ⟨D,0,none⟩=some (.slice tn.a tn.n tn.c):=(HQD.out V2 HV3.out).box.1;have e1:V2.cell? ⟨D,1,none⟩=some (.slice su.a su.n su.c):=(HQD.out V2 HV3.out).box.2.1;have e2:V2.cell? ⟨D,2,none⟩=some (.slice sx.a sx.n sx.c):=(HQD.out V2 HV3.out).box.2.2.1;have e3:V2.cell? ⟨D,3,none⟩=some (.slice a8 n8 c8):=(HQD.out V2 HV3.out).box.2.2.2.1;have er0:V2.cell? ⟨b+1,0,none⟩=some (.slice none 0 0):=(HRB.out V2 HV2.out.1.kp).box.1;have ez0:=(HRB.out V2 HV2.out.1.kp).fz 0;have er1:V2.cell? ⟨b+1,1,none⟩=some (.slice none 0 0):=(HRB.out V2 HV2.out.1.kp).box.2.1;have ez1:=(HRB.out V2 HV2.out.1.kp).fz 1;have er2:V2.cell? ⟨b+1,2,none⟩=some (.slice none 0 0):=(HRB.out V2 HV2.out.1.kp).box.2.2.1;have ez2:=(HRB.out V2 HV2.out.1.kp).fz 2;have er3:V2.cell? ⟨b+1,3,none⟩=some (.slice none 0 0):=(HRB.out V2 HV2.out.1.kp).box.2.2.2.1;have ez3:=(HRB.out V2 HV2.out.1.kp).fz 3;have el:b+1<V2.heap.size:=(HRB.out V2 HV2.out.1.kp).lt)))
      |fail
     all_goals
      go_wp2_with fail;generalize hG:((WG3 V2 (b+1) (.slice tn.a tn.n tn.c) (.slice su.a su.n su.c) (.slice sx.a sx.n sx.c)).setCell ⟨b+1,3,none⟩ (.slice a8 n8 c8))=W99 at*;have HX:Hid (BD W99 (b+1) ⟨tn,su,sx,⟨a8,n8,c8⟩⟩/\Dd w.heap.size W99 ⟨tn,su,sx,⟨a8,n8,c8⟩⟩ d/\Below w.heap.size w W99):=by subst hG;exact(HQ.out.rd HV2.out.1 HV3.out).ret (HRB.out V2 HV2.out.1.kp) HBB.out.2.2.2.2.2 (by have:=Hb.out;omega) (HBW.out V2 HV2.out.1.kp)
      clear hG;have k0:=HX.out.1.box.1;have k1:=HX.out.1.box.2.1;have k2:=HX.out.1.box.2.2.1;have k3:=HX.out.1.box.2.2.2.1;simp only at k0 k1 k2 k3;exact An (v:=.tuple #[.agg #[.slice tn.a tn.n tn.c,.slice su.a su.n su.c,.slice sx.a sx.n sx.c,.slice a8 n8 c8],.bool false]) (by simp[AJ,Gj,go_sem,k0,k1,k2,k3]) rfl ⟨⟨tn,su,sx,⟨a8,n8,c8⟩⟩,by simp,HX.out.2.1,HX.out.2.2⟩
theorem Vo(zs:List Int)(p:Int):(Dt zs p).1.length<=255:=by
 unfold Dt;split
 ·simp
 ·split
  ·simp
  ·split
   ·rename_i h
    have h1:=(BI h).1;have h2:=Gt ‹List ByteArray›;simp only;omega
   ·simp
theorem Nv(zs:List Int)(len:Nat)(st:Option Nat):∀k,∀n∈(BO zs len st k).1,n.length<=255
 |0=>by simp[BO]
 |k+1=>by
  intro n hn;simp only[BO,AG,Bc]at hn;obtain hn|hn:=hn
  ·exact Nv zs len st k n hn
  ·subst hn;exact Vo _ _
theorem QX(zs:List Int):∀(k:Nat) (st:Option Nat),(IS zs zs.length k st).1.length<=k/\∀s∈(IS zs zs.length k st).1,s.size<=zs.length
 |0,st=>by simp[IS]
 |k+1,st=>by
  by_cases h:0<lft zs.length st
  ·have ih:=QX zs k (mv zs.length (mv zs.length st 1) (val (tk zs st 1)));unfold IS;rw[if_pos h];refine⟨by simp;exact ih.1,?_⟩;intro s hs;simp only[Ax]at hs;obtain rfl|hs:=hs
   ·rw[Fv];exact La zs zs.length rfl _ _
   ·exact ih.2 s hs
  ·rw[Ob zs zs.length (k+1) st h];simp
theorem XP(l:List ByteArray)(m:Nat)(h:∀s∈l,s.size<=m):(l.map tz).sum<=l.length*(m+1):=by
 have:=Ua (l.map tz) (m+1) (by
  intro x hx;obtain⟨s,hs,rfl⟩:=AY.1 hx;have:=h s hs;simp only[tz];omega)
 simpa using this
theorem Vk(t:Nat)(zs:List Int)(hl:zs.length<=65535):Bd (Ec (fs t) zs zs.length).1:=by
 have hfc:(fs t).nf<=(fs t).nn/\(fs t).nn<=2/\(fs t).nu<=5:=by
  obtain⟨_,e⟩|⟨_,e⟩|⟨_,e⟩|⟨_,e⟩|⟨_,e⟩|⟨_,e⟩|⟨_,e⟩|⟨_,e⟩|⟨_,e⟩:=Ew t <;> rw[e] <;> simp
 refine⟨?_,?_,?_,?_,?_⟩
 ·show(_++_:List (List ByteArray)).length<=1000;rw[Af,Jj,Jj];omega
 ·intro x hx;have hx':=hx;obtain h|h:=AG.1 hx'
  ·have:=Nv _ _ _ _ x h;omega
  ·have:=Nv _ _ _ _ x h;omega
 ·show(Dp _ _ _ _ _).1.length<=1000;rw[Ry];omega
 ·have h:∀st,((Fe (fs t) zs zs.length st).1.length<=65537/\∀s∈(Fe (fs t) zs zs.length st).1,s.size<=65535):=by
   intro st;unfold Fe;split
   ·have:=QX zs (zs.length+1) st;exact⟨by omega,fun s hs=>by have:=this.2 s hs;omega⟩
   ·split
    ·refine⟨by rw[iY];omega,?_⟩;intro s hs;simp only[PZ,Ax,Ep,or_false]at hs;obtain rfl|rfl:=hs
     ·have:=La zs zs.length rfl (mv zs.length st 1) (val (tk zs st 1));rw[Fv];omega
     ·have:=La zs zs.length rfl (mv zs.length (mv zs.length st 1) (val (tk zs st 1))) (lft zs.length (mv zs.length (mv zs.length st 1) (val (tk zs st 1))));rw[Fv];omega
    ·simp
  have h2:=h (BO zs zs.length (Dp zs zs.length (BO zs zs.length (some 0) (fs t).nf).2 (fs t).wd (fs t).nu).2 ((fs t).nn - (fs t).nf)).2;have h3:=XP _ 65535 h2.2;show((Fe (fs t) zs zs.length (BO zs zs.length (Dp zs zs.length (BO zs zs.length (some 0) (fs t).nf).2 (fs t).wd (fs t).nu).2 ((fs t).nn - (fs t).nf)).2).1.map tz).sum<=_;have h4:=Nat.mul_le_mul_right (65535+1) h2.1;omega
 ·show(FH (if (fs t).nr=0 then(([]:List Int),_) else(_,_)).1)<=_;split
  ·simp
  ·have:=La zs zs.length rfl (Fe (fs t) zs zs.length (BO zs zs.length (Dp zs zs.length (BO zs zs.length (some 0) (fs t).nf).2 (fs t).wd (fs t).nu).2 ((fs t).nn - (fs t).nf)).2).2 (lft zs.length (Fe (fs t) zs zs.length (BO zs zs.length (Dp zs zs.length (BO zs zs.length (some 0) (fs t).nf).2 (fs t).wd (fs t).nu).2 ((fs t).nn - (fs t).nf)).2).2);simp only;omega
def Eo:Dat:=⟨[],[],[],[]⟩
def Fb(t:Nat)(zs:List Int):Dat × Int:=if Gz t then(if zs.length<=65535 then(match JI t zs with|some d=>(d,0)|none=>(Eo,8)) else(Eo,8)) else(Eo,6)
def RdP(r:Dat × Int)(w:Ab)(e:Ending)(w':Ab):Prop:=∃x:DA,e=.returned (.tuple #[.agg #[.slice x.p1.a x.p1.n x.p1.c,.slice x.p2.a x.p2.n x.p2.c,.slice x.p3.a x.p3.n x.p3.c,.slice x.p4.a x.p4.n x.p4.c],.int .i64 r.2])/\Hid (Dd w.heap.size w' x r.1/\Blw w w')
theorem QA(B:Nat)(w:Ab):Dd B w Bo Eo:=⟨Dk.nil B w,VV B w,⟨[],BF.nil _ _ _,rfl⟩,RB _ _⟩
theorem YW{w w':Ab}{c:Int}(hb:Blw w w'):RdP (Eo,c) w (.returned (.tuple #[.agg #[.slice none 0 0,.slice none 0 0,.slice none 0 0,.slice none 0 0],.int .i64 c])) w':=⟨Bo,rfl,QA _ _,hb⟩
theorem Wz(t:Nat)(zs:List Int)(hb:∀z∈zs,0<=z/\z<=255)(hm:Gz t=true)(hl:zs.length<=65535):Fb t zs=if (Ec (fs t) zs zs.length).2=some zs.length then(if Bw t (Ec (fs t) zs zs.length).1=0 then((Ec (fs t) zs zs.length).1,0) else(Eo,8)) else(Eo,8):=by
 unfold Fb;rw[if_pos hm,if_pos hl,<- bP t zs hb];by_cases h1:(Ec (fs t) zs zs.length).2=some zs.length
 ·by_cases h2:Bw t (Ec (fs t) zs zs.length).1=0
  ·rw[if_pos ⟨h1,h2⟩,if_pos h1,if_pos h2]
  ·rw[if_neg (fun h=>h2 h.2),if_pos h1,if_neg h2]
 ·rw[if_neg (fun h=>h1 h.1),if_neg h1]
theorem fW(t:Nat)(a:Option Addr)(len cap:Nat)(zs:List Int)(w:Ab)(hl:zs.length=len)(hlm:len<=9223372036854775807)(h:Gz t=false∨65535<len) :
  Ag Aa 228 #[.int .u16 t,.slice a len cap] w (RdP (Fb t zs) w):=by
 have KH:Hid (∀W,Ag Aa 99 #[.int .u16 t] W fun e w'=>e=.returned (.bool (Gz t))/\w'=W):=fun W=>LQ t W
 by_cases hm:Gz t=false
 ·have e:Fb t zs=(Eo,6):=by unfold Fb;rw[if_neg (by simp[hm])]
  rw[e];rw[hm]at KH;go_enter Tryz.func228,Tryz.ntmps228;go_wp2_with (go_at_call 99;refine(KH.out _).mono ?_;rintro e w' ⟨rfl,rfl⟩);exact An (v:=.tuple #[.agg #[.slice none 0 0,.slice none 0 0,.slice none 0 0,.slice none 0 0],.int .i64 6]) (by simp[AJ,Jm,go_sem]) rfl (YW (Ah _ _))
 ·have hm':Gz t=true:=by simpa using hm
  have hgt:=h.resolve_left hm;have hgt':(65535:Int)<(len:Int):=by omega
  have e:Fb t zs=(Eo,8):=by unfold Fb;rw[if_pos hm',if_neg (by omega)]
  rw[e];rw[hm']at KH;go_enter Tryz.func228,Tryz.ntmps228;go_wp2_with (go_at_call 99;refine(KH.out _).mono ?_;rintro e w' ⟨rfl,rfl⟩);exact An (v:=.tuple #[.agg #[.slice none 0 0,.slice none 0 0,.slice none 0 0,.slice none 0 0],.int .i64 8]) (by simp[AJ,Jm,go_sem]) rfl (YW (Ah _ _))
theorem ret4{w W:Ab}{b:Nat}{y:DA}(h:BD W b y)(hb:Blw w W)(hw:w.heap.size<=b)(x:DA):BD (set4 W b x) b x/\Blw w (set4 W b x):=
 ⟨QV h x,(((hb.setCell (p:=⟨b,0,none⟩) hw _).setCell (p:=⟨b,1,none⟩) hw _).setCell (p:=⟨b,2,none⟩) hw _).setCell (p:=⟨b,3,none⟩) hw _⟩
theorem Dd.ret4{B B':Nat}{W:Ab}{b:Nat}{x:DA}{d:Dat}(h:Dd B W x d)(hb:b<B)(hB:B'<=B):Dd B' (set4 W b x) x d:=(h.keep (fun j hj _=>Oo W b x j (by omega))).mono hB
theorem Dd.stays{B:Nat}{w w':Ab}{x:DA}{d:Dat}(h:Dd B w x d)(hb:Blw w w'):Dd B w' x d:=h.keep fun j _ hj=>hb.block j hj
abbrev WZ3(w:Ab)(b:Nat):Ab:=((w.setCell ⟨b,0,none⟩ (.slice none 0 0)).setCell ⟨b,1,none⟩ (.slice none 0 0)).setCell ⟨b,2,none⟩ (.slice none 0 0)
theorem iT(t:Nat)(a:Option Addr)(len cap:Nat)(zs:List Int)(w:Ab)(hr:Rd w a zs)(hl:zs.length=len)(hm:len<=65535)(hc:len<=cap/\cap<=9223372036854775807)(hnil:a=none->cap=0)(hmay:Gz t=true) :
  Ag Aa 228 #[.int .u16 t,.slice a len cap] w (RdP (Fb t zs) w):=by
 have KH:Hid (∀W,Ag Aa 99 #[.int .u16 t] W fun e w'=>e=.returned (.bool true)/\w'=W):=fun W=>by have:=LQ t W;rw[hmay]at this;exact this
 have KO:Hid (∀W,Ag Aa 100 #[.int .u16 t] W fun e w'=>e=.returned (.agg #[.int .i64 (fs t).nn,.int .i64 (fs t).nf,.int .i64 (fs t).nu,.int .i64 (fs t).wd,.int .i64 (fs t).nt,.int .i64 (fs t).tg,.int .i64 (fs t).tl,.int .i64 (fs t).nr])/\Hid (Below W.heap.size W w')):=fun W=>Oa t W
 have KR:Hid (∀W,Rd W a zs->Ag Aa 244 #[.agg #[.int .i64 (fs t).nn,.int .i64 (fs t).nf,.int .i64 (fs t).nu,.int .i64 (fs t).wd,.int .i64 (fs t).nt,.int .i64 (fs t).tg,.int .i64 (fs t).tl,.int .i64 (fs t).nr],.slice a len cap] W fun e w'=>∃x:DA,e=.returned (.tuple #[.agg #[.slice x.p1.a x.p1.n x.p1.c,.slice x.p2.a x.p2.n x.p2.c,.slice x.p3.a x.p3.n x.p3.c,.slice x.p4.a x.p4.n x.p4.c],.bool (decide ((Ec (fs t) zs len).2=some len))])/\Hid (Dd W.heap.size w' x (Ec (fs t) zs len).1/\Below W.heap.size W w')):=fun W hW=>Ui t a len cap zs W hW hl hm hc hnil
 have KC:Hid (∀W x,DRd W x (Ec (fs t) zs len).1->Ag Aa 63 #[.int .u16 t,.agg #[.slice x.p1.a x.p1.n x.p1.c,.slice x.p2.a x.p2.n x.p2.c,.slice x.p3.a x.p3.n x.p3.c,.slice x.p4.a x.p4.n x.p4.c]] W fun e w'=>e=.returned (.int .i64 (Bw t (Ec (fs t) zs len).1))/\Hid (Below W.heap.size W w')):=fun W x hd=>MG t x _ W hd (by rw[<- hl];exact Vk t zs (by omega))
 have HRF:=Wz t zs hr.2 hmay (by omega);rw[hl]at HRF;have HB1:=Ah w (.cells #[.slice none 0 0,.slice none 0 0,.slice none 0 0,.slice none 0 0] 41);have HR1:Hid (Rd (w.alloc (.cells #[.slice none 0 0,.slice none 0 0,.slice none 0 0,.slice none 0 0] 41)) a zs):=hr.below HB1;have HD1:Hid (BD (w.alloc (.cells #[.slice none 0 0,.slice none 0 0,.slice none 0 0,.slice none 0 0] 41)) w.heap.size Bo/\Below w.heap.size w (w.alloc (.cells #[.slice none 0 0,.slice none 0 0,.slice none 0 0,.slice none 0 0] 41))):=⟨Au _ _,HB1⟩;have HR:Hid (Fb t zs=_):=HRF;clear HRF hr HB1;generalize Fb t zs=RR at*;generalize Bw t (Ec (fs t) zs len).1=C at*;generalize Ec (fs t) zs len=PR at*;generalize (fs t)=f at*;obtain⟨nn,nf,nu,wd,nt,tg,tl,nr⟩:=f;obtain⟨d,st⟩:=PR;simp only at KO KR KC HR;have hle:¬ (65535:Int)<(len:Int):=by omega
 go_enter Tryz.func228,Tryz.ntmps228;go_wp2_with (go_at_call 99;refine(KH.out _).mono ?_;rintro e w' ⟨rfl,rfl⟩);generalize (w.alloc (.cells #[.slice none 0 0,.slice none 0 0,.slice none 0 0,.slice none 0 0] 41))=W1 at*;obtain⟨b,hb⟩:∃b,b=w.heap.size:=⟨_,rfl⟩;rw[<- hb]at HD1 ⊢;have Hb:Hid (b=w.heap.size):=hb;clear hb;refine(KO.out _).mono ?_;rintro e W2 ⟨rfl,H2⟩;have HD2:Hid (BD W2 b Bo/\Below w.heap.size w W2/\Rd W2 a zs):=⟨HD1.out.1.same (H2.out.block b HD1.out.1.lt),by have:=HD1.out.2;rw[Hb.out]at this;exact this.trans (H2.out.mono this.size),HR1.out.below H2.out⟩;clear HD1 HR1 H2 KO KH;go_wp2_with fail;refine(KR.out _ HD2.out.2.2).mono ?_;rintro e W3 ⟨x,rfl,H3⟩;have hn3:=Ah W3 (cDx x);have HD3:Hid (BD (W3.alloc (cDx x)) b Bo/\BD (W3.alloc (cDx x)) W3.heap.size x/\Below w.heap.size w (W3.alloc (cDx x))/\Dd W2.heap.size (W3.alloc (cDx x)) x d/\b<W3.heap.size/\b<W2.heap.size):=by
  obtain⟨p1,p2,p3⟩:=HD2.out;obtain⟨q1,q2⟩:=H3.out;have hbl:=p1.lt;refine⟨(p1.same (q2.block b hbl)).same (hn3.block b (Ap hbl q2.size)),Au _ _,(p2.trans (q2.mono p2.size)).trans (hn3.mono (Aj p2.size q2.size)),q1.stays hn3,Ap hbl q2.size,hbl⟩
 clear hn3 H3 KR;have hbne:¬ b=W3.heap.size:=by have:=HD3.out.2.2.2.2;omega
 have hbne2:¬ W3.heap.size=b:=by omega
 by_cases hw:st=some len
 ·have hdw:decide (st=some len)=true:=by simp[hw]
  have HR2:Hid (RR=if C=0 then(d,0) else(Eo,8)):=by have:=HR.out;rw[if_pos hw]at this;exact this
  clear HR hw;rw[hdw];clear hdw
  go_upto_region 6 with fail
  generalize (W3.alloc (cDx x))=W4 at*;obtain⟨D,hD⟩:∃D,D=W3.heap.size:=⟨_,rfl⟩;rw[<- hD]at HD3 hbne hbne2 ⊢;clear hD;have hbl:=HD3.out.2.2.2.2.2;have KC2:=KC.out W4 x HD3.out.2.2.2.1.rd;have HKC:Hid (Ag Aa 63 #[.int .u16 t,.agg #[.slice x.p1.a x.p1.n x.p1.c,.slice x.p2.a x.p2.n x.p2.c,.slice x.p3.a x.p3.n x.p3.c,.slice x.p4.a x.p4.n x.p4.c]] W4 fun e w'=>e=.returned (.int .i64 C)/\Hid (Below W4.heap.size W4 w')):=KC2;clear KC KC2;have d0:W4.cell? ⟨D,0,none⟩=some (.slice x.p1.a x.p1.n x.p1.c):=HD3.out.2.1.box.1;have d1:W4.cell? ⟨D,1,none⟩=some (.slice x.p2.a x.p2.n x.p2.c):=HD3.out.2.1.box.2.1;have d2:W4.cell? ⟨D,2,none⟩=some (.slice x.p3.a x.p3.n x.p3.c):=HD3.out.2.1.box.2.2.1;have d3:W4.cell? ⟨D,3,none⟩=some (.slice x.p4.a x.p4.n x.p4.c):=HD3.out.2.1.box.2.2.2.1;go_wp2_with fail;refine HKC.out.mono ?_;rintro e W5 ⟨rfl,H5⟩;have HRB:Hid (BD W5 b Bo):=HD3.out.1.same (H5.out.block b HD3.out.1.lt);have HBW:Hid (Below w.heap.size w W5):=HD3.out.2.2.1.trans (H5.out.mono HD3.out.2.2.1.size);have HDD:Hid (BD W5 D x):=HD3.out.2.1.same (H5.out.block D HD3.out.2.1.lt);have HOW:Hid (Dd W2.heap.size W5 x d):=HD3.out.2.2.2.1.stays H5.out;clear HKC HD3 H5 d0 d1 d2 d3;have d0:W5.cell? ⟨D,0,none⟩=some (.slice x.p1.a x.p1.n x.p1.c):=HDD.out.box.1;have d1:W5.cell? ⟨D,1,none⟩=some (.slice x.p2.a x.p2.n x.p2.c):=HDD.out.box.2.1;have d2:W5.cell? ⟨D,2,none⟩=some (.slice x.p3.a x.p3.n x.p3.c):=HDD.out.box.2.2.1
  have d3:W5.cell? ⟨D,3,none⟩=some (.slice x.p4.a x.p4.n x.p4.c):=HDD.out.box.2.2.2.1;have r0:W5.cell? ⟨b,0,none⟩=some (.slice none 0 0):=HRB.out.box.1;have r1:W5.cell? ⟨b,1,none⟩=some (.slice none 0 0):=HRB.out.box.2.1;have r2:W5.cell? ⟨b,2,none⟩=some (.slice none 0 0):=HRB.out.box.2.2.1;have r3:W5.cell? ⟨b,3,none⟩=some (.slice none 0 0):=HRB.out.box.2.2.2.1;have z0:=HRB.out.fz 0;have z1:=HRB.out.fz 1;have z2:=HRB.out.fz 2;have z3:=HRB.out.fz 3;have hl5:=HRB.out.lt;by_cases hC:C=0
  ·have hC':(C != 0)=false:=by simp[hC]
   have HR2':Hid (RR=(d,0)):=by have:=HR2.out;rw[if_pos hC]at this;exact this
   clear HR2;have HR2:Hid (RR=(d,0)):=HR2'.out;clear HR2';have HC0:Hid (C=0):=hC;clear hC;go_wp2_with fail;have HX:Hid (BD ((WD3 W5 b x).setCell ⟨b,3,none⟩ (.slice x.p4.a x.p4.n x.p4.c)) b x/\Below w.heap.size w ((WD3 W5 b x).setCell ⟨b,3,none⟩ (.slice x.p4.a x.p4.n x.p4.c))):=ret4 HRB.out HBW.out (by have:=Hb.out;omega) x;have HY:Hid (Dd w.heap.size ((WD3 W5 b x).setCell ⟨b,3,none⟩ (.slice x.p4.a x.p4.n x.p4.c)) x d):=(HOW.out).ret4 (by omega) (by have:=Hb.out;omega);clear HRB HBW;generalize ((WD3 W5 b x).setCell ⟨b,3,none⟩ (.slice x.p4.a x.p4.n x.p4.c))=W9 at*;have k0:=HX.out.1.box.1;have k1:=HX.out.1.box.2.1;have k2:=HX.out.1.box.2.2.1;have k3:=HX.out.1.box.2.2.2.1;try simp only at k0 k1 k2 k3
   exact An (v:=.tuple #[.agg #[.slice x.p1.a x.p1.n x.p1.c,.slice x.p2.a x.p2.n x.p2.c,.slice x.p3.a x.p3.n x.p3.c,.slice x.p4.a x.p4.n x.p4.c],.int .i64 0]) (by simp[AJ,Jm,go_sem,k0,k1,k2,k3]) rfl (by rw[HR2.out];exact⟨x,rfl,HY.out,HX.out.2⟩)
  ·have hC':(C != 0)=true:=by simp[hC]
   have HR2':Hid (RR=(Eo,8)):=by have:=HR2.out;rw[if_neg hC]at this;exact this
   clear HR2;have HR2:Hid (RR=(Eo,8)):=HR2'.out;clear HR2';clear hC;go_wp2_with fail;have HX:Hid (BD ((WZ3 W5 b).setCell ⟨b,3,none⟩ (.slice none 0 0)) b Bo/\Below w.heap.size w ((WZ3 W5 b).setCell ⟨b,3,none⟩ (.slice none 0 0))):=ret4 HRB.out HBW.out (by have:=Hb.out;omega) Bo;have HY:Hid (Dd w.heap.size ((WZ3 W5 b).setCell ⟨b,3,none⟩ (.slice none 0 0)) Bo Eo):=QA _ _;clear HRB HBW;generalize ((WZ3 W5 b).setCell ⟨b,3,none⟩ (.slice none 0 0))=W9 at*;have k0:=HX.out.1.box.1;have k1:=HX.out.1.box.2.1;have k2:=HX.out.1.box.2.2.1;have k3:=HX.out.1.box.2.2.2.1;try simp only at k0 k1 k2 k3
   exact An (v:=.tuple #[.agg #[.slice none 0 0,.slice none 0 0,.slice none 0 0,.slice none 0 0],.int .i64 8]) (by simp[AJ,Jm,go_sem,k0,k1,k2,k3]) rfl (by rw[HR2.out];exact⟨Bo,rfl,HY.out,HX.out.2⟩)
 ·have hdw:decide (st=some len)=false:=by simp[hw]
  have HR2:Hid (RR=(Eo,8)):=by have:=HR.out;rw[if_neg hw]at this;exact this
  clear HR hw KC;rw[hdw];clear hdw
  go_upto_region 6 with fail
  generalize (W3.alloc (cDx x))=W4 at*;obtain⟨D,hD⟩:∃D,D=W3.heap.size:=⟨_,rfl⟩;rw[<- hD]at HD3 hbne hbne2 ⊢;clear hD;have hbl:=HD3.out.2.2.2.2.2;have HRB:Hid (BD W4 b Bo):=HD3.out.1;have HBW:Hid (Below w.heap.size w W4):=HD3.out.2.2.1;have r0:W4.cell? ⟨b,0,none⟩=some (.slice none 0 0):=HRB.out.box.1;have r1:W4.cell? ⟨b,1,none⟩=some (.slice none 0 0):=HRB.out.box.2.1;have r2:W4.cell? ⟨b,2,none⟩=some (.slice none 0 0):=HRB.out.box.2.2.1;have r3:W4.cell? ⟨b,3,none⟩=some (.slice none 0 0):=HRB.out.box.2.2.2.1;have z0:=HRB.out.fz 0;have z1:=HRB.out.fz 1;have z2:=HRB.out.fz 2;have z3:=HRB.out.fz 3;have hl5:=HRB.out.lt;go_wp2_with fail;have HX:Hid (BD ((WZ3 W4 b).setCell ⟨b,3,none⟩ (.slice none 0 0)) b Bo/\Below w.heap.size w ((WZ3 W4 b).setCell ⟨b,3,none⟩ (.slice none 0 0))):=ret4 HRB.out HBW.out (by have:=Hb.out;omega) Bo;have HY:Hid (Dd w.heap.size ((WZ3 W4 b).setCell ⟨b,3,none⟩ (.slice none 0 0)) Bo Eo):=QA _ _;clear HRB HBW;generalize ((WZ3 W4 b).setCell ⟨b,3,none⟩ (.slice none 0 0))=W9 at*
  have k0:=HX.out.1.box.1;have k1:=HX.out.1.box.2.1;have k2:=HX.out.1.box.2.2.1;have k3:=HX.out.1.box.2.2.2.1;try simp only at k0 k1 k2 k3
  exact An (v:=.tuple #[.agg #[.slice none 0 0,.slice none 0 0,.slice none 0 0,.slice none 0 0],.int .i64 8]) (by simp[AJ,Jm,go_sem,k0,k1,k2,k3]) rfl (by rw[HR2.out];exact⟨Bo,rfl,HY.out,HX.out.2⟩)
theorem aO(t:Nat)(a:Option Addr)(len cap:Nat)(zs:List Int)(w:Ab)(hr:Rd w a zs)(hl:zs.length=len)(hc:len<=cap/\cap<=9223372036854775807)(hnil:a=none->cap=0) :
  Ag Aa 228 #[.int .u16 t,.slice a len cap] w (RdP (Fb t zs) w):=by
 by_cases h:Gz t=true/\len<=65535
 ·exact iT t a len cap zs w hr hl h.2 hc hnil h.1
 ·refine fW t a len cap zs w hl (by omega) ?_;by_cases hm:Gz t=true
  ·exact .inr (Nat.lt_of_not_le (fun h2=>h ⟨hm,h2⟩))
  ·exact .inl (by simpa using hm)
theorem iU(s:ByteArray)(hs:s.size<=1000000000):nsz (GI s).1<=1000000000000:=by
 unfold GI;by_cases hd:s.toList=[46]
 ·rw[if_pos hd];decide
 ·rw[if_neg hd];exact mW s hs
def Vv(l:List ByteArray):List ByteArray × Int:=(if nck l=0 then l else[],nck l)
theorem Wo(s:ByteArray):LW s=if (GI s).2.2=0 then(if (GI s).2.1 then Vv (GI s).1 else([],5)) else([],(GI s).2.2):=by
 unfold LW GI Vv;by_cases hd:s.toList=[46]
 ·rw[if_pos hd,if_pos hd];have:nck []=0:=by decide
  simp[this]
 ·rw[if_neg hd,if_neg hd];by_cases h0:(lgo (Ai s) []).2.2=0
  ·rw[if_pos h0,if_pos h0];cases(lgo (Ai s) []).2.1 with
   |false=>rfl
   |true=>
    simp only[if_true];by_cases hk:nck (lgo (Ai s) []).1=0
    ·rw[if_pos hk,if_pos hk,hk]
    ·rw[if_neg hk,if_neg hk]
  ·rw[if_neg h0,if_neg h0]
theorem cM(s:ByteArray)(og:List ByteArray)(hk:nck og=0)(h1:¬ s.toList=[64]):Di s og=if (GI s).2.2=0 then(if (GI s).2.1 then Vv (GI s).1 else GK (GI s).1 og) else([],(GI s).2.2):=by
 unfold Di;rw[if_pos hk,if_neg h1];by_cases hd:s.toList=[46]
 ·rw[if_pos hd];unfold GI Vv;rw[if_pos hd];have:nck []=0:=by decide
  simp[this]
 ·rw[if_neg hd];have hp:=Wo s;have e:GI s=lgo (Ai s) []:=by unfold GI;rw[if_neg hd]
  rw[e]at hp ⊢;by_cases h0:(lgo (Ai s) []).2.2=0
  ·rw[if_pos h0,if_pos h0];rw[if_pos h0]at hp;cases hb:(lgo (Ai s) []).2.1 with
   |false=>rfl
   |true=>rw[hb]at hp;simpa using hp
  ·rw[if_neg h0,if_neg h0]
theorem Sh(s:ByteArray)(a:Option Addr)(n c:Nat)(og:List ByteArray)(w:Ab)(h:s.size<=1000000000)(h':Nm w a n og):Ag Aa 23 #[.string s,.slice a n c] w (LO (Di s og).1 (Di s og).2 w):=by
 have KC:Hid (Ag Aa 19 #[.slice a n c] w fun e w'=>e=.returned (.int .i64 (nck og))/\w'=w):=Gy c h';have HN:Hid (Nm w a n og):=h';by_cases hk:nck og=0
 ·rw[hk]at KC;by_cases h1:s.toList=[64]
  ·have hp:Di s og=(og,0):=by unfold Di;rw[if_pos hk,if_pos h1]
   rw[hp];have h1t:(s.toList == [64])=true:=by simpa using h1
   clear hp h h' hk h1;go_enter NN,Mu;go_wp2_with fail;refine KC.out.mono ?_;rintro e w1 ⟨rfl,rfl⟩;go_wp2_with fail;refine(ZH c HN.out).mono ?_;rintro e w2 ⟨v,ys,rfl,H2⟩;go_wp2;go_ret2;exact⟨v,ys,rfl,H2⟩
  have h1f:(s.toList == [64])=false:=by simpa using h1
  have KL:Hid (Ag Aa 54 #[.string s] w (rL (GI s) w)):=VS s w h;have HZ:Hid (nsz (GI s).1<=1000000000000):=iU s h;have HP:Hid (Di s og=if (GI s).2.2=0 then(if (GI s).2.1 then Vv (GI s).1 else GK (GI s).1 og) else([],(GI s).2.2)):=cM s og hk h1;obtain⟨R,hR⟩:∃R,Di s og=R:=⟨_,rfl⟩;rw[hR]at HP ⊢;clear hR h h' hk h1;generalize GI s=r at*;obtain⟨l,b,k⟩:=r;simp only at HP HZ;by_cases hk:k=0
  ·rw[if_pos hk]at HP;subst hk;cases b with
   |true=>
    rw[if_pos rfl]at HP;have e:=HP.out;subst e;clear HP;go_enter NN,Mu;go_wp2_with fail;refine KC.out.mono ?_;rintro e w1 ⟨rfl,rfl⟩;go_wp2_with fail;refine KL.out.mono ?_;rintro e w2 ⟨v,ys,rfl,H2⟩;obtain⟨ao,hv,hao⟩:=H2.out.1.shape;subst hv;have KM:Hid (Ag Aa 55 #[.slice ao l.length ys.length] w2 fun e w'=>LO (Vv l).1 (Vv l).2 w1 e w'):=Zk w1.heap.size w1 ao l.length ys.length l ys w2 rfl H2.out.1 H2.out.2.1 HZ.out H2.out.2.2 rfl;generalize Vv l=R at*;clear H2 KL KC;go_wp2_with fail;refine KM.out.mono ?_;rintro e w3 ⟨v3,ys3,rfl,H3⟩;go_wp2;go_ret2;exact⟨v3,ys3,rfl,H3⟩
   |false=>
    rw[if_neg (by decide)]at HP;go_enter NN,Mu;go_wp2_with fail;refine KC.out.mono ?_;rintro e w1 ⟨rfl,rfl⟩;go_wp2_with fail;refine KL.out.mono ?_;rintro e w2 ⟨v,ys,rfl,H2⟩;obtain⟨ao,hv,hao⟩:=H2.out.1.shape;subst hv;have hnm:Nm w2 ao l.length l:=⟨by have:=H2.out.1.rd l.length;rw[H2.out.2.1]at this;exact this,rfl,HZ.out⟩;have KJ:Hid (Ag Aa 56 #[.slice ao l.length ys.length,.slice a n c] w2 (LO (GK l og).1 (GK l og).2 w2)):=aA ao a l.length n ys.length c l og w2 hnm (HN.out.below H2.out.2.2);clear hnm;have e:=HP.out;subst e;clear HP;generalize GK l og=jj at*;go_wp2_with fail;refine KJ.out.mono ?_;rintro e w3 ⟨v3,ys3,rfl,H3⟩;go_wp2;go_ret2;exact⟨v3,ys3,rfl,H3.out.1.mono H2.out.2.2.size,H3.out.2.1,H2.out.2.2.trans (H3.out.2.2.mono H2.out.2.2.size)⟩
  ·rw[if_neg hk]at HP;have e:=HP.out;subst e;have hq:(k != 0)=true:=bne_iff_ne.2 hk;clear HP hk;go_enter NN,Mu;go_wp2_with fail;refine KC.out.mono ?_;rintro e w1 ⟨rfl,rfl⟩;go_wp2_with fail;refine KL.out.mono ?_;rintro e w2 ⟨v,ys,rfl,H2⟩;go_wp2;go_ret2;exact IT rfl H2.out.2.2
 ·have hp:Di s og=([],nck og):=by unfold Di;rw[if_neg hk]
  rw[hp];generalize nck og=q at*;have hq:(q != 0)=true:=bne_iff_ne.2 hk;clear h h' hk hp;go_enter NN,Mu;go_wp2_with fail;refine KC.out.mono ?_;rintro e w1 ⟨rfl,rfl⟩;go_wp2;go_ret2;exact IT rfl (Ae _ _)
abbrev Wd:=ByteArray × Bool
def RdW(w:Ab)(a:Option Addr)(ws:List Wd):Prop:=
 ws=[]∨∃b o,a=some ⟨b,o,none⟩/\b<w.heap.size/\∀i (h:i<ws.length),w.cell? ⟨b,o+2*i,none⟩=some (.string ws[i].1)/\w.cell? ⟨b,o+2*i+1,none⟩=some (.bool ws[i].2)
theorem RdW.below{w w':Ab}{a:Option Addr}{ws:List Wd}(h:RdW w a ws)(hb:Blw w w'):RdW w' a ws:=by
 obtain h|⟨b,o,h1,h2,h3⟩:=h
 ·exact .inl h
 ·exact .inr ⟨b,o,h1,Ap h2 hb.size,fun i hi=>⟨(hb.cell (p:=⟨b,o+2*i,none⟩) h2).trans (h3 i hi).1,(hb.cell (p:=⟨b,o+2*i+1,none⟩) h2).trans (h3 i hi).2⟩⟩
theorem RdW.head{w:Ab}{a:Option Addr}{s:ByteArray}{q:Bool}{r:List Wd}(h:RdW w a ((s,q)::r)):∃b o,a=some ⟨b,o,none⟩/\b<w.heap.size/\w.cell? ⟨b,o,none⟩=some (.string s)/\w.cell? ⟨b,o+1,none⟩=some (.bool q)/\RdW w (some ⟨b,o+2,none⟩) r:=by
 obtain h|⟨b,o,h1,h2,h3⟩:=h
 ·cases h
 ·refine⟨b,o,h1,h2,(h3 0 (by simp)).1,(h3 0 (by simp)).2,?_⟩;refine .inr ⟨b,o+2,rfl,h2,fun i hi=>?_⟩;have:=h3 (i+1) (by simp;omega);rw[show o+2*(i+1)=o+2+2*i by omega]at this;exact this
def RBk(w0 w:Ab)(wa:Option Addr)(n c:Nat)(oa:Option Addr)(on oc:Nat)(x:DA)(bad:Bool):Prop:=
 w.heap[w0.heap.size]?=some (.cells #[.slice wa n c,.slice oa on oc,.slice x.p1.a x.p1.n x.p1.c,.slice x.p2.a x.p2.n x.p2.c,.slice x.p3.a x.p3.n x.p3.c,.slice x.p4.a x.p4.n x.p4.c,.bool bad] 245 (0,0))
theorem RBk.lt{w0 w:Ab}{wa:Option Addr}{n c:Nat}{oa:Option Addr}{on oc:Nat}{x:DA}{bad:Bool}(h:RBk w0 w wa n c oa on oc x bad):w0.heap.size<w.heap.size:=(As.1 h).1
theorem RBk.cells{w0 w:Ab}{wa:Option Addr}{n c:Nat}{oa:Option Addr}{on oc:Nat}{x:DA}{bad:Bool}(h:RBk w0 w wa n c oa on oc x bad) :
  w.cell? ⟨w0.heap.size,0,none⟩=some (.slice wa n c)/\w.cell? ⟨w0.heap.size,1,none⟩=some (.slice oa on oc)/\w.cell? ⟨w0.heap.size,2,none⟩=some (.slice x.p1.a x.p1.n x.p1.c)/\w.cell? ⟨w0.heap.size,3,none⟩=some (.slice x.p2.a x.p2.n x.p2.c)/\w.cell? ⟨w0.heap.size,4,none⟩=some (.slice x.p3.a x.p3.n x.p3.c)/\w.cell? ⟨w0.heap.size,5,none⟩=some (.slice x.p4.a x.p4.n x.p4.c)/\w.cell? ⟨w0.heap.size,6,none⟩=some (.bool bad):=by
 unfold Az;rw[show w.heap[w0.heap.size]?=_ from h];exact⟨rfl,rfl,rfl,rfl,rfl,rfl,rfl⟩
theorem RBk.fz{w0 w:Ab}{wa:Option Addr}{n c:Nat}{oa:Option Addr}{on oc:Nat}{x:DA}{bad:Bool}(h:RBk w0 w wa n c oa on oc x bad)(i:Nat):w.frozen? ⟨w0.heap.size,i,none⟩=false:=by
 unfold Dv;rw[show w.heap[w0.heap.size]?=_ from h];simp
structure RX(w0 w:Ab)(wa:Option Addr)(n c:Nat)(oa:Option Addr)(on oc:Nat)(x:DA)(bad:Bool)(d:Dat):Prop where
 blk:RBk w0 w wa n c oa on oc x bad
 own:Dd (w0.heap.size+1) w x d
 bel:Below w0.heap.size w0 w
theorem RX.step{w0 w w':Ab}{wa:Option Addr}{n c:Nat}{oa:Option Addr}{on oc:Nat}{x:DA}{bad:Bool}{d:Dat}(h:RX w0 w wa n c oa on oc x bad d)(hb:Blw w w'):RX w0 w' wa n c oa on oc x bad d:=
 ⟨(hb.block _ h.blk.lt).trans h.blk,h.own.stays hb,h.bel.trans (hb.mono h.bel.size)⟩
theorem RX.set{w0 w:Ab}{wa wa':Option Addr}{n c n' c':Nat}{oa:Option Addr}{on oc:Nat}{x x':DA}{bad bad':Bool}{d:Dat}(h:RX w0 w wa n c oa on oc x bad d)(i:Nat)(v:Ao)
  (hb:RBk w0 (w.setCell ⟨w0.heap.size,i,none⟩ v) wa' n' c' oa on oc x' bad'):RBk w0 (w.setCell ⟨w0.heap.size,i,none⟩ v) wa' n' c' oa on oc x' bad'/\Dd (w0.heap.size+1) (w.setCell ⟨w0.heap.size,i,none⟩ v) x d/\Blw w0 (w.setCell ⟨w0.heap.size,i,none⟩ v):=
 ⟨hb,h.own.keep (fun j hj _=>Ar _ _ _ j (by show j≠w0.heap.size;omega)),h.bel.setCell (show w0.heap.size<=(⟨w0.heap.size,i,none⟩:Addr).block from Ad _) _⟩
theorem RBk.set0{w0 w:Ab}{wa:Option Addr}{n c:Nat}{oa:Option Addr}{on oc:Nat}{x:DA}{bad:Bool}(h:RBk w0 w wa n c oa on oc x bad)(wa':Option Addr)(n' c':Nat):RBk w0 (w.setCell ⟨w0.heap.size,0,none⟩ (.slice wa' n' c')) wa' n' c' oa on oc x bad:=by
 have:=AD h 0 (.slice wa' n' c');simpa[RBk] using this
theorem RBk.set2{w0 w:Ab}{wa:Option Addr}{n c:Nat}{oa:Option Addr}{on oc:Nat}{x:DA}{bad:Bool}(h:RBk w0 w wa n c oa on oc x bad)(s:Sl):RBk w0 (w.setCell ⟨w0.heap.size,2,none⟩ (.slice s.a s.n s.c)) wa n c oa on oc ⟨s,x.p2,x.p3,x.p4⟩ bad:=by
 have:=AD h 2 (.slice s.a s.n s.c);simpa[RBk] using this
theorem RBk.set3{w0 w:Ab}{wa:Option Addr}{n c:Nat}{oa:Option Addr}{on oc:Nat}{x:DA}{bad:Bool}(h:RBk w0 w wa n c oa on oc x bad)(s:Sl):RBk w0 (w.setCell ⟨w0.heap.size,3,none⟩ (.slice s.a s.n s.c)) wa n c oa on oc ⟨x.p1,s,x.p3,x.p4⟩ bad:=by
 have:=AD h 3 (.slice s.a s.n s.c);simpa[RBk] using this
theorem RBk.set4{w0 w:Ab}{wa:Option Addr}{n c:Nat}{oa:Option Addr}{on oc:Nat}{x:DA}{bad:Bool}(h:RBk w0 w wa n c oa on oc x bad)(s:Sl):RBk w0 (w.setCell ⟨w0.heap.size,4,none⟩ (.slice s.a s.n s.c)) wa n c oa on oc ⟨x.p1,x.p2,s,x.p4⟩ bad:=by
 have:=AD h 4 (.slice s.a s.n s.c);simpa[RBk] using this
theorem RBk.set5{w0 w:Ab}{wa:Option Addr}{n c:Nat}{oa:Option Addr}{on oc:Nat}{x:DA}{bad:Bool}(h:RBk w0 w wa n c oa on oc x bad)(s:Sl):RBk w0 (w.setCell ⟨w0.heap.size,5,none⟩ (.slice s.a s.n s.c)) wa n c oa on oc ⟨x.p1,x.p2,x.p3,s⟩ bad:=by
 have:=AD h 5 (.slice s.a s.n s.c);simpa[RBk] using this
theorem RBk.set6{w0 w:Ab}{wa:Option Addr}{n c:Nat}{oa:Option Addr}{on oc:Nat}{x:DA}{bad:Bool}(h:RBk w0 w wa n c oa on oc x bad)(b:Bool):RBk w0 (w.setCell ⟨w0.heap.size,6,none⟩ (.bool b)) wa n c oa on oc x b:=by
 have:=AD h 6 (.bool b);simpa[RBk] using this
def Rl(s:ByteArray)(r:List Wd)(w0:Ab)(c:Nat)(oa:Option Addr)(on oc:Nat)(x:DA)(bad:Bool)(d:Dat)(e:Ending)(w':Ab):Prop:=
 ∃wa',e=.returned (.string s)/\Hid (RdW w0 wa' r)/\Hid (RX w0 w' wa' r.length (c - 1) oa on oc x bad d)
theorem US(w0 w:Ab)(wa:Option Addr)(s:ByteArray)(q:Bool)(r:List Wd)(c:Nat)(oa:Option Addr)(on oc:Nat)(x:DA)(bad:Bool)(d:Dat)(hw:RdW w0 wa ((s,q)::r))(hc:r.length+1<=c)(h63:c<=9223372036854775807)(h:RX w0 w wa (r.length+1) c oa on oc x bad d) :
  Ag Aa 248 #[.pointer (some ⟨w0.heap.size,0,none⟩)] w (Rl s r w0 c oa on oc x bad d):=by
 obtain⟨b,o,rfl,hb,c1,c2,hrr⟩:=hw.head;have HRR:=Ac hrr;have HX:=Ac h;have d0:=h.blk.cells.1;have hf0:=h.blk.fz 0;have c1':=(h.bel.cell (p:=⟨b,o,none⟩) hb).trans c1;have c2':=(h.bel.cell (p:=⟨b,o+1,none⟩) hb).trans c2;clear hw h hrr c1 c2;obtain⟨n,hn⟩:∃n,r.length=n:=⟨_,rfl⟩;have HN:Hid (r.length=n):=hn;rw[hn]at hc d0;clear hn;have hn0:(((n:Int)+1) == 0)=false:=by rw[beq_eq_false_iff_ne];omega
 have hlt:=HX.out.blk.lt;have hne:¬ w.heap.size=w0.heap.size:=by omega
 have HF:Hid (∀wa' n' c',RX w0 ((w.setCell ⟨w0.heap.size,0,none⟩ (.slice wa' n' c')).alloc (.cells #[.string s,.bool q] 167)) wa' n' c' oa on oc x bad d):=fun wa' n' c'=>
  have H:=HX.out.set 0 _ (HX.out.blk.set0 wa' n' c')
  RX.step ⟨H.1,H.2.1,H.2.2⟩ ((Ae _ _).alloc (Ad _) _)
 by_cases hc1:c=1
 ·have hn1:n=0:=by omega
  subst hc1;subst hn1;go_enter Tryz.func248,Tryz.ntmps248;go_wp2_with fail;go_ret;have er:r=[]:=Aq.1 HN.out;subst er;exact⟨_,rfl,.inl rfl,HF.out _ 0 0⟩
 ·have hc1':¬ c - 1=0:=by omega
  have hc2:¬ (c:Int) - 1=0:=by omega
  go_enter Tryz.func248,Tryz.ntmps248;go_wp2_with fail;go_ret;refine⟨_,rfl,HRR,?_⟩;rw[HN.out];exact HF.out _ n (c - 1)
def TN(w W:Ab)(b:Nat)(x y:DA)(d:Dat):Prop:=Eh W b x/\Eh W (b+1) y/\DRd W x d/\DRd W y d/\Blw w W
theorem TN.go{w W W':Ab}{b:Nat}{x y:DA}{d:Dat}(h:TN w W b x y d)(hb:Blw W W'):TN w W' b x y d:=
 ⟨h.1.below hb,h.2.1.below hb,h.2.2.1.below hb,h.2.2.2.1.below hb,h.2.2.2.2.trans (hb.mono h.2.2.2.2.size)⟩
theorem Uo(x y:DA)(d:Dat)(w:Ab)(hx:DRd w x d)(hy:DRd w y d) :
  Ag Aa 49 #[.agg #[.slice x.p1.a x.p1.n x.p1.c,.slice x.p2.a x.p2.n x.p2.c,.slice x.p3.a x.p3.n x.p3.c,.slice x.p4.a x.p4.n x.p4.c],.agg #[.slice y.p1.a y.p1.n y.p1.c,.slice y.p2.a y.p2.n y.p2.c,.slice y.p3.a y.p3.n y.p3.c,.slice y.p4.a y.p4.n y.p4.c]] w fun e w'=>e=.returned (.bool true)/\Hid (Below w.heap.size w w'):=by
 have hb1:Below w.heap.size w (w.alloc (cDx x)):=(Ae _ _).alloc (Ad _) _;have HX:=Eh.new w x;have hx1:=hx.below hb1;have hy1:=hy.below hb1;have e1:y.p1.n=x.p1.n:=by rw[<- hx.h1.len,<- hy.h1.len]
 have e2:y.p2.n=x.p2.n:=by rw[<- hx.h2.len,<- hy.h2.len]
 have e3:y.p3.n=x.p3.n:=by rw[<- hx.h3.len,<- hy.h3.len]
 have e4:y.p4.n=x.p4.n:=by rw[<- hx.h4.len,<- hy.h4.len]
 obtain⟨W0,hW0⟩:∃W,W=w.alloc (cDx x):=⟨_,rfl⟩;have hs0:W0.heap.size=w.heap.size+1:=by rw[hW0];simp
 rw[<- hW0]at hb1 HX hx1 hy1;have hb2:Below W0.heap.size W0 (W0.alloc (cDx y)):=(Ae _ _).alloc (Ad _) _;have HY:=Eh.new W0 y
 have H:Hid (∃b c,b=w.heap.size/\c=w.heap.size+1/\Eh (W0.alloc (cDx y)) b x/\Eh (W0.alloc (cDx y)) c y/\
   DRd (W0.alloc (cDx y)) x d/\DRd (W0.alloc (cDx y)) y d/\Below w.heap.size w (W0.alloc (cDx y))):=
  ⟨w.heap.size,w.heap.size+1,rfl,rfl,HX.below hb2,by rw[<- hs0];exact HY,hx1.below hb2,hy1.below hb2,hb1.trans (hb2.mono hb1.size)⟩
 clear hx hy hb1 HX hx1 hy1 hb2 HY hs0;rw[hW0]at H;clear hW0 W0;obtain⟨⟨a1,n1,k1⟩,⟨a2,n2,k2⟩,⟨a3,n3,k3⟩,⟨a4,n4,k4⟩⟩:=x;obtain⟨⟨b1,m1,j1⟩,⟨b2,m2,j2⟩,⟨b3,m3,j3⟩,⟨b4,m4,j4⟩⟩:=y;simp only at e1 e2 e3 e4 H ⊢;subst e1 e2 e3 e4;go_enter Tryz.func49,Tryz.ntmps49
 go_upto_region 1 with fail
 generalize ((w.alloc (.cells #[.slice a1 m1 k1,.slice a2 m2 k2,.slice a3 m3 k3,.slice a4 m4 k4] 41)).alloc (.cells #[.slice b1 m1 j1,.slice b2 m2 j2,.slice b3 m3 j3,.slice b4 m4 j4] 41))=W1 at*;obtain⟨b,b',hb,hb',X,Y,DX,DY,BB⟩:=H.out;clear H;rw[<- hb];rw[<- hb]at hb';subst hb';have Hb:Hid (b=w.heap.size):=hb;clear hb;have H:Hid (TN w W1 b ⟨⟨a1,m1,k1⟩,⟨a2,m2,k2⟩,⟨a3,m3,k3⟩,⟨a4,m4,k4⟩⟩ ⟨⟨b1,m1,j1⟩,⟨b2,m2,j2⟩,⟨b3,m3,j3⟩,⟨b4,m4,j4⟩⟩ d):=⟨X,Y,DX,DY,BB⟩;clear X Y DX DY BB;have x0:=H.out.1.1;have x1:=H.out.1.2.1;have x2:=H.out.1.2.2.1;have y0:=H.out.2.1.1;have y1:=H.out.2.1.2.1;have y2:=H.out.2.1.2.2.1;simp only at x0 x1 x2 y0 y1 y2;go_wp2_with fail;refine(TG a3 b3 m3 k3 j3 d.ts W1 H.out.2.2.1.h3.rd H.out.2.2.2.1.h3.rd H.out.2.2.1.h3.len (Aj H.out.2.2.1.h3.cap.1 H.out.2.2.1.h3.cap.2)).mono ?_;rintro e W2 ⟨rfl,H2⟩;have H':Hid (TN w W2 b ⟨⟨a1,m1,k1⟩,⟨a2,m2,k2⟩,⟨a3,m3,k3⟩,⟨a4,m4,k4⟩⟩ ⟨⟨b1,m1,j1⟩,⟨b2,m2,j2⟩,⟨b3,m3,j3⟩,⟨b4,m4,j4⟩⟩ d):=H.out.go H2.out;clear H2 H x0 x1 x2 y0 y1 y2;have x3:=H'.out.1.2.2.2.1;have y3:=H'.out.2.1.2.2.2.1;simp only at x3 y3;go_wp2_with fail;refine(lT a4 b4 m4 k4 j4 d.raw W2 H'.out.2.2.1.h4.rd H'.out.2.2.2.1.h4.rd H'.out.2.2.1.h4.len).mono ?_;rintro e W3 ⟨rfl,rfl⟩;clear x3 y3;have hn1:d.ns.length=m1:=H'.out.2.2.1.h1.len;have hn2:d.us.length=m2:=H'.out.2.2.1.h2.len;have hm1:m1<=9223372036854775807:=Aj H'.out.2.2.1.h1.cap.1 H'.out.2.2.1.h1.cap.2;have hm2:m2<=9223372036854775807:=Aj H'.out.2.2.1.h2.cap.1 H'.out.2.2.1.h2.cap.2
 have HN:Hid (d.ns.length=m1/\d.us.length=m2):=⟨hn1,hn2⟩;clear hn1 hn2;go_wp2_with fail;go_loopw [5] (fun v wr=>∃k:Nat,k<=m1/\v=.int .i64 (k:Int)/\Hid (TN w wr b ⟨⟨a1,m1,k1⟩,⟨a2,m2,k2⟩,⟨a3,m3,k3⟩,⟨a4,m4,k4⟩⟩ ⟨⟨b1,m1,j1⟩,⟨b2,m2,j2⟩,⟨b3,m3,j3⟩,⟨b4,m4,j4⟩⟩ d)) (fun v _=>m1 - (intOf v).toNat)
 case atStart=>exact⟨0,Aw _,rfl,H'⟩
 case round=>
  obtain⟨k,hk,rfl,H⟩:=hrel;clear H';have x0:=H.out.1.1;have y0:=H.out.2.1.1;simp only at x0 y0;by_cases hlt:k<m1
  ·have hlt':(k:Int)<(m1:Int):=by omega
   have hki:k<d.ns.length:=by rw[HN.out.1];exact hlt
   obtain⟨B1,o1,ha1,hl1,z1,hz1,hr1⟩:=H.out.2.2.1.h1.at k hki;obtain⟨B2,o2,ha2,hl2,z2,hz2,hr2⟩:=H.out.2.2.2.1.h1.at k hki;simp only at ha1 ha2;subst ha1 ha2;have ez:z2.n=z1.n:=by rw[<- hr1.len,<- hr2.len]
   rw[ez]at hz2;have KS:Hid (∀W',Below wr.heap.size wr W'->Ag Aa 25 #[.slice z1.a z1.n z1.c,.slice z2.a z1.n z2.c] W' fun e w'=>e=.returned (.bool true)/\Hid (Below W'.heap.size W' w')):=
    fun W' hb=>TD z1.a z2.a z1.n z1.c z2.c d.ns[k] W' (hr1.rd.below hb) (hr2.rd.below hb) hr1.len (Aj hr1.cap.1 hr1.cap.2)
   have HBx:Hid (Below wr.heap.size wr wr.drew):=(Ae _ _).drew;have hbx:=H.out.1.2.2.2.2;have hby:=H.out.2.1.2.2.2.2;clear hr1 hr2 ez;generalize z1.a=za1 at*;generalize z1.n=zn1 at*;generalize z1.c=zc1 at*;generalize z2.a=za2 at*;generalize z2.c=zc2 at*;go_wp2_with fail
   go_region_held3 (fun W=>W.cell? ⟨b,0,none⟩=some (.slice (some ⟨B1,o1,none⟩) m1 k1)/\W.cell? ⟨b+1,0,none⟩=some (.slice (some ⟨B2,o2,none⟩) m1 j1)/\W.cell? ⟨B1,o1+k,none⟩=some (.slice za1 zn1 zc1)/\W.cell? ⟨B2,o2+k,none⟩=some (.slice za2 zn1 zc2)) (go_keep) (first
    |(go_at_call 25;refine(KS.out _ HBx.out).mono ?_;rintro e wy ⟨rfl,HY⟩;have q0:wy.cell? ⟨b,0,none⟩=some (.slice (some ⟨B1,o1,none⟩) m1 k1):=(HY.out.cell (p:=⟨b,0,none⟩) hbx).trans x0;have q1:wy.cell? ⟨b+1,0,none⟩=some (.slice (some ⟨B2,o2,none⟩) m1 j1):=(HY.out.cell (p:=⟨b+1,0,none⟩) hby).trans y0;have q2:wy.cell? ⟨B1,o1+k,none⟩=some (.slice za1 zn1 zc1):=(HY.out.cell (p:=⟨B1,o1+k,none⟩) hl1).trans hz1;have q3:wy.cell? ⟨B2,o2+k,none⟩=some (.slice za2 zn1 zc2):=(HY.out.cell (p:=⟨B2,o2+k,none⟩) hl2).trans hz2))
   have H2:Hid (TN w wy b ⟨⟨some ⟨B1,o1,none⟩,m1,k1⟩,⟨a2,m2,k2⟩,⟨a3,m3,k3⟩,⟨a4,m4,k4⟩⟩ ⟨⟨some ⟨B2,o2,none⟩,m1,j1⟩,⟨b2,m2,j2⟩,⟨b3,m3,j3⟩,⟨b4,m4,j4⟩⟩ d):=H.out.go (HBx.out.trans HY.out);clear q0 q1 q2 q3 x0 y0 hz1 hz2 HY KS H HBx;go_wp2_with fail;exact⟨⟨k+1,by omega,by go_num,H2⟩,by simp[intOf];omega⟩
  ·have hge:¬ (k:Int)<(m1:Int):=by omega
   go_wp2_with fail;obtain⟨wz,hz⟩:∃z,z=wr:=⟨_,rfl⟩;subst hz;clear x0 y0;go_loopw [6] (fun v wr=>∃k:Nat,k<=m2/\v=.int .i64 (k:Int)/\Hid (TN w wr b ⟨⟨a1,m1,k1⟩,⟨a2,m2,k2⟩,⟨a3,m3,k3⟩,⟨a4,m4,k4⟩⟩ ⟨⟨b1,m1,j1⟩,⟨b2,m2,j2⟩,⟨b3,m3,j3⟩,⟨b4,m4,j4⟩⟩ d)) (fun v _=>m2 - (intOf v).toNat)
   case atStart=>exact⟨0,Aw _,rfl,H⟩
   case round=>
    obtain⟨i,hi,rfl,H'⟩:=hrel;clear H;have x1:=H'.out.1.2.1;have y1:=H'.out.2.1.2.1;simp only at x1 y1;by_cases hit:i<m2
    ·have hit':(i:Int)<(m2:Int):=by omega
     have hii:i<d.us.length:=by rw[HN.out.2];exact hit
     obtain⟨B1,o1,ha1,hl1,hz1⟩:=H'.out.2.2.1.h2.at i hii;obtain⟨B2,o2,ha2,hl2,hz2⟩:=H'.out.2.2.2.1.h2.at i hii;simp only at ha1 ha2;subst ha1 ha2;generalize d.us[i]=u at*;go_wp2_with fail;go_quiet (fail);have H2:Hid (TN w (wr.drewN nq) b ⟨⟨a1,m1,k1⟩,⟨some ⟨B1,o1,none⟩,m2,k2⟩,⟨a3,m3,k3⟩,⟨a4,m4,k4⟩⟩ ⟨⟨b1,m1,j1⟩,⟨some ⟨B2,o2,none⟩,m2,j2⟩,⟨b3,m3,j3⟩,⟨b4,m4,j4⟩⟩ d):=H'.out.go ⟨rfl,rfl,rfl,Ad _,fun _ _=>rfl⟩;clear x1 y1 hz1 hz2 H';generalize wr.drewN nq=Wq at*;go_wp2_with fail;exact⟨⟨i+1,by omega,by go_num,H2⟩,by simp[intOf];omega⟩
    ·have hige:¬ (i:Int)<(m2:Int):=by omega
     go_wp2_with fail;go_ret;exact⟨rfl,H'.out.2.2.2.2⟩
theorem mV(w:Ab)(xs:List Ao)(t:BH):RdV (w.alloc (.cells xs.toArray t)) (some ⟨w.heap.size,0,none⟩) xs:=by
 refine .inr ⟨w.heap.size,0,rfl,by simp,fun i hi=>?_⟩;rw[Fg];exact(show Co (w.alloc (.cells xs.toArray t)) w.heap.size t xs from Au _ _).cell i hi
theorem VT(w:Ab)(ss:List ByteArray)(n:Nat)(hn:ss.length=n)(hm:n<=1000)(hb:∀x∈ss,x.size<=9223372036854775807):TRd (w.alloc (.cells (tv ss).toArray 9)) ⟨some ⟨w.heap.size,0,none⟩,n,n⟩ ss:=
 ⟨mV w (tv ss) 9,hn,⟨Ad _,by simp only;omega⟩,by simp,hb⟩
theorem rM(w:Ab)(zs:List Int)(n:Nat)(hn:zs.length=n)(hm:n<=1000)(hb:∀z∈zs,0<=z/\z<=255):BRd (w.alloc (.cells (zs.map (AL .u8)).toArray 5)) ⟨some ⟨w.heap.size,0,none⟩,n,n⟩ zs:=by
 refine⟨⟨?_,hb⟩,hn,⟨Ad _,by simp only;omega⟩,by simp⟩;have hblk:Blk (w.alloc (.cells (zs.map (AL .u8)).toArray 5)) w.heap.size zs:=⟨Au _ _,hb⟩;exact .inr ⟨w.heap.size,0,rfl,hblk.lt,fun i hi=>by rw[Fg];exact hblk.cell i hi⟩
theorem jO{t:Nat}{zs:List Int}(h:(Fb t zs).2=0):Bw t (Fb t zs).1=0/\CD t (Fb t zs).1=zs/\zs.length<=65535:=by
 unfold Fb at h ⊢;by_cases h1:Gz t=true
 ·rw[if_pos h1]at h ⊢;by_cases h2:zs.length<=65535
  ·rw[if_pos h2]at h ⊢;cases hd:JI t zs with
   |none=>rw[hd]at h;cases h
   |some d=>
    have:=Nq hd;exact⟨this.1,this.2,h2⟩
  ·rw[if_neg h2]at h;cases h
 ·rw[if_neg h1]at h;cases h
theorem qG(w0 w:Ab)(wa:Option Addr)(s:ByteArray)(r:List Wd)(c:Nat)(oa:Option Addr)(on oc:Nat)(x:DA)(bad:Bool)(d:Dat)(hw:RdW w0 wa ((s,false)::r))(hc:r.length+1<=c)(h63:c<=9223372036854775807)(h:RX w0 w wa (r.length+1) c oa on oc x bad d) :
  Ag Aa 246 #[.pointer (some ⟨w0.heap.size,0,none⟩)] w (Rl s r w0 c oa on oc x bad d):=by
 have K:=Ac (US w0 w wa s false r c oa on oc x bad d hw hc h63 h);obtain⟨b,o,rfl,hb,c1,c2,hrr⟩:=hw.head;have d0:=h.blk.cells.1;have c2':=(h.bel.cell (p:=⟨b,o+1,none⟩) hb).trans c2;clear hw hrr c1 c2 h;obtain⟨n,hn⟩:∃n,r.length=n:=⟨_,rfl⟩;rw[hn]at d0 hc;clear hn;have hn0:(0:Int)<(n:Int)+1:=by omega
 go_enter Tryz.func246,Tryz.ntmps246;go_wp2_with fail;refine K.out.mono ?_;rintro e w' ⟨wa',rfl,H1,H2⟩;go_wp2_with fail;go_ret;exact⟨wa',rfl,H1,H2⟩
theorem NX{P:Program}{w:Ab}{ops:Array Oper}{rest:List Oper}{o:Oper}{a:Act}{Q:Exit->Act->Ab->Prop}(hgd:o.guard=none)
  (h:∀K:Act->Ab->Prop,(∀a' w',wpList P ops Q rest a' w'->K a' w')->(if FQ o (yielded ops a.tmps)=true then Oper.wp P o a w K Q else True)):wpList P ops Q (o::rest) a w:=by
 refine wpList_plain hgd fun K hK=>?_
 have:=h K hK;have hw:FQ o (yielded ops a.tmps)=true:=by simp[FQ,hgd]
 rw[if_pos hw]at this;exact this
theorem RX.grown{w0 w w':Ab}{wa:Option Addr}{n c:Nat}{oa:Option Addr}{on oc:Nat}{x:DA}{bad:Bool}{d:Dat}(h:RX w0 w wa n c oa on oc x bad d){o:Option Nat}(hg:w.grownBy w' o)(ho:∀j,o=some j->w0.heap.size+1<=j) :
  RBk w0 w' wa n c oa on oc x bad/\Blw w0 w':=
 ⟨(hg.block _ h.blk.lt (fun e=>by have:=ho _ e.symm;omega)).trans h.blk,h.bel.grown hg h.bel.size (fun j e=>by have:=ho _ e;omega)⟩
theorem RX.app1{w0 w w':Ab}{wa:Option Addr}{n c:Nat}{oa:Option Addr}{on oc:Nat}{x:DA}{bad:Bool}{d:Dat}(h:RX w0 w wa n c oa on oc x bad d){o:Option Nat}(hg:w.grownBy w' o)(ho:∀j,o=some j->w0.heap.size+1<=j/\∃zs,Co w j 23 zs)
  (t':Sl) (ns':List (List ByteArray)) (hN:Dk (w0.heap.size+1) w' (.slice t'.a t'.n t'.c) ns'):RX w0 (w'.setCell ⟨w0.heap.size,2,none⟩ (.slice t'.a t'.n t'.c)) wa n c oa on oc ⟨t',x.p2,x.p3,x.p4⟩ bad ⟨ns',d.us,d.ts,d.raw⟩:=by
 obtain⟨h1,h2⟩:=h.grown hg (fun j e=>(ho j e).1);have hk:∀j,w0.heap.size+1<=j->j<w'.heap.size->(w'.setCell ⟨w0.heap.size,2,none⟩ (.slice t'.a t'.n t'.c)).heap[j]?=w'.heap[j]?:=fun j hj _=>Ar _ _ _ j (by show j≠w0.heap.size;omega)
 have h4:GO (w0.heap.size+1) w' x.p4 d.raw:=by
  obtain⟨ys,q1,q2⟩:=h.own.2.2.2;refine⟨ys,?_,q2⟩;obtain q|⟨g,e1,e2,e3,e4⟩:=q1
  ·exact .inl q
  ·refine .inr ⟨g,e1,e2,e3.same (hg.block g e3.lt (fun e=>?_)),e4⟩;obtain⟨zs,hz⟩:=(ho g e.symm).2;have:=hz.symm.trans e3.1;simp at this
 exact⟨h1.set2 t',⟨hN.keep hk,(h.own.2.1.offTy ⟨o,hg,ho⟩).keep hk,(h.own.2.2.1.offTy ⟨o,hg,ho⟩).keep (fun j a b _=>hk j a b),h4.keep hk⟩,h2.setCell (show w0.heap.size<=(⟨w0.heap.size,2,none⟩:Addr).block from Ad _) _⟩
theorem RX.bad{w0 w:Ab}{wa:Option Addr}{n c:Nat}{oa:Option Addr}{on oc:Nat}{x:DA}{bad:Bool}{d:Dat}(h:RX w0 w wa n c oa on oc x bad d)(b:Bool):RX w0 (w.setCell ⟨w0.heap.size,6,none⟩ (.bool b)) wa n c oa on oc x b d:=
 have H:=h.set 6 _ (h.blk.set6 b)
 ⟨H.1,H.2.1,H.2.2⟩
theorem gN(B:Nat)(w:Ab)(s:Sl)(nm:List ByteArray)(h:BU B w s nm)(hB:B<=w.heap.size):Dk B (w.alloc (.cells #[.slice s.a s.n s.c] 23)) (.slice (some ⟨w.heap.size,0,none⟩) 1 1) [nm]:=by
 refine⟨[.slice s.a s.n s.c],.inr ⟨w.heap.size,rfl,hB,Au _ _,Ad _,by simp[Gi]⟩,fun i hi=>?_⟩;have:i=0:=by simp at hi;omega
 subst this;exact⟨s,rfl,h.stays (Ah _ _)⟩
theorem gB(w:Ab)(wa:Option Addr)(n c:Nat)(oa:Option Addr)(on oc:Nat):RX w (w.alloc (.cells #[.slice wa n c,.slice oa on oc,.slice none 0 0,.slice none 0 0,.slice none 0 0,.slice none 0 0,.bool false] 245)) wa n c oa on oc Bo false ⟨[],[],[],[]⟩:=
 ⟨Au _ _,⟨Dk.nil _ _,⟨[],EI.nil _ _ _,rfl,by simp,by simp⟩,⟨[],BF.nil _ _ _,rfl⟩,⟨[],.inl ⟨rfl,rfl,rfl⟩,rfl⟩⟩,Ah _ _⟩
theorem fJ{w w1:Ab}{wa:Option Addr}{n c:Nat}{oa:Option Addr}{on oc:Nat}{x:DA}{bad:Bool}{d:Dat}(h:RX (w.alloc (.cells #[.slice none 0 0,.slice none 0 0,.slice none 0 0,.slice none 0 0] 41)) w1 wa n c oa on oc x bad d) :
  (w1.cell? ⟨w.heap.size+1,0,none⟩=some (.slice wa n c)/\w1.cell? ⟨w.heap.size+1,2,none⟩=some (.slice x.p1.a x.p1.n x.p1.c)/\w1.cell? ⟨w.heap.size+1,3,none⟩=some (.slice x.p2.a x.p2.n x.p2.c)/\w1.cell? ⟨w.heap.size+1,4,none⟩=some (.slice x.p3.a x.p3.n x.p3.c)/\w1.cell? ⟨w.heap.size+1,5,none⟩=some (.slice x.p4.a x.p4.n x.p4.c)/\w1.cell? ⟨w.heap.size+1,6,none⟩=some (.bool bad))/\
  BD w1 w.heap.size Bo/\Blw w w1/\Dd (w.heap.size+2) w1 x d:=by
 have hsz:(w.alloc (.cells #[.slice none 0 0,.slice none 0 0,.slice none 0 0,.slice none 0 0] 41)).heap.size=w.heap.size+1:=by simp
 have h1:=h.blk.cells;have h2:=h.bel.block w.heap.size (by rw[hsz];omega);have h3:=h.own;have h4:=h.bel;rw[hsz]at h1 h3 h4;exact⟨⟨h1.1,h1.2.2.1,h1.2.2.2.1,h1.2.2.2.2.1,h1.2.2.2.2.2.1,h1.2.2.2.2.2.2⟩,h2.trans (Au _ _),(Ah w _).trans (h4.mono (by omega)),h3⟩
theorem SO(s:ByteArray)(c:Int)(w:Ab) :
  Ag Aa 172 #[.string s,.int .u8 c] w fun e w'=>e=.returned (.int .i64 (Bu s.data.toList c.toNat.toUInt8))/\w'=w:=by
 have h:=ZA s c;go_enter Tryz.func172,Tryz.ntmps172;go_wp2;go_ret;exact⟨rfl,rfl⟩
def wv(c:Int):Int:=
 if Bu [48,49,50,51,52,53,54,55,56,57,97,98,99,100,101,102] c.toNat.toUInt8<Bu [48,49,50,51,52,53,54,55,56,57,65,66,67,68,69,70] c.toNat.toUInt8
 then Bu [48,49,50,51,52,53,54,55,56,57,65,66,67,68,69,70] c.toNat.toUInt8 else Bu [48,49,50,51,52,53,54,55,56,57,97,98,99,100,101,102] c.toNat.toUInt8
theorem dI (c : Int) (w : Ab) :
    Ag Aa 243 #[.int .u8 c] w fun e w' => e = .returned (.int .i64 (wv c)) /\ w' = w := by
  go_enter Tryz.func243, Tryz.ntmps243;go_wp2_with fail;refine(SO _ _ _).mono ?_;rintro e w1 ⟨rfl, rfl⟩;go_wp2_with fail;refine(SO _ _ _).mono ?_;rintro e w1 ⟨rfl, rfl⟩;go_wp2;all_goals go_ret
  all_goals refine⟨?_, rfl⟩
  all_goals
    first
    | (unfold wv; rw [if_pos (by assumption)]; rfl)
    | (unfold wv; rw [if_neg (by apply Int.not_lt.2; assumption)]; rfl)
    | (show Ending.returned (AL .i64 (max (Bu [48, 49, 50, 51, 52, 53, 54, 55, 56, 57, 97, 98, 99, 100, 101, 102] c.toNat.toUInt8) (Bu [48, 49, 50, 51, 52, 53, 54, 55, 56, 57, 65, 66, 67, 68, 69, 70] c.toNat.toUInt8))) = _
       have h2 : max (Bu [48, 49, 50, 51, 52, 53, 54, 55, 56, 57, 97, 98, 99, 100, 101, 102] c.toNat.toUInt8) (Bu [48, 49, 50, 51, 52, 53, 54, 55, 56, 57, 65, 66, 67, 68, 69, 70] c.toNat.toUInt8) = wv c := by
         unfold wv;rw [Int.max_def];split <;> split <;> omega
       rw [h2])
theorem YJ(c:Int)(h:0<=c/\c<=255):-1<=wv c/\wv c<16:=by
 obtain⟨n,rfl⟩:=DS h.1;have hn:n<256:=by omega
 have:∀m:Nat,m<256 -> -1<=wv (m:Int)/\wv (m:Int)<16:=by decide +kernel
 exact this n hn
def dg(d:Int):Int:=if d<10 then 48+d else 87+d
theorem xF(d:Int)(h:0<=d/\d<16):wv (dg d)=d:=by
 obtain⟨n,rfl⟩:=DS h.1;have:∀m:Nat,m<16->wv (dg (m:Int))=(m:Int):=by decide +kernel
 exact this n (by omega)
theorem rO(d:Int)(h:0<=d/\d<16):48<=dg d/\dg d<=102:=by unfold dg;split <;> omega
def pv(l:List Int)(k:Nat):Int:=wv (l.getD (2*k) 0)*16+wv (l.getD (2*k+1) 0)
def okp(l:List Int)(k:Nat):Prop:=0<=wv (l.getD (2*k) 0)/\0<=wv (l.getD (2*k+1) 0)
def prs(l:List Int)(k:Nat):List Int:=(List.range k).map (pv l)
theorem jL(l:List Int)(k:Nat):prs l (k+1)=prs l k++[pv l k]:=by simp[prs,List.range_succ]
theorem ZG(l:List Int)(k:Nat):(prs l k).length=k:=by simp[prs]
theorem xQ(a b:Int)(ha:0<=a/\a<16)(hb:0<=b/\b<16):bits .or .i64 (a*16) b=a*16+b:=by
 obtain⟨m,rfl⟩:=DS ha.1;obtain⟨n,rfl⟩:=DS hb.1;have:∀m:Nat,m<16->∀n:Nat,n<16->bits .or .i64 ((m:Int)*16) (n:Int)=(m:Int)*16+(n:Int):=by decide +kernel
 exact this m (by omega) n (by omega)
theorem Xh(s:ByteArray)(w:Ab)(h:131070<s.size)(hs:s.size<=9223372036854775807) :
  Ag Aa 227 #[.string s] w fun e w'=>e=.returned (.tuple #[.slice none 0 0,.int .i64 3])/\w'=w:=by
 have h':(131070:Int)<(s.size:Int):=by omega
 go_enter Tryz.func227,Tryz.ntmps227;go_wp2;go_ret2;exact⟨rfl,rfl⟩
theorem bE(s:ByteArray)(w:Ab)(h:s.size<=131070)(ho:s.size % 2=1) :
  Ag Aa 227 #[.string s] w fun e w'=>e=.returned (.tuple #[.slice none 0 0,.int .i64 110])/\w'=w:=by
 have h':¬ (131070:Int)<(s.size:Int):=by omega
 have h2:((s.size:Int) % 2 != 0)=true:=by rw[bne_iff_ne];omega
 go_enter Tryz.func227,Tryz.ntmps227;go_wp2;go_ret2;exact⟨rfl,rfl⟩
theorem Xf(s:ByteArray)(n:Nat)(w:Ab)(hn:s.size=2*n)(h:s.size<=131070) :
  Ag Aa 227 #[.string s] w fun e w'=>((∃k,k<n/\¬ okp (Ai s) k)/\e=.returned (.tuple #[.slice none 0 0,.int .i64 110])/\Blw w w') ∨
   ((∀k,k<n->okp (Ai s) k)/\∃ao ys,e=.returned (.tuple #[.slice ao n ys.length,.int .i64 0])/\Jk w.heap.size w' ao n ys/\ys.take n=prs (Ai s) n/\Blw w w'):=by
 have HN:Hid (s.size=2*n):=hn;have h1:¬ (131070:Int)<(s.size:Int):=by omega
 have h2:((s.size:Int) % 2 != 0)=false:=by rw[bne_eq_false_iff_eq];omega
 have h3:(s.size:Int) / 2=(n:Int):=by omega
 have hn2:n<=65535:=by omega
 clear hn;go_enter Tryz.func227,Tryz.ntmps227;go_wp2_with (at_make;refine Ls _ rfl _ _ rfl 0 n _ _ rfl rfl (by rfl) (by omega) (by omega) (by omega) ?_);have HO:Hid (Own w.heap.size (w.alloc (.cells (CF n (AL .u8 0)) 5)) (.slice (some ⟨w.heap.size,0,none⟩) 0 n) 0 (AM n 0)/\Blw w (w.alloc (.cells (CF n (AL .u8 0)) 5))):=by
  refine⟨.inr ⟨w.heap.size,by simp,Ad _,⟨by rw[Au];simp,fun z hz=>?_⟩,Aw _,by simp only[LI,Gi];omega⟩,(Ae _ _).alloc (Ad _) _⟩;rw[(MW.1 hz).2];omega
 go_loopw [4,5] (fun v x wr=>∃k i:Nat,k<=n/\Hid (i=2*k)/\x=.int .i64 i/\Hid (∃ys,Own w.heap.size wr v k ys/\ys.take k=prs (Ai s) k)/\Hid (Blw w wr)/\Hid (∀j,j<k->okp (Ai s) j)) (fun _ x _=>s.size - (intOf x).toNat)
 case atStart=>exact⟨0,0,Aw _,rfl,rfl,⟨_,HO.out.1,rfl⟩,HO.out.2,fun j hj=>absurd hj (by omega)⟩
 case round=>
  obtain⟨k,i,hk,HI,rfl,HW,HB,HP⟩:=hrel;clear HO;by_cases hlt:k<n
  ·have hi1:i+1<s.size:=by have:=HI.out;have:=HN.out;omega
   have hi0:i<s.size:=by omega
   have hi1':(i:Int)+1<(s.size:Int):=by omega
   have hi0':(i:Int)<(s.size:Int):=by omega
   have hw1:CV.wrap ((i:Int)+1)=(i:Int)+1:=by rw[BZ];omega
   go_wp2_with fail
   go_region_held3 (fun _=>True) (trivial) (first
    |(go_at_call 243;refine(dI _ _).mono ?_;rintro e w2 ⟨rfl,rfl⟩))
   all_goals
    have e0:(Ai s).getD (2*k) 0=(s[i].toNat:Int):=by rw[<- HI.out];exact Ef s i hi0
    have e1:(Ai s).getD (2*k+1) 0=(s[i+1].toNat:Int):=by rw[<- HI.out];exact Ef s (i+1) hi1
    have HOK:Hid (okp (Ai s) k↔0<=wv (s[i].toNat:Int)/\0<=wv (s[i+1].toNat:Int)):=by unfold okp;rw[e0,e1];exact Iff.rfl
    have HPV:Hid (pv (Ai s) k=wv (s[i].toNat:Int)*16+wv (s[i+1].toNat:Int)):=by unfold pv;rw[e0,e1];rfl
    have b0:=YJ (s[i].toNat:Int) (by have:=s[i].toNat_lt;omega);have b1:=YJ (s[i+1].toNat:Int) (by have:=s[i+1].toNat_lt;omega);clear e0 e1;generalize wv (s[i].toNat:Int)=c0 at*;generalize wv (s[i+1].toNat:Int)=c1 at*;by_cases ha:c0<0
    ·go_wp2;go_ret2;exact .inl ⟨⟨k,hlt,fun h=>by have:=(HOK.out.1 h).1;omega⟩,rfl,HB.out.drew⟩
    by_cases hb:c1<0
    ·go_wp2;go_ret2;exact .inl ⟨⟨k,hlt,fun h=>by have:=(HOK.out.1 h).2;omega⟩,rfl,HB.out.drew⟩
    have hz:=xQ c0 c1 (by omega) (by omega);have hz2:(c0*16+c1) % 256=c0*16+c1:=by omega
    obtain⟨ys,hO,hT⟩:=HW.out;have hnb:Blw wr (wr.alloc (.cells #[.int .u8 (c0*16+c1)] 5)).drew:=((Ae _ _).alloc (Ad _) _).drew;have HO2:Hid (Own w.heap.size (wr.alloc (.cells #[.int .u8 (c0*16+c1)] 5)).drew u4 k ys/\ys.take k=prs (Ai s) k):=⟨hO.below hnb,hT⟩;have HR2:Hid (Rd (wr.alloc (.cells #[.int .u8 (c0*16+c1)] 5)).drew (some ⟨wr.heap.size,0,none⟩) [c0*16+c1]):=(Uj wr (c0*16+c1) (by omega)).drew;have HNB:Hid (Blw wr (wr.alloc (.cells #[.int .u8 (c0*16+c1)] 5)).drew):=hnb;clear hO hT hnb;go_wp2_with (at_builtin;refine Cz _ rfl _ _ rfl w.heap.size _ k ys rfl HO2.out.1 (some ⟨wr.heap.size,0,none⟩) 1 1 [c0*16+c1] rfl HR2.out rfl (by simp) (by omega) (Aj HB.out.size HNB.out.size) ?_;intro v' w' ys' hO' hT' hG');have hrow:=HO2.out.1.lt;refine⟨⟨k+1,i+2,by omega,(show i+2=2*(k+1) by have:=HI.out;omega),by go_num,⟨ys',hO'.out,?_⟩,?_,?_⟩,by simp[intOf];omega⟩
    ·rw[hT'.out,HO2.out.2,jL,HPV.out]
    ·exact(HB.out.trans (HNB.out.mono HB.out.size)).grown hG' (Aj HB.out.size HNB.out.size) hrow
    ·intro j hj;by_cases e:j=k
     ·rw[e];exact HOK.out.2 ⟨by omega,by omega⟩
     ·exact HP.out j (by omega)
  ·obtain rfl:k=n:=by omega
   obtain⟨ys,hO,hT⟩:=HW.out;obtain⟨ao,rfl,hoa⟩:=hO.addr;have hge:(s.size:Int)<=(i:Int):=by have:=HI.out;have:=HN.out;omega
   have HF:Hid (Jk w.heap.size wr ao k ys/\ys.take k=prs (Ai s) k):=⟨hoa,hT⟩;clear hO hT hoa;generalize hy:ys.length=yl;have HY:Hid (ys.length=yl):=hy;clear hy;go_wp2;go_ret2;exact .inr ⟨HP.out,ao,ys,by rw[HY.out];rfl,HF.out.1,HF.out.2,HB.out⟩
theorem nD(n:Nat)(w:Ab)(hn:n<=281474976710656):∃cs:Array Ao,(callFunc 206 #[.int .i64 n]).run Aa w=.ok (.value (.slice (some ⟨w.heap.size,0,none⟩) n cs.size)) (w.drew.drew.alloc (.cells cs 5))/\n<=cs.size/\cs.size<=Gi:=by
 obtain⟨cs,h1,h2,h3⟩:=Lib.run_makeNoZero (P:=Aa) w #[3] 39 5 AI n hn;refine⟨cs,?_,h2,h3 (by simp only[Gi];omega)⟩;rw[run_callFunc_extern (e:=Extern.BytealgMakeNoZero.makeNoZero #[3] #[39]) Tryz.func206 (by kernel_rfl) (by kernel_rfl) (by kernel_rfl) (by kernel_rfl) _ w,h1]
 rfl
theorem aD{w:Ab}{b:Nat}{p:Ao}(h:BB w b p (.slice none 0 0))(cs:Array Ao) :
  BB ((w.setCell ⟨b,1,none⟩ (.slice (some ⟨w.heap.size,0,none⟩) 0 cs.size)).alloc (.cells cs 5)) b p (.slice (some ⟨w.heap.size,0,none⟩) 0 cs.size)/\((w.setCell ⟨b,1,none⟩ (.slice (some ⟨w.heap.size,0,none⟩) 0 cs.size)).alloc (.cells cs 5)).heap[w.heap.size]?=some (.cells cs 5 (0,0))/\
  w.grownBy ((w.setCell ⟨b,1,none⟩ (.slice (some ⟨w.heap.size,0,none⟩) 0 cs.size)).alloc (.cells cs 5)).drew.drew.drew (some b):=by
 have hsz:(w.setCell ⟨b,1,none⟩ (.slice (some ⟨w.heap.size,0,none⟩) 0 cs.size)).heap.size=w.heap.size:=by simp[Dq]
 have hold:∀j,j<w.heap.size->((w.setCell ⟨b,1,none⟩ (.slice (some ⟨w.heap.size,0,none⟩) 0 cs.size)).alloc (.cells cs 5)).heap[j]?=(w.setCell ⟨b,1,none⟩ (.slice (some ⟨w.heap.size,0,none⟩) 0 cs.size)).heap[j]?:=fun j hj=>EP _ _ j (by rw[hsz];exact hj)
 refine⟨BB.same (AD h 1 _) (hold b h.lt),?_,⟨rfl,rfl,rfl,by simp[hsz],fun j hj hne=>?_⟩⟩
 ·have:=Au (w.setCell ⟨b,1,none⟩ (.slice (some ⟨w.heap.size,0,none⟩) 0 cs.size)) (.cells cs 5);rw[hsz]at this;exact this
 ·exact(hold j hj).trans (Ar _ _ _ j (fun e=>hne (by rw[e])))
theorem fC(b n:Nat)(p:Ao)(w:Ab)(h:BB w b p (.slice none 0 0))(hn:n<=281474976710656) :
  Ag Aa 188 #[.pointer (some ⟨b,0,none⟩),.int .i64 n] w fun e w'=>e=.returned (.tuple #[])/\Hid (∃cs:Array Ao,BB w' b p (.slice (some ⟨w.heap.size,0,none⟩) 0 cs.size)/\w'.heap[w.heap.size]?=some (.cells cs 5 (0,0))/\n<=cs.size/\cs.size<=Gi/\w.grownBy w' (some b)):=by
 have HB:Hid (BB w b p (.slice none 0 0)):=h;have hb:=h.lt;have c1:=h.c1;have f1:=h.fz 1;obtain⟨cs,hcall,hc1,hc2⟩:=nD n w.drew hn;have hw:CV.wrap (n:Int)=(n:Int):=by rw[BZ];omega
 have hw0:CV.wrap 0=0:=by rfl
 have hcp:∀(W:Ab) (a:Option Addr) (c:Nat),(Builtin.copy_ #[39,39] 3 #[.slice a 0 c,.slice none 0 0]).run Aa W=.ok (.int .i64 0) W:=fun W a c=>
  run_copy_none (P:=Aa) W 39 39 3 5 a none 0 c 0 0 AI (by kernel_rfl) (by simp)
 clear h;go_enter Tryz.func188,Tryz.ntmps188;go_wp2_with fail
 go_region_held3 (fun W=>W.cell? ⟨b,1,none⟩=some (.slice none 0 0)) (go_keep) (fail)
 clear hcall;go_wp2
 go_end0
 have hM:=aD HB.out cs;exact⟨rfl,cs,hM.1,hM.2.1,hc1,hc2,hM.2.2⟩
theorem xE(B b n:Nat)(w:Ab)(h:BB w b (.pointer none) (.slice none 0 0))(hn:n<=281474976710656)(hB:B<=b) :
  Ag Aa 153 #[.pointer (some ⟨b,0,none⟩),.int .i64 n] w fun e w'=>e=.returned (.tuple #[])/\Hid (BSt B w' b n []/\Below B w w'):=by
 have HB:Hid (BB w b (.pointer none) (.slice none 0 0)):=h;have H2:Hid (BB (w.setCell ⟨b,0,none⟩ (.pointer (some ⟨b,0,none⟩))) b (.pointer (some ⟨b,0,none⟩)) (.slice none 0 0)/\Below B w (w.setCell ⟨b,0,none⟩ (.pointer (some ⟨b,0,none⟩)))):=⟨AD h 0 _,(Ae _ _).setCell hB _⟩;clear h;go_enter Tryz.func153,Tryz.ntmps153;go_wp2_with fail;refine(Jz b _ _ HB.out).mono ?_;rintro e w1 ⟨rfl,hw1⟩;have H3:Hid (BB w1 b (.pointer (some ⟨b,0,none⟩)) (.slice none 0 0)/\Below B w w1):=by rw[hw1];exact H2.out
 clear hw1 H2 HB;have c1:=H3.out.1.c1;have hw0:CV.wrap 0=0:=by rfl
 by_cases h0:n=0
 ·have hd:decide ((0:Int)<(n:Int))=false:=by simp;omega
  go_wp2_with fail;go_quiet (fail);go_wp2
  go_end0
  exact⟨rfl,.inl ⟨h0,rfl,H3.out.1⟩,H3.out.2.trans ⟨rfl,rfl,rfl,Ad _,fun _ _=>rfl⟩⟩
 ·have hd:decide ((0:Int)<(n:Int))=true:=by simp;omega
  go_wp2_with fail;go_quiet (fail);have H4:Hid (BB (w1.drewN nq) b (.pointer (some ⟨b,0,none⟩)) (.slice none 0 0)/\Below B w (w1.drewN nq)):=⟨H3.out.1,H3.out.2.trans ⟨rfl,rfl,rfl,Ad _,fun _ _=>rfl⟩⟩;clear c1;generalize w1.drewN nq=W2 at*;go_wp2_with fail;refine(fC b n _ _ H4.out.1 hn).mono ?_;rintro e w3 ⟨rfl,H5⟩;go_wp2
  go_end0
  obtain⟨cs,q1,q2,q3,q4,q5⟩:=H5.out;have hlt:=H4.out.1.lt;have hsz:=q5.size;have hlt3:W2.heap.size<w3.heap.size:=(As.1 q2).1;refine⟨rfl,.inr ⟨W2.heap.size,cs.size,q1,⟨rfl,.inr ⟨W2.heap.size,cs.size,cs,rfl,?_,q2,Aw _,q4,by simp,by simp⟩⟩,q3,by omega,hlt3,by omega⟩,?_⟩
  ·have:=H4.out.2.size;omega
  ·exact cV H4.out.2 hlt q5 hB
theorem eL(d:Int)(h0:0<=d)(h1:d<16)(w:Ab):(Instr.index 9 (.string ⟨#[48,49,50,51,52,53,54,55,56,57,97,98,99,100,101,102]⟩) (.int .u8 d)).run Aa w=.ok (.int .u8 (dg d)) w:=by
 have:d=0∨d=1∨d=2∨d=3∨d=4∨d=5∨d=6∨d=7∨d=8∨d=9∨d=10∨d=11∨d=12∨d=13∨d=14∨d=15:=by omega
 obtain rfl|rfl|rfl|rfl|rfl|rfl|rfl|rfl|rfl|rfl|rfl|rfl|rfl|rfl|rfl|rfl:=this <;> (clear h0 h1;show Sem.run _ _ _=Result.ok _ _;kernel_rfl)
theorem wV(c:Int)(h:0<=c/\c<=255):bits .and .u8 c 15=c % 16:=by
 obtain⟨n,rfl⟩:=DS h.1;have:∀m:Nat,m<256->bits .and .u8 (m:Int) 15=(m:Int) % 16:=by decide +kernel
 exact this n (by omega)
def ub(z:Int):UInt8:=CS z.toNat
theorem jC(z:Int)(h:0<=z/\z<=255):((ub z).toNat:Int)=z:=by simp[ub];omega
def KV(zs:List Int):List UInt8:=zs.flatMap fun z=>[ub (dg (z / 16)),ub (dg (z % 16))]
theorem aY(zs:List Int)(z:Int):KV (zs++[z])=KV zs++[ub (dg (z / 16)),ub (dg (z % 16))]:=by simp[KV]
theorem Vz(zs:List Int):(KV zs).length=2*zs.length:=by
 induction zs with
 |nil=>rfl
 |cons z zs ih=>simp only[KV,Cn,Af,AP,CZ]at ih ⊢;omega
theorem Ye(zs:List Int)(z:Int)(h:0<=z/\z<=255):Ak (KV (zs++[z]))=Ak (KV zs)++[.int .u8 (dg (z / 16))]++[.int .u8 (dg (z % 16))]:=by
 have d1:=rO (z / 16) (by omega);have d2:=rO (z % 16) (by omega);rw[aY,Lib.byteCells_append];simp[Ak,jC _ (show 0<=dg (z / 16)/\dg (z / 16)<=255 by omega),jC _ (show 0<=dg (z % 16)/\dg (z % 16)<=255 by omega)]
theorem qZ(a:Option Addr)(len cap:Nat)(zs:List Int)(w:Ab)(hr:Rd w a zs)(hl:zs.length=len)(hm:len<=140737488351232) :
  Ag Aa 205 #[.slice a len cap] w fun e w'=>e=.returned (.string ⟨(KV zs).toArray⟩)/\Hid (Blw w w'):=by
 have HR:Hid (Rd w a zs):=hr;have HL:Hid (zs.length=len):=hl;have H0:Hid (BB (w.alloc (.cells #[.pointer none,.slice none 0 0] 65)) w.heap.size (.pointer none) (.slice none 0 0)/\Blw w (w.alloc (.cells #[.pointer none,.slice none 0 0] 65))):=⟨Au _ _,(Ae _ _).alloc (Ad _) _⟩;have HG:Hid (∀W,BB W w.heap.size (.pointer none) (.slice none 0 0)->Ag Aa 153 #[.pointer (some ⟨w.heap.size,0,none⟩),.int .i64 (2*(len:Int))] W fun e w'=>e=.returned (.tuple #[])/\Hid (BSt w.heap.size w' w.heap.size (2*len) []/\Below w.heap.size W w')):=by
  intro W hW;have:=xE w.heap.size w.heap.size (2*len) W hW (by omega) (Ad _);rw[show((2*len:Nat):Int)=2*(len:Int) by omega]at this;exact this
 clear hr hl;go_enter Tryz.func205,Tryz.ntmps205;go_wp2_with fail;refine(HG.out _ H0.out.1).mono ?_;rintro e w1 ⟨rfl,H1⟩;have HS:Hid (BSt w.heap.size w1 w.heap.size (2*len) (Ak (KV (zs.take 0)))/\Blw w w1):=⟨H1.out.1,H0.out.2.trans H1.out.2⟩;clear H0 H1 HG;go_wp2_with fail;go_loopw [12] (fun x wr=>∃k:Nat,k<=len/\x=.int .i64 k/\Hid (BSt w.heap.size wr w.heap.size (2*len) (Ak (KV (zs.take k)))/\Blw w wr)) (fun x _=>len - (intOf x).toNat)
 case atStart=>exact⟨0,Aw _,rfl,HS⟩
 case round=>
  obtain⟨k,hk,rfl,HW⟩:=hrel;clear HS;by_cases hlt:k<len
  ·have hlt':(k:Int)<(len:Int):=by omega
   have HRw:Hid (Rd wr a zs):=HR.out.below HW.out.2;obtain e1|⟨b,o,rfl,e1,e2⟩:=HRw.out.1
   ·have:=HL.out;subst e1;simp at this;omega
   have hc:=e2 k (by rw[HL.out];exact hlt);have hb:=HRw.out.bd k;clear e2;have hzk:zs.take (k+1)=zs.take k++[zs.getD k 0]:=Kf zs k (by rw[HL.out];exact hlt);rw[Am]at hb hc hzk;have HZ:Hid (zs.take (k+1)=zs.take k++[zs[k]?.getD 0]/\(zs.take k).length=k):=⟨hzk,by rw[CC,HL.out];omega⟩;clear hzk;generalize zs[k]?.getD 0=c at*;have ha:=wV c hb;have g1:=eL (c / 16) (by omega) (by omega);have g2:=eL (c % 16) (by omega) (by omega);have HC:Hid (Ak (KV (zs.take (k+1)))=Ak (KV (zs.take k))++[.int .u8 (dg (c / 16))]++[.int .u8 (dg (c % 16))]/\(Ak (KV (zs.take k))).length=2*k):=by
    refine⟨by rw[HZ.out.1];exact Ye _ _ hb,?_⟩;rw[Dr,Vz,HZ.out.2]
   go_wp2_with fail;refine(fE w.heap.size w.heap.size (2*len) _ (dg (c / 16)) _ HW.out.1 (by rw[HC.out.2];omega) (Ad _)).mono ?_;rintro e w2 ⟨rfl,H2⟩;go_wp2_with fail;refine(fE w.heap.size w.heap.size (2*len) _ (dg (c % 16)) _ H2.out.1 (by rw[Af,HC.out.2,Ch];omega) (Ad _)).mono ?_;rintro e w3 ⟨rfl,H3⟩;clear g1 g2 ha hc;go_wp2;refine⟨⟨k+1,by omega,by go_num,?_,?_⟩,by simp[intOf];omega⟩
   ·rw[HC.out.1];exact H3.out.1
   ·exact(HW.out.2.trans H2.out.2).trans H3.out.2
  ·have HB:Hid (BSt w.heap.size wr w.heap.size (2*len) (Ak (KV zs))/\(KV zs).length=2*len):=by
    have e:zs.take k=zs:=Al (by rw[HL.out];omega);have:=HW.out.1;rw[e]at this;exact⟨this,by rw[Vz,HL.out]⟩
   have hge:(len:Int)<=(k:Int):=by omega
   generalize hLL:KV zs=L at*;have HLL:Hid (KV zs=L):=hLL;clear hLL;go_wp2_with fail;refine(UI w.heap.size w.heap.size (2*len) L _ HB.out.1 HB.out.2 (by have:=HB.out.2;omega)).mono ?_;rintro e w2 ⟨rfl,H2⟩;go_wp2;go_ret;exact⟨by rw[HLL.out];rfl,HW.out.2.trans H2.out⟩
end Go.Proofs.YtoppdmlmhigogaaGreatDoor
