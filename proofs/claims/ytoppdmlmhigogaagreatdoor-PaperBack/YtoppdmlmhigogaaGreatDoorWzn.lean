/- Texts laid together, in parts: Mp Mq Mr Jc Em Eo Layp Ez. -/
import Derived.Test.YtoppdmlmhigogaaGreatDoorWzm
import Derived.Deep.RegionHeld3
import Derived.Test.YtoppdmlmhigogaaGreatDoorCards
import Derived.Test.YtoppdmlmhigogaaGreatDoorTie
import Derived.ProofKit
import Derived.OpenShut
import Derived.LaidMore
import Derived.LaidOnce
import Derived.LaidSub
import Derived.MakeChecks
import Derived.Stop.LaidErr
import Derived.Deep.DeepHandedRow
import Derived.Deep.DeepWitnessRowRef
import Derived.Lay
import Derived.WalkKit
import Derived.ShutString
import Derived.ChangeOld
import Derived.Below
import Derived.JoinedCond
import Derived.Deep.Strs
import Derived.Deep.Slices
import Derived.Lib.SmallJoins
set_option maxRecDepth 100000
set_option maxHeartbeats 8000000
set_option linter.unusedVariables false
set_option linter.unusedSimpArgs false
open Array renaming getElem?_eq_some_iff → As
open Go renaming World → Ab, Calls → Ag, bodyPost_ret → An, Value → Ao, heap_alloc_new → Au, results → AJ, TypeId → BH, maxLen → Gi, DataW → Lo, MemPlace → NT, wpList_lookup_own_ok → PY
open Go.Addr renaming add_lit → Js, add → Kk
open Go.DataW renaming trod → CJ
open Go.Lib renaming hid → Ac, TabIs → Io, tabIs_of_head → Lr, pow10Tab → OI
open Go.OpenSpec renaming ofChange → JF
open Go.Proofs.Tryz renaming prog → Aa, underlying39 → AI, underlying9 → AK, underlying3 → AW, underlying5 → Ba, underlying4 → Br, underlying23 → BV, underlying36 → CX, underlying22 → Dy, underlying116 → Es, underlying43 → Hj, underlying214 → Hp, underlying95 → Iw, underlying41 → Kw, underlying248 → Lx, underlying318 → Ly, underlying320 → Lz, underlying125 → LC, results48 → NP, results20 → NQ
open Go.Proofs.YtoppdmlmhigogaaGreatDoor.Rows renaming laid_internal_strconv_uint64pow10 → FJ, laid_nomenclator_master_lengths → FX, paperBackSpec → GD, laid_math_bits_deBruijn64tab → GJ, laid_strings_asciiSpace → Jo, paperBackRow → Kx
open Go.RowKit.Below renaming refl → Ae, heap_setCell → Ar
open Go.Value renaming int → AL, ownBlock → Bm, slice → Ce
open Go.World renaming cell? → Az, setCell → Dq, frozen? → Dv, block_lt_of_cell? → Hd, cell?_spot → MP, laidAll → OG
open List renaming mem_cons → Ax, eq_nil_of_length_eq_zero → AC, getElem?_eq_getElem → AF, length_cons → AP, getElem_mem → AU, mem_map → AY, length_nil → CZ, drop_eq_nil_of_le → DH, drop_eq_getElem_cons → El
open List.cons renaming injEq → PU
open Nat renaming le_refl → Ad, le_trans → Aj, lt_of_lt_of_le → Ap, zero_le → Aw, le_succ → JR
open Option renaming bind_some → BL, bind_eq_some_iff → Dg, map_eq_some_iff → Ju
open Option.some renaming inj → Bf
namespace Go.Proofs.YtoppdmlmhigogaaGreatDoor
open Go.ChangeShapes Go.WideShapes Go.ChangeAt Go.RowKit
theorem Vc{l:List ByteArray}(h:nck l=0):nsz l<=1000000000000:=by
 unfold nck at h;split at h
 ·split at h
  ·cases h
  ·omega
 ·cases h
theorem We{k:Nat}{ws:List Wd}{c c':Cy}(h:Ih k ws c=.ok c')(hk:nck c.og=0):c'.ow=c.ow/\nck c'.og=0:=by
 unfold Ih at h;split at h
 ·split at h
  ·split at h
   ·injection h with h;subst h;exact⟨rfl,Rp _ _⟩
   ·cases h
  ·split at h
   ·injection h with h;subst h;exact⟨rfl,hk⟩
   ·cases h
 ·cases h
theorem rC(e:En)(c:Cy)(h:nck c.ow=0):nck (ER e c).1=0:=by
 unfold ER;split
 ·split
  ·exact h
  ·exact EA
 ·split
  ·exact Rp _ _
  ·exact EA
theorem fX{e:En}{c c':Cy}{r:Rec}(h:Ig e c=.ok (r,c'))(hk:nck c.ow=0):c'.og=c.og/\c'.ow=r.ow/\nck r.ow=0:=by
 unfold Ig at h;split at h
 ·cases h
 split at h
 ·cases h
 split at h
 ·cases h
 split at h
 ·cases h
 split at h
 ·cases h
 ·rename_i n c1 ht
  injection h with h
  injection h with h1 h2
  rw[<- h1,<- h2];have ho:=wE ht;exact⟨ho,rfl,rC e c hk⟩
theorem iL(e:En):gG (EK (Hs e))=Ns e:=rfl
theorem Vx{e:En}(h:Ns e≠0):∃p r,e.ws=p::r:=by
 obtain⟨ln,bl,ws⟩:=e;cases ws with
 |cons p r=>exact⟨p,r,rfl⟩
 |nil=>
  exfalso
  apply h
  cases bl <;> rfl
theorem pA{e:En}{c:Cy}{rs:List Rec}(h:Ns e=0):LH e c rs=dN (Ig e c) rs:=by
 unfold LH dN;rw[if_pos h];cases Ig e c with
 |error er=>rfl
 |ok p=>obtain⟨r,c'⟩:=p;rfl
theorem Yo{e:En}{c:Cy}{rs:List Rec}(h:Ns e≠0):LH e c rs=match Ih (Ns e) e.ws.tail c with
  | .error er=>.error er
  | .ok c'=>.ok (c',rs):=by
 unfold LH;rw[if_neg h];cases Ih (Ns e) e.ws.tail c <;> rfl
theorem lH(e:En)(es:List En)(c:Cy)(rs:List Rec):Jp (e::es) c rs=match LH e c rs with
  | .error er=>.er er e.line
  | .ok (c',rs')=>Jp es c' rs':=rfl
theorem LX{w w':Ab}{m n:Nat}{D:Lo Unit}(h:w.ownsMap Aa 9 fnR m n D)(hb:w'.heap[m]?=w.heap[m]?):w'.ownsMap Aa 9 fnR m n D:=by
 obtain⟨es,clock,h1,h2⟩:=h;exact⟨es,clock,hb.trans h1,h2⟩
theorem OwR.keep2{B:Nat}{w w':Ab}{v:Ao}{rs:List Rec}(h:OwR B w v rs)(hs:w.heap.size<=w'.heap.size)(ho:w'.os=w.os/\w'.tape=w.tape/\w'.output=w.output)(hb:∀j,B<=j->j<w.heap.size->w'.heap[j]?=w.heap[j]?)(g:Nat)(hg:g<B)(hb2:∀j,j<w.heap.size->j≠g->w'.heap[j]?=w.heap[j]?):OwR B w' v rs:=by
 obtain⟨ps,h1,h2,h3⟩:=h;have hlt:=h2.lt;refine⟨ps,h1,h2.kept (row:=some g) ⟨ho.1,ho.2.1,ho.2.2,hs,fun j hj hne=>hb2 j hj (fun e=>hne (by rw[e]))⟩ ?_,fun p hp=>(h3 p hp).go hs (fun j e1 e2 _=>hb j e2 e1) (fun j _ h=>h)⟩;cases hv:v.ownBlock with
 |none=>exact .inl rfl
 |some j=>exact .inr (by intro e;injection e with e;have:=(hlt j hv).1;omega)
theorem OwR.own{B:Nat}{w:Ab}{v:Ao}{rs:List Rec}(h:OwR B w v rs):∀j,v.ownBlock=some j->B<=j/\j<w.heap.size:=by
 obtain⟨ps,h1,h2,h3⟩:=h;exact h2.lt
structure LpS(w wr:Ab)(m:Nat)(v:Ao)(rs:List Rec)(a:CA)(c:Cy):Prop where
 cy:CyB wr w.heap.size a c
 ft:wr.heap[w.heap.size+1]?=some (.cells #[.int .i64 0,.int .i64 0] 50 (0,0))
 mp:wr.ownsMap Aa 9 fnR m 2 Pp
 mne:v.ownBlock≠some m
 mge:w.heap.size+2<=m
 rr:OwR (w.heap.size+2) wr v rs
 cr:∀W',wr.heap.size<=W'.heap.size->(∀j,j<wr.heap.size->some j≠v.ownBlock->(j<w.heap.size∨w.heap.size+2<=j)->W'.heap[j]?=wr.heap[j]?)->CRd W' a c
 bel:Below w.heap.size w wr
 kw:nck c.ow=0
theorem LpS.rd{w wr:Ab}{m:Nat}{v:Ao}{rs:List Rec}{a:CA}{c:Cy}(h:LpS w wr m v rs a c):CRd wr a c:=h.cr wr (Ad _) fun _ _ _ _=>rfl
theorem LpS.below{w wr W:Ab}{m:Nat}{v:Ao}{rs:List Rec}{a:CA}{c:Cy}(h:LpS w wr m v rs a c)(hb:Blw wr W):LpS w W m v rs a c:=
 ⟨h.cy.below hb,(hb.block _ (As.1 h.ft).1).trans h.ft,LX h.mp (hb.block _ h.mp.lt),h.mne,h.mge,h.rr.stays hb,fun W' h1 h2=>h.cr W' (Aj hb.size h1) (fun j e1 e2 e3=>(h2 j (Ap e1 hb.size) e2 e3).trans (hb.block j e1)),h.bel.trans (hb.mono h.bel.size),h.kw⟩
theorem iJ{w wr W2:Ab}{m B1:Nat}{v:Ao}{rs:List Rec}{a:CA}{c:Cy}{a':CA}{c':Cy}(h:LpS w wr m v rs a c)(hb:Blw wr W2)(ho:a'.o=a.o)(hg:(a'.g=a.g/\c'.og=c.og)∨BU B1 W2 a'.g c'.og)(hB:wr.heap.size<=B1)(hw:c'.ow=c.ow)(hk:nck c'.og=0):LpS w ((WN8 W2 w.heap.size a' c').setCell ⟨w.heap.size,8,none⟩ (.bool c'.sd)) m v rs a' c':=by
 have h2:=h.below hb;have hown:=h.rr.own;have h1:CyB ((WN8 W2 w.heap.size a' c').setCell ⟨w.heap.size,8,none⟩ (.bool c'.sd)) w.heap.size a' c':=h2.cy.all a' c';have hh:∀j,j≠w.heap.size->(((WN8 W2 w.heap.size a' c').setCell ⟨w.heap.size,8,none⟩ (.bool c'.sd))).heap[j]?=W2.heap[j]?:=fun j hj=>Fw W2 w.heap.size _ _ _ _ _ _ _ _ _ j hj
 have hz:(((WN8 W2 w.heap.size a' c').setCell ⟨w.heap.size,8,none⟩ (.bool c'.sd))).heap.size=W2.heap.size:=Mz _ _ _ _ _ _ _ _ _ _ _;have hbn:=Cv (Ae 0 W2) (b:=w.heap.size) (Aw _) (.slice a'.g.a a'.g.n a'.g.c) (.slice a'.o.a a'.o.n a'.o.c) (.int .u16 (c'.cl:Int)) (.int .u32 (c'.df:Int)) (.int .u32 (c'.tt:Int)) (.bool c'.ho) (.bool c'.hc) (.bool c'.ht) (.bool c'.sd);have h3:=Cv h2.bel (b:=w.heap.size) (Ad _) (.slice a'.g.a a'.g.n a'.g.c) (.slice a'.o.a a'.o.n a'.o.c) (.int .u16 (c'.cl:Int)) (.int .u32 (c'.df:Int)) (.int .u32 (c'.tt:Int)) (.bool c'.ho) (.bool c'.hc) (.bool c'.ht) (.bool c'.sd);generalize ((WN8 W2 w.heap.size a' c').setCell ⟨w.heap.size,8,none⟩ (.bool c'.sd))=V at*
 have hmlt:=h2.mp.lt;have hws:=h2.bel.size;have hmge:=h.mge;refine⟨h1,(hh _ (by omega)).trans h2.ft,LX h2.mp (hh m (by omega)),h.mne,h.mge,h2.rr.keep2 (by omega) ⟨hbn.os,hbn.tape,hbn.output⟩ (fun j e1 e2=>hh j (by omega)) w.heap.size (by omega) (fun j e1 e2=>hh j e2),fun W' e1 e2=>?_,h3,by rw[hw];exact h.kw⟩;have hW:∀j,j<W2.heap.size->some j≠v.ownBlock->(j<w.heap.size∨w.heap.size+2<=j)->W'.heap[j]?=W2.heap[j]?:=fun j q1 q2 q3=>(e2 j (by omega) q2 q3).trans (hh j (by omega))
 have hold:=h2.cr W' (by omega) hW;refine⟨?_,by rw[ho,hw];exact hold.o,hk⟩;obtain⟨g1,g2⟩|g1:=hg
 ·rw[g1,g2];exact hold.g
 ·have hwr:=h.bel.size;have hmwr:=h.mp.lt;have:=(g1.keep (w':=W') (fun j q1 q2 _=>hW j q2 (fun e=>by have:=(hown j e.symm).2;omega) (.inr (by omega)))).rd;exact⟨this.rd,this.len,Vc hk⟩
theorem sP{w wr W1 W2:Ab}{m:Nat}{v v':Ao}{rs:List Rec}{a:CA}{c:Cy}{a':CA}{c':Cy}{rc:Rec}{x:RA}(h:LpS w wr m v rs a c)(hb:Blw wr W1)(hgr:W1.grownBy W2 v.ownBlock)(hr:OwR (w.heap.size+2) W2 v' (rs++[rc]))(hg:a'.g=a.g)(ho:a'.o=x.o)(hx:RfR (w.heap.size+2) W2 v'.ownBlock x rc)(hv:v'.ownBlock=v.ownBlock∨∃H,v'.ownBlock=some H/\W1.heap.size<=H)(hog:c'.og=c.og)(how:c'.ow=rc.ow)(hk:nck rc.ow=0):LpS w ((WN8 W2 w.heap.size a' c').setCell ⟨w.heap.size,8,none⟩ (.bool c'.sd)) m v' (rs++[rc]) a' c':=by
 have h2:=h.below hb;have hown:=h2.rr.own;have hc2:CyB W2 w.heap.size a c:=(hgr.block _ h2.cy.lt (fun e=>by have:=(hown _ e.symm).1;omega)).trans h2.cy;have h1:CyB ((WN8 W2 w.heap.size a' c').setCell ⟨w.heap.size,8,none⟩ (.bool c'.sd)) w.heap.size a' c':=hc2.all a' c';have hh:∀j,j≠w.heap.size->(((WN8 W2 w.heap.size a' c').setCell ⟨w.heap.size,8,none⟩ (.bool c'.sd))).heap[j]?=W2.heap[j]?:=fun j hj=>Fw W2 w.heap.size _ _ _ _ _ _ _ _ _ j hj
 have hz:(((WN8 W2 w.heap.size a' c').setCell ⟨w.heap.size,8,none⟩ (.bool c'.sd))).heap.size=W2.heap.size:=Mz _ _ _ _ _ _ _ _ _ _ _;have hbn:=Cv (Ae 0 W2) (b:=w.heap.size) (Aw _) (.slice a'.g.a a'.g.n a'.g.c) (.slice a'.o.a a'.o.n a'.o.c) (.int .u16 (c'.cl:Int)) (.int .u32 (c'.df:Int)) (.int .u32 (c'.tt:Int)) (.bool c'.ho) (.bool c'.hc) (.bool c'.ht) (.bool c'.sd);have hbel2:Blw w W2:=⟨hgr.os.trans h2.bel.os,hgr.tape.trans h2.bel.tape,hgr.output.trans h2.bel.output,Aj h2.bel.size hgr.size,fun j hj=>(hgr.block j (Ap hj h2.bel.size) (fun e=>by have:=(hown _ e.symm).1;omega)).trans (h2.bel.block j hj)⟩;have h3:=Cv hbel2 (b:=w.heap.size) (Ad _) (.slice a'.g.a a'.g.n a'.g.c) (.slice a'.o.a a'.o.n a'.o.c) (.int .u16 (c'.cl:Int)) (.int .u32 (c'.df:Int)) (.int .u32 (c'.tt:Int)) (.bool c'.ho) (.bool c'.hc) (.bool c'.ht) (.bool c'.sd);generalize ((WN8 W2 w.heap.size a' c').setCell ⟨w.heap.size,8,none⟩ (.bool c'.sd))=V at*
 have hmlt:=h2.mp.lt;have hws:=h2.bel.size;have hmge:=h.mge;have hgs:=hgr.size;have hft:=(As.1 h2.ft).1;refine⟨h1,(hh _ (by omega)).trans ((hgr.block _ hft (fun e=>by have:=(hown _ e.symm).1;omega)).trans h2.ft),LX h2.mp ((hh m (by omega)).trans (hgr.block m hmlt (fun e=>h.mne e.symm))),?_,h.mge,hr.keep2 (by omega) ⟨hbn.os,hbn.tape,hbn.output⟩ (fun j e1 e2=>hh j (by omega)) w.heap.size (by omega) (fun j e1 e2=>hh j e2),fun W' e1 e2=>?_,h3,by rw[how];exact hk⟩
 ·obtain hv|⟨H,hv,hH⟩:=hv
  ·rw[hv];exact h.mne
  ·rw[hv];intro e;injection e with e;omega
 ·have hW:∀j,j<W2.heap.size->some j≠v'.ownBlock->(j<w.heap.size∨w.heap.size+2<=j)->W'.heap[j]?=W2.heap[j]?:=fun j q1 q2 q3=>(e2 j (by omega) q2 q3).trans (hh j (by omega))
  have hold:=h2.cr W' (by omega) (fun j q1 q2 q3=>(hW j (by omega) (by
   obtain hv|⟨H,hv,hH⟩:=hv
   ·rw[hv];exact q2
   ·rw[hv];intro e;injection e with e;omega) q3).trans (hgr.block j q1 q2))
  have hnew:=(hx W' (by omega) (fun j q1 q2 q3=>hW j q1 q3 (.inr q2))).1;refine⟨by rw[hg,hog];exact hold.g,?_,by rw[hog];exact hold.k⟩;rw[ho,how];exact⟨hnew.rd,hnew.len,Vc hk⟩
theorem Nm.blocks{w w':Ab}{a:Option Addr}{n:Nat}{ss:List ByteArray}(h:Nm w a n ss)(hs:w.heap.size<=w'.heap.size)(hb:∀j,j<w.heap.size->w'.heap[j]?=w.heap[j]?):Nm w' a n ss:=by
 refine⟨?_,h.len,h.sz⟩;have hr:RdV w a (tv ss):=h.rd;show RdV w' a (tv ss);obtain h1|⟨b,o,rfl,hlt,h2⟩:=hr
 ·exact .inl h1
 ·exact RdV.of_blocks (.inr ⟨b,o,rfl,hlt,h2⟩) hs (fun b' o' e=>by cases e;exact hb b hlt)
theorem wO{w:Ab}{a:Option Addr}{ws:List Wd}(h:gW w a ws):RdW w a ws:=by
 obtain h|⟨b,o,h1,h2,h3⟩:=h
 ·exact .inl h
 ·exact .inr ⟨b,o,h1,h2,fun i hi=>by rw[Nat.mul_comm];exact h3 i hi⟩
theorem xR{w:Ab}{x:Sl}{ws:List Wd}(h:WRd w x ws)(hb:WB ws):Ws w x ws:=⟨h.1,h.2.1,h.2.2.1,wO h.2.2.2,hb⟩
theorem OwR.nil(B:Nat)(w:Ab):OwR B w (.slice none 0 0) []:=⟨[],rfl,⟨rfl,.inl ⟨rfl,rfl⟩⟩,by simp⟩
theorem tS{w Wm:Ab}{m:Nat}{a:CA}{c:Cy}(hc:CRd w a c)(hk:nck c.ow=0)(h1:((w.alloc (.cells #[.slice a.g.a a.g.n a.g.c,.slice a.o.a a.o.n a.o.c,.int .u16 (c.cl:Int),.int .u32 (c.df:Int),.int .u32 (c.tt:Int),.bool c.ho,.bool c.hc,.bool c.ht,.bool c.sd] 86)).alloc (.cells #[.int .i64 0,.int .i64 0] 50)).heap.size<=m)(h2:Wm.ownsMap Aa 9 fnR m 2 Pp)(h3:Below ((w.alloc (.cells #[.slice a.g.a a.g.n a.g.c,.slice a.o.a a.o.n a.o.c,.int .u16 (c.cl:Int),.int .u32 (c.df:Int),.int .u32 (c.tt:Int),.bool c.ho,.bool c.hc,.bool c.ht,.bool c.sd] 86)).alloc (.cells #[.int .i64 0,.int .i64 0] 50)).heap.size ((w.alloc (.cells #[.slice a.g.a a.g.n a.g.c,.slice a.o.a a.o.n a.o.c,.int .u16 (c.cl:Int),.int .u32 (c.df:Int),.int .u32 (c.tt:Int),.bool c.ho,.bool c.hc,.bool c.ht,.bool c.sd] 86)).alloc (.cells #[.int .i64 0,.int .i64 0] 50)) Wm):LpS w Wm m (.slice none 0 0) [] a c:=by
 have l1:=Ah w (.cells #[.slice a.g.a a.g.n a.g.c,.slice a.o.a a.o.n a.o.c,.int .u16 (c.cl:Int),.int .u32 (c.df:Int),.int .u32 (c.tt:Int),.bool c.ho,.bool c.hc,.bool c.ht,.bool c.sd] 86);have q1:CyB (w.alloc (.cells #[.slice a.g.a a.g.n a.g.c,.slice a.o.a a.o.n a.o.c,.int .u16 (c.cl:Int),.int .u32 (c.df:Int),.int .u32 (c.tt:Int),.bool c.ho,.bool c.hc,.bool c.ht,.bool c.sd] 86)) w.heap.size a c:=CyB.new w a c;generalize hw1:w.alloc (.cells #[.slice a.g.a a.g.n a.g.c,.slice a.o.a a.o.n a.o.c,.int .u16 (c.cl:Int),.int .u32 (c.df:Int),.int .u32 (c.tt:Int),.bool c.ho,.bool c.hc,.bool c.ht,.bool c.sd] 86)=w1 at*;have n1:w1.heap.size=w.heap.size+1:=by rw[<- hw1];simp
 have l2:=Ah w1 (.cells #[.int .i64 0,.int .i64 0] 50);have q2:=Au w1 (.cells #[.int .i64 0,.int .i64 0] 50);generalize hw2:w1.alloc (.cells #[.int .i64 0,.int .i64 0] 50)=w2 at*;have n2:w2.heap.size=w1.heap.size+1:=by rw[<- hw2];simp
 rw[n1]at q2;have hbel:Blw w Wm:=l1.trans ((l2.mono (by omega)).trans (h3.mono (by omega)));have hs:=h3.size;refine⟨(h3.block _ (by omega)).trans ((l2.block _ (by omega)).trans q1),(h3.block _ (by omega)).trans q2,h2,by simp[Bm],by omega,OwR.nil _ _,fun W' e1 e2=>?_,hbel,hk⟩;have hW:∀j,j<w.heap.size->W'.heap[j]?=w.heap[j]?:=fun j hj=>(e2 j (by omega) (by simp[Bm]) (.inl hj)).trans (hbel.block j hj)
 exact⟨hc.g.blocks (by omega) hW,hc.o.blocks (by omega) hW,hc.k⟩
theorem Ic{w:Ab}{b:Nat}{cur:Array Ao}{t:BH}(h:w.heap[b]?=some (.cells cur t (0,0)))(i:Nat):w.frozen? ⟨b,i,none⟩=false:=by
 have h2:=h;simp[Dv,h2]
theorem Cd{w:Ab}{b:Nat}{cur:Array Ao}{t:BH}{fr:Nat × Nat}(h:w.heap[b]?=some (.cells cur t fr))(i:Nat)(v:Ao)(hv:cur[i]?=some v):w.cell? ⟨b,i,none⟩=some v:=by unfold Az;rw[h];exact hv
theorem Po{w V:Ab}{er ln e0 l0:Int}(hf:V.heap[w.heap.size+1]?=some (.cells #[.int .i64 e0,.int .i64 l0] 50 (0,0)))(hb:Blw w V):((V.setCell ⟨w.heap.size+1,0,none⟩ (.int .i64 er)).setCell ⟨w.heap.size+1,1,none⟩ (.int .i64 ln)).drew.cell? ⟨w.heap.size+1,0,none⟩=some (.int .i64 er)/\((V.setCell ⟨w.heap.size+1,0,none⟩ (.int .i64 er)).setCell ⟨w.heap.size+1,1,none⟩ (.int .i64 ln)).drew.cell? ⟨w.heap.size+1,1,none⟩=some (.int .i64 ln)/\Blw w ((V.setCell ⟨w.heap.size+1,0,none⟩ (.int .i64 er)).setCell ⟨w.heap.size+1,1,none⟩ (.int .i64 ln)).drew:=by
 have h1:=AD hf 0 (.int .i64 er);have h2:=AD h1 1 (.int .i64 ln);have h3:((V.setCell ⟨w.heap.size+1,0,none⟩ (.int .i64 er)).setCell ⟨w.heap.size+1,1,none⟩ (.int .i64 ln)).heap[w.heap.size+1]?=some (.cells #[.int .i64 er,.int .i64 ln] 50 (0,0)):=h2;refine⟨Cd (show((V.setCell ⟨w.heap.size+1,0,none⟩ (.int .i64 er)).setCell ⟨w.heap.size+1,1,none⟩ (.int .i64 ln)).drew.heap[w.heap.size+1]?=_ from h3) 0 _ rfl,Cd (show((V.setCell ⟨w.heap.size+1,0,none⟩ (.int .i64 er)).setCell ⟨w.heap.size+1,1,none⟩ (.int .i64 ln)).drew.heap[w.heap.size+1]?=_ from h3) 1 _ rfl,?_⟩;exact((hb.setCell (p:=⟨w.heap.size+1,0,none⟩) (JR _) _).setCell (p:=⟨w.heap.size+1,1,none⟩) (JR _) _).drew
theorem qQ{w V:Ab}{e0 l0:Int}{v:Ao}{rs:List Rec}(hf:V.heap[w.heap.size+1]?=some (.cells #[.int .i64 e0,.int .i64 l0] 50 (0,0)))(hb:Blw w V)(hr:OwR (w.heap.size+2) V v rs):((V.setCell ⟨w.heap.size+1,0,none⟩ (.int .i64 0)).setCell ⟨w.heap.size+1,1,none⟩ (.int .i64 0)).cell? ⟨w.heap.size+1,0,none⟩=some (.int .i64 0)/\((V.setCell ⟨w.heap.size+1,0,none⟩ (.int .i64 0)).setCell ⟨w.heap.size+1,1,none⟩ (.int .i64 0)).cell? ⟨w.heap.size+1,1,none⟩=some (.int .i64 0)/\Blw w ((V.setCell ⟨w.heap.size+1,0,none⟩ (.int .i64 0)).setCell ⟨w.heap.size+1,1,none⟩ (.int .i64 0))/\OwR w.heap.size ((V.setCell ⟨w.heap.size+1,0,none⟩ (.int .i64 0)).setCell ⟨w.heap.size+1,1,none⟩ (.int .i64 0)) v rs:=by
 have h1:=AD hf 0 (.int .i64 0);have h2:=AD h1 1 (.int .i64 0);have h3:((V.setCell ⟨w.heap.size+1,0,none⟩ (.int .i64 0)).setCell ⟨w.heap.size+1,1,none⟩ (.int .i64 0)).heap[w.heap.size+1]?=some (.cells #[.int .i64 0,.int .i64 0] 50 (0,0)):=h2;have h4:=(hb.setCell (p:=⟨w.heap.size+1,0,none⟩) (JR _) (.int .i64 0)).setCell (p:=⟨w.heap.size+1,1,none⟩) (JR _) (.int .i64 0);have h0:=((Ae 0 V).setCell (p:=⟨w.heap.size+1,0,none⟩) (Aw _) (.int .i64 0)).setCell (p:=⟨w.heap.size+1,1,none⟩) (Aw _) (.int .i64 0);have hh:∀j,j≠w.heap.size+1->((V.setCell ⟨w.heap.size+1,0,none⟩ (.int .i64 0)).setCell ⟨w.heap.size+1,1,none⟩ (.int .i64 0)).heap[j]?=V.heap[j]?:=fun j hj=>(Ar _ _ _ j (by show j≠w.heap.size+1;exact hj)).trans (Ar _ _ _ j (by show j≠w.heap.size+1;exact hj))
 exact⟨Cd h3 0 _ rfl,Cd h3 1 _ rfl,h4,(hr.keep2 h0.size ⟨h0.os,h0.tape,h0.output⟩ (fun j e1 e2=>hh j (by omega)) (w.heap.size+1) (by omega) (fun j e1 e2=>hh j e2)).mono (by omega)⟩
def AlP(r:Ra)(w:Ab)(e:Ending)(w':Ab):Prop:=
 ∃(s':Sl) (er ln:Int),e=.returned (.tuple #[.slice s'.a s'.n s'.c,.agg #[.int .i64 er,.int .i64 ln]])/\Hid (Blw w w')/\Hid (match r with
  | .ok rs=>er=0/\ln=0/\OwR w.heap.size w' (.slice s'.a s'.n s'.c) rs/\rs.length<=2048
  | .er e1 l1=>er=e1/\ln=l1/\s'=⟨none,0,0⟩)
theorem dM(e:En):Ns e=0∨Ns e=1∨Ns e=2:=by
 unfold Ns;split
 ·exact .inr (.inl rfl)
 ·split
  ·exact .inr (.inr rfl)
  ·exact .inl rfl
theorem cH(e:En)(h:WB e.ws):(EK (Hs e)).size<=Gi:=by
 have:=VH e h;rw[RJ];simp only[Gi];omega
abbrev WN9(w:Ab)(b:Nat)(a:CA)(c:Cy):Ab:=((((((((w.setCell ⟨b,0,none⟩ (.slice a.g.a a.g.n a.g.c)).setCell ⟨b,1,none⟩ (.slice a.o.a a.o.n a.o.c)).setCell ⟨b,2,none⟩ (.int .u16 (c.cl:Int))).setCell ⟨b,3,none⟩ (.int .u32 (c.df:Int))).setCell ⟨b,4,none⟩ (.int .u32 (c.tt:Int))).setCell ⟨b,5,none⟩ (.bool c.ho)).setCell ⟨b,6,none⟩ (.bool c.hc)).setCell ⟨b,7,none⟩ (.bool c.ht)).setCell ⟨b,8,none⟩ (.bool c.sd)
theorem Wh(xs:Sl)(es:List En)(a:CA)(c:Cy)(w:Ab)(hx:RdE w xs.a es)(hn:xs.n=es.length)(hcap:xs.n<=xs.c)(h63:xs.c<=9223372036854775807)(hwb:∀e∈es,WB e.ws)(hc:CRd w a c)(hk:nck c.ow=0)(hE:Cc w)(hL:Bk w):Ag Aa 48 #[.slice xs.a xs.n xs.c,caV a c] w (AlP (Jp es c []) w):=by
 obtain⟨xa,n,xc⟩:=xs;have HX:Hid (RdE w xa es):=hx;have HN:Hid (n=es.length):=hn;have HWB:Hid (∀e∈es,WB e.ws):=hwb;have HE:Hid (∀W,Blw w W->Bk W/\Cc W):=fun W hW=>⟨hL.below hW,hE.below hW⟩
 have HA:Hid (es=[]∨∃b o,xa=some ⟨b,o,none⟩):=by
  obtain h|⟨b,o,e,-,-⟩:=hx
  ·exact .inl h
  ·exact .inr ⟨b,o,e⟩
 simp only at hcap h63;have KC:=Ac (Ur ((w.alloc (.cells #[.slice a.g.a a.g.n a.g.c,.slice a.o.a a.o.n a.o.c,.int .u16 (c.cl:Int),.int .u32 (c.df:Int),.int .u32 (c.tt:Int),.bool c.ho,.bool c.hc,.bool c.ht,.bool c.sd] 86)).alloc (.cells #[.int .i64 0,.int .i64 0] 50)));have HLP:Hid (∀Wm m,((w.alloc (.cells #[.slice a.g.a a.g.n a.g.c,.slice a.o.a a.o.n a.o.c,.int .u16 (c.cl:Int),.int .u32 (c.df:Int),.int .u32 (c.tt:Int),.bool c.ho,.bool c.hc,.bool c.ht,.bool c.sd] 86)).alloc (.cells #[.int .i64 0,.int .i64 0] 50)).heap.size<=m->Wm.ownsMap Aa 9 fnR m 2 Pp->Below ((w.alloc (.cells #[.slice a.g.a a.g.n a.g.c,.slice a.o.a a.o.n a.o.c,.int .u16 (c.cl:Int),.int .u32 (c.df:Int),.int .u32 (c.tt:Int),.bool c.ho,.bool c.hc,.bool c.ht,.bool c.sd] 86)).alloc (.cells #[.int .i64 0,.int .i64 0] 50)).heap.size ((w.alloc (.cells #[.slice a.g.a a.g.n a.g.c,.slice a.o.a a.o.n a.o.c,.int .u16 (c.cl:Int),.int .u32 (c.df:Int),.int .u32 (c.tt:Int),.bool c.ho,.bool c.hc,.bool c.ht,.bool c.sd] 86)).alloc (.cells #[.int .i64 0,.int .i64 0] 50)) Wm->LpS w Wm m (.slice none 0 0) [] a c):=fun Wm m h1 h2 h3=>tS hc hk h1 h2 h3
 clear hx hn hwb hc hk hE hL;go_enter Tryz.func48,Tryz.ntmps48;go_wp2_with fail;refine KC.out.mono ?_;rintro r Wm ⟨m,rfl,HM⟩;have HL0:=Ac (HLP.out Wm m HM.out.1 HM.out.2.1 HM.out.2.2);clear HLP HM KC;go_wp2_with fail;go_loopw [16,7] (fun vk vv wr=>∃(k:Nat) (s:Sl),k<=n/\vk=.int .i64 (k:Int)/\vv=.slice s.a s.n s.c/\Hid (∃rs c' a',LpS w wr m (.slice s.a s.n s.c) rs a' c'/\Jp es c []=Jp (es.drop k) c' rs/\rs.length<=2048)) (fun vk _ _=>n - (intOf vk).toNat)
 case atStart=>exact⟨0,⟨none,0,0⟩,Aw _,rfl,rfl,[],c,a,HL0.out,rfl,by simp⟩
 case round=>
  obtain⟨k,s,hk,rfl,rfl,HW⟩:=hrel;obtain⟨rs,c1,a1,hlp,hall,hrs⟩:=HW.out;clear HW;have HLP:=Ac hlp;have HRS:=Ac hrs;by_cases hlt:k<n
  ·have hlt':(k:Int)<(n:Int):=by omega
   have hke:k<es.length:=by have:=HN.out;omega
   obtain⟨b,o,rfl⟩:∃b o,xa=some ⟨b,o,none⟩:=by
    obtain h|h:=HA.out
    ·rw[h]at hke;simp at hke
    ·exact h
   obtain⟨x,hb,p1,p2,p3,hwd⟩:∃x:Sl,b<w.heap.size/\w.cell? ⟨b,o+k*3,none⟩=some (.int .i64 es[k].line)/\w.cell? ⟨b,o+k*3+1,none⟩=some (.bool es[k].blank)/\w.cell? ⟨b,o+k*3+2,none⟩=some (.slice x.a x.n x.c)/\WRd w x es[k].ws:=by
    obtain h|⟨b',o',e0,hb,hcells⟩:=HX.out
    ·rw[h]at hke;simp at hke
    ·cases e0;obtain⟨x,h1⟩:=hcells k hke;exact⟨x,hb,h1⟩
   have P1:=(hlp.bel.cell (p:=⟨b,o+k*3,none⟩) hb).trans p1;have P2:=(hlp.bel.cell (p:=⟨b,o+k*3+1,none⟩) hb).trans p2;have P3:=(hlp.bel.cell (p:=⟨b,o+k*3+2,none⟩) hb).trans p3;have hwb:=HWB.out es[k] (AU hke);have hdrop:es.drop k=es[k]::es.drop (k+1):=El hke;rw[hdrop,lH]at hall;have HALL:=Ac hall;have HSE:Hid (Jp es c []=Jp es c []):=rfl;clear p1 p2 p3 hdrop hall hlp hrs;generalize Jp es c []=RR at*;generalize es[k]=en at*;obtain⟨ln,bl,ws⟩:=en;simp only at P1 P2 P3 hwd hwb;have HWE:=Ac (HLP.out.below (Ah wr (.cells #[.int .i64 ln,.bool bl,.slice x.a x.n x.c] 120)));have HE0:Hid ((wr.alloc (.cells #[.int .i64 ln,.bool bl,.slice x.a x.n x.c] 120)).heap[wr.heap.size]?=some (.cells #[.int .i64 ln,.bool bl,.slice x.a x.n x.c] 120 (0,0))):=Au _ _;have HWS:=Ac ((xR hwd hwb).below HWE.out.bel);have KW:=Ac (VP x ⟨ln,bl,ws⟩ (wr.alloc (.cells #[.int .i64 ln,.bool bl,.slice x.a x.n x.c] 120)) HWS.out);have HKEY:=Ac (vO _ (cH ⟨ln,bl,ws⟩ hwb));have HCH:=Ac (oR (EK (Hs ⟨ln,bl,ws⟩)));rw[iL]at HCH;have HBIG:Hid (w.heap.size+2<=wr.heap.size):=by have:=HLP.out.mge;have:=HLP.out.mp.lt;show _<=_;omega
   have HWBB:=Ac hwb;have HOWN:Hid (∀j,(Ce s.a s.n s.c).ownBlock=some j->w.heap.size+2<=j/\j<wr.heap.size):=HLP.out.rr.own;clear HLP hwd hwb HSE;have hnw0:¬ wr.heap.size=w.heap.size:=by have:_<=_:=HBIG.out;omega
   have hnw1:¬ w.heap.size=wr.heap.size:=fun e=>hnw0 e.symm
   have hnw2:¬ wr.heap.size=w.heap.size+1:=by have:_<=_:=HBIG.out;omega
   have hnw3:¬ w.heap.size+1=wr.heap.size:=fun e=>hnw2 e.symm
   go_wp2_with fail;refine KW.out.mono ?_;rintro r W1 ⟨rfl,HB1⟩;have HL1:=Ac (HWE.out.below HB1.out);have HE1:Hid (W1.heap[wr.heap.size]?=some (.cells #[.int .i64 ln,.bool bl,.slice x.a x.n x.c] 120 (0,0))):=(HB1.out.block _ (by simp)).trans HE0.out;have HWS1:=Ac (HWS.out.below HB1.out);have HBA:=Ac ((Ah wr (.cells #[.int .i64 ln,.bool bl,.slice x.a x.n x.c] 120)).trans (HB1.out.mono (by simp)));have HSZ1:Hid (wr.heap.size<W1.heap.size):=(As.1 HE1.out).1;have HMP:=Ac HL1.out.mp;clear KW HE0 HWS HB1;generalize EK (Hs ⟨ln,bl,ws⟩)=WD at*;have e0:=Cd HE1.out 0 _ rfl;have e1:=Cd HE1.out 1 _ rfl;have e2:=Cd HE1.out 2 _ rfl;have r0:=HL1.out.cy.c0;have r1:=HL1.out.cy.c1;have r2:=HL1.out.cy.c2;have r3:=HL1.out.cy.c3;have r4:=HL1.out.cy.c4;have r5:=HL1.out.cy.c5;have r6:=HL1.out.cy.c6;have r7:=HL1.out.cy.c7;have r8:=HL1.out.cy.c8;obtain h0|h0|h0:=dM ⟨ln,bl,ws⟩
   ·rw[h0]at HCH;have HH:Hid (Maps.has Pp (.string WD.data.toList)=false):=HCH.out.1;have HAT:=Ac HCH.out.2;have HCF:=Ac h0;clear HCH h0
    go_wp2_with (first
     |(refine PY _ rfl _ _ 125 rfl 9 128 QJ LC fnR (WT _) (.lit (.int .i64 0)) [] rfl m 2 Pp rfl HMP.out _ _ rfl HKEY.out ?_;intro u pu hu;rw[HAT.out]at hu;obtain rfl:=(Um (k:=0) hu).1 rfl;clear hu;rw[HH.out])
     |fail)
    have KPU:=Ac (qL (w.heap.size+2) (.slice s.a s.n s.c) rs x ⟨ln,bl,ws⟩ a1 c1 W1 HL1.out.rr (by have:_<=_:=HBIG.out;have:_<_:=HSZ1.out;omega) HRS.out HWS1.out HL1.out.rd (HE.out _ HL1.out.bel).2 (HE.out _ HL1.out.bel).1);have HEK:=Ac (fun rc c' (h:Ig ⟨ln,bl,ws⟩ c1=.ok (rc,c'))=>fX h HL1.out.kw);have HST:=Ac (pA (c:=c1) (rs:=rs) HCF.out);generalize Ig ⟨ln,bl,ws⟩ c1=EF at*;clear P1 P2 P3 e0 e1 e2 r0 r1 r2 r3 r4 r5 r6 r7 r8 HAT HH HKEY HMP;refine KPU.out.mono ?_;rintro r W2 ⟨s2,a2,c2,er,rfl,HGW,HQ⟩;have HCY2:Hid (CyB W2 w.heap.size a1 c1):=(HGW.out.block _ HL1.out.cy.lt (fun e=>by have:=(HOWN.out _ e.symm).1;omega)).trans HL1.out.cy;have HFT2:Hid (W2.heap[w.heap.size+1]?=some (.cells #[.int .i64 0,.int .i64 0] 50 (0,0))):=(HGW.out.block _ (As.1 HL1.out.ft).1 (fun e=>by have:=(HOWN.out _ e.symm).1;omega)).trans HL1.out.ft;have HE2:Hid (W2.heap[wr.heap.size]?=some (.cells #[.int .i64 ln,.bool bl,.slice x.a x.n x.c] 120 (0,0))):=(HGW.out.block _ HSZ1.out (fun e=>by have:=(HOWN.out _ e.symm).2;omega)).trans HE1.out;have HBW2:Hid (Blw w W2):=⟨HGW.out.os.trans HL1.out.bel.os,HGW.out.tape.trans HL1.out.bel.tape,HGW.out.output.trans HL1.out.bel.output,Aj HL1.out.bel.size HGW.out.size,fun j hj=>(HGW.out.block j (Ap hj HL1.out.bel.size) (fun e=>by have:=(HOWN.out _ e.symm).1;omega)).trans (HL1.out.bel.block j hj)⟩;have r0:=HCY2.out.c0;have r1:=HCY2.out.c1;have r2:=HCY2.out.c2;have r3:=HCY2.out.c3
    have r4:=HCY2.out.c4;have r5:=HCY2.out.c5;have r6:=HCY2.out.c6;have r7:=HCY2.out.c7;have r8:=HCY2.out.c8;have rf0:=HCY2.out.fz 0;have rf1:=HCY2.out.fz 1;have rf2:=HCY2.out.fz 2;have rf3:=HCY2.out.fz 3;have rf4:=HCY2.out.fz 4;have rf5:=HCY2.out.fz 5;have rf6:=HCY2.out.fz 6;have rf7:=HCY2.out.fz 7;have rf8:=HCY2.out.fz 8;have rl:=HCY2.out.lt;obtain⟨rfl,rc,xr,hef,hnf,hor,hg,ho,hrf,hrow⟩|⟨hne,herr⟩:=HQ.out
    ·have HLN:=Ac (sP HL1.out (Ae _ _) HGW.out hor hg ho hrf hrow (HEK.out _ _ hef).1 (HEK.out _ _ hef).2.1 (HEK.out _ _ hef).2.2);have HNEXT:Hid (RR=Jp (es.drop (k+1)) c2 (rs++[rc])):=by
      have hp:dN EF rs=.ok (c2,rs++[rc]):=by
       rw[hef];show(if rs.length=2048 then(.error 3:Except Int (Cy × List Rec)) else .ok (c2,rs++[rc]))=_;rw[if_neg hnf]
      show _=_;rw[HALL.out,HST.out,hp]
     have HLEN:Hid ((rs++[rc]).length<=2048):=by have:=HRS.out;show _<=_;simp;omega
     clear KPU HALL HST HEK HQ HL1 hef hnf hor hg ho hrf hrow HCY2 HFT2 HE2 HBW2 HGW;go_wp2_with fail;exact⟨⟨k+1,s2,by omega,by go_num,rfl,rs++[rc],c2,a2,HLN.out,HNEXT.out,HLEN.out⟩,by simp[intOf];omega⟩
    ·have hne3:(er != 0)=true:=by simpa using hne
     have HEE:Hid (LH ⟨ln,bl,ws⟩ c1 rs=.error er):=by show _=_;rw[HST.out];exact herr
     have HFT:Hid ((((WN8 W2 w.heap.size a2 c2).setCell ⟨w.heap.size,8,none⟩ (.bool c2.sd))).heap[w.heap.size+1]?=some (.cells #[.int .i64 0,.int .i64 0] 50 (0,0))):=(Fw W2 w.heap.size _ _ _ _ _ _ _ _ _ _ (by omega)).trans HFT2.out;have HBN:Hid (Blw w ((WN8 W2 w.heap.size a2 c2).setCell ⟨w.heap.size,8,none⟩ (.bool c2.sd))):=Cv HBW2.out (Ad _) _ _ _ _ _ _ _ _ _;have y0:=Cd HE2.out 0 (.int .i64 ln) rfl;have f0:=Cd HFT2.out 0 (.int .i64 0) rfl;have f1:=Cd HFT2.out 1 (.int .i64 0) rfl;have ff0:=Ic HFT2.out 0;have ff1:=Ic HFT2.out 1;have fl:=(As.1 HFT2.out).1;clear KPU HST HEK HQ HL1 HCY2 HFT2 HE2 HBW2 HGW hne herr
     go_wp2_with fail
     go_region_law (fail)
     all_goals
      go_wp2_with fail;have HZ:=Ac (Po (er:=er) (ln:=ln) HFT.out HBN.out);generalize (((WN9 W2 w.heap.size a2 c2).setCell ⟨w.heap.size+1,0,none⟩ (.int .i64 er)).setCell ⟨w.heap.size+1,1,none⟩ (.int .i64 ln)).drew=W9 at*;have z0:=HZ.out.1;have z1:=HZ.out.2.1;exact An (v:=.tuple #[.slice none 0 0,.agg #[.int .i64 er,.int .i64 ln]]) (by simp[AJ,NP,go_sem,z0,z1]) rfl ⟨⟨none,0,0⟩,er,ln,rfl,HZ.out.2.2,by
       rw[HALL.out,HEE.out];exact⟨rfl,rfl,rfl⟩⟩
   ·obtain⟨p,wt,hcons⟩:=Vx (e:=⟨ln,bl,ws⟩) (by rw[h0];decide);simp only at hcons;subst hcons;rw[h0]at HCH;have HH:Hid (Maps.has Pp (.string WD.data.toList)=true):=HCH.out.1;have HAT:=Ac HCH.out.2;have HST:Hid (LH ⟨ln,bl,p::wt⟩ c1 rs=match Ih 1 wt c1 with
      | .error er=>.error er
      | .ok c'=>.ok (c',rs)):=by
     have:=Yo (c:=c1) (rs:=rs) (e:=⟨ln,bl,p::wt⟩) (by rw[h0];decide);rw[h0]at this;exact this
    obtain⟨xwa,xwn,xwc⟩:=x;obtain⟨b5,o5,e5,-⟩:=HWS1.out.rd.head;simp only at e5;subst e5;have htl:=Qk HWS1.out;have hxn:=htl.1;subst hxn;have hxc:wt.length+1<=xwc:=HWS1.out.c;have hx63:xwc<=9223372036854775807:=HWS1.out.c63;have HTL:=Ac htl.2;have HKOB:Hid (∀x2:Sl,Ws W1 x2 wt->∀W,Blw W1 W->Ag Aa 86 #[.func (.func 124) #[] #[],.slice x2.a x2.n x2.c,caV a1 c1] W (CmP (Ih 1 wt c1) a1 c1 W)):=fun x2 hx2 W hW=>Xv x2 wt a1 c1 W (hx2.below hW) (fun W' s hs h'=>Xu s hs a1 c1 W' (HL1.out.rd.below (hW.trans (h'.mono hW.size))))
    have HCK:=Ac (fun c' (h:Ih 1 wt c1=.ok c')=>We h HL1.out.rd.k);have HKK:Hid (nck c1.og=0):=HL1.out.rd.k;generalize Ih 1 wt c1=CE at*;generalize wt.length=L at*;clear HCH h0 P1 P2 P3 htl;have hone:(1:Int)<=(L:Int)+1:=by omega
    obtain⟨x2,hxs,hx2⟩:∃x2:Sl,(xwc=1->x2=⟨some ⟨b5,o5,none⟩,0,0⟩)/\Ws W1 x2 wt/\(xwc≠1->x2=⟨some ⟨b5,o5+2,none⟩,L,xwc - 1⟩):=by
     by_cases h1:xwc=1
     ·exact⟨⟨some ⟨b5,o5,none⟩,0,0⟩,fun _=>rfl,HTL.out.2 h1 _,fun h=>absurd h1 h⟩
     ·exact⟨⟨some ⟨b5,o5+2,none⟩,L,xwc - 1⟩,fun h=>absurd h h1,HTL.out.1 _ (by omega) (by omega),fun _=>rfl⟩
    have KOB:=Ac (HKOB.out x2 hx2.1);have HWX:Hid (xwc≠1->x2=⟨some ⟨b5,o5+2,none⟩,L,xwc - 1⟩):=hx2.2;clear HKOB hx2 HTL;by_cases hc1:xwc=1
    focus
     have:=hxs hc1;subst this;clear hxs HWX;have hL0:L=0:=by omega
     subst hc1;subst hL0
    rotate_left
    focus
     have:=HWX.out hc1;subst this;clear hxs HWX;have hx4:¬ xwc<=1:=by omega
     have hx5:¬ xwc - 1=0:=by omega
     have hx6:1<xwc:=by omega
    all_goals
     go_wp2_with (first
      |(refine PY _ rfl _ _ 125 rfl 9 128 QJ LC fnR (WT _) (.lit (.int .i64 0)) [] rfl m 2 Pp rfl HMP.out _ _ rfl HKEY.out ?_;intro u pu hu;rw[HAT.out]at hu;obtain rfl:=(Um (k:=1) hu).2.1 rfl;clear hu;rw[HH.out])
      |fail)
     go_region_with (first
      |(go_at_call 86;refine(KOB.out _ (by first|exact Ae _ _|exact(Ae _ _).drew)).mono ?_;rintro r W2 ⟨a2,c2,er,rfl,HB2,HQ⟩;have HBW:Hid (Blw W1 W2):=(by first|exact HB2.out|exact(Ae _ _).drew.trans HB2.out);have HLW:=Ac (HL1.out.below HBW.out);have HE2:=Ac ((HBW.out.block _ HSZ1.out).trans HE1.out);have t0:=HLW.out.cy.c0;have t1:=HLW.out.cy.c1;have t2:=HLW.out.cy.c2;have t3:=HLW.out.cy.c3;have t4:=HLW.out.cy.c4;have t5:=HLW.out.cy.c5;have t6:=HLW.out.cy.c6;have t7:=HLW.out.cy.c7;have t8:=HLW.out.cy.c8;have tf0:=HLW.out.cy.fz 0;have tf1:=HLW.out.cy.fz 1;have tf2:=HLW.out.cy.fz 2;have tf3:=HLW.out.cy.fz 3;have tf4:=HLW.out.cy.fz 4;have tf5:=HLW.out.cy.fz 5;have tf6:=HLW.out.cy.fz 6;have tf7:=HLW.out.cy.fz 7;have tf8:=HLW.out.cy.fz 8;have tl:=HLW.out.cy.lt;have y0:=Cd HE2.out 0 (.int .i64 ln) rfl;have f0:=Cd HLW.out.ft 0 (.int .i64 0) rfl;have f1:=Cd HLW.out.ft 1 (.int .i64 0) rfl;have ff0:=Ic HLW.out.ft 0;have ff1:=Ic HLW.out.ft 1;have fl:=(As.1 HLW.out.ft).1)
      |fail)
     all_goals
      clear e0 e1 e2 r0 r1 r2 r3 r4 r5 r6 r7 r8 HAT HH HKEY HMP KOB;obtain⟨rfl,hce,ho,hg⟩|⟨hne,hce⟩:=HQ.out
      ·have HLN:=Ac (iJ HL1.out HBW.out ho hg (by first|exact Ad _|(simp)) (HCK.out _ hce).1 (HCK.out _ hce).2);have HNEXT:Hid (RR=Jp (es.drop (k+1)) c2 rs):=by
        show _=_;rw[HALL.out,HST.out,hce]
       clear HALL HST HQ HL1 HB2 HBW HLW HE2 hce ho hg HCK;go_wp2_with fail;exact⟨⟨k+1,s,by omega,by go_num,rfl,rs,c2,a2,HLN.out,HNEXT.out,HRS.out⟩,by simp[intOf];omega⟩
      ·have hne3:(er != 0)=true:=by simpa using hne
       have HEE:Hid (LH ⟨ln,bl,p::wt⟩ c1 rs=.error er):=by show _=_;rw[HST.out,hce]
       have HFT:Hid ((((WN8 W2 w.heap.size a2 c2).setCell ⟨w.heap.size,8,none⟩ (.bool c2.sd))).heap[w.heap.size+1]?=some (.cells #[.int .i64 0,.int .i64 0] 50 (0,0))):=(Fw W2 w.heap.size _ _ _ _ _ _ _ _ _ _ (by omega)).trans HLW.out.ft;have HBN:Hid (Blw w ((WN8 W2 w.heap.size a2 c2).setCell ⟨w.heap.size,8,none⟩ (.bool c2.sd))):=Cv HLW.out.bel (Ad _) _ _ _ _ _ _ _ _ _;clear HST HQ HL1 HB2 HBW HLW HE2 hne hce HCK;go_wp2_with fail
       go_region_law (fail)
       all_goals
        go_wp2_with fail;have HZ:=Ac (Po (er:=er) (ln:=ln) HFT.out HBN.out);generalize (((WN9 W2 w.heap.size a2 c2).setCell ⟨w.heap.size+1,0,none⟩ (.int .i64 er)).setCell ⟨w.heap.size+1,1,none⟩ (.int .i64 ln)).drew=W9 at*;have z0:=HZ.out.1;have z1:=HZ.out.2.1;exact An (v:=.tuple #[.slice none 0 0,.agg #[.int .i64 er,.int .i64 ln]]) (by simp[AJ,NP,go_sem,z0,z1]) rfl ⟨⟨none,0,0⟩,er,ln,rfl,HZ.out.2.2,by
         rw[HALL.out,HEE.out];exact⟨rfl,rfl,rfl⟩⟩
   ·obtain⟨p,wt,hcons⟩:=Vx (e:=⟨ln,bl,ws⟩) (by rw[h0];decide);simp only at hcons;subst hcons;rw[h0]at HCH;have HH:Hid (Maps.has Pp (.string WD.data.toList)=true):=HCH.out.1;have HAT:=Ac HCH.out.2;have HST:Hid (LH ⟨ln,bl,p::wt⟩ c1 rs=match Ih 2 wt c1 with
      | .error er=>.error er
      | .ok c'=>.ok (c',rs)):=by
     have:=Yo (c:=c1) (rs:=rs) (e:=⟨ln,bl,p::wt⟩) (by rw[h0];decide);rw[h0]at this;exact this
    obtain⟨xwa,xwn,xwc⟩:=x;obtain⟨b5,o5,e5,-⟩:=HWS1.out.rd.head;simp only at e5;subst e5;have htl:=Qk HWS1.out;have hxn:=htl.1;subst hxn;have hxc:wt.length+1<=xwc:=HWS1.out.c;have hx63:xwc<=9223372036854775807:=HWS1.out.c63;have HTL:=Ac htl.2;have HKOB:Hid (∀x2:Sl,Ws W1 x2 wt->∀W,Blw W1 W->Ag Aa 86 #[.func (.func 125) #[] #[],.slice x2.a x2.n x2.c,caV a1 c1] W (CmP (Ih 2 wt c1) a1 c1 W)):=fun x2 hx2 W hW=>WZ x2 wt a1 c1 W (hx2.below hW) (fun W' s hs h'=>Vy s hs a1 c1 W' ((HE.out _ (HL1.out.bel.trans ((hW.trans (h'.mono hW.size)).mono HL1.out.bel.size))).2) ((HE.out _ (HL1.out.bel.trans ((hW.trans (h'.mono hW.size)).mono HL1.out.bel.size))).1))
    have HCK:=Ac (fun c' (h:Ih 2 wt c1=.ok c')=>We h HL1.out.rd.k);have HKK:Hid (nck c1.og=0):=HL1.out.rd.k;generalize Ih 2 wt c1=CE at*;generalize wt.length=L at*;clear HCH h0 P1 P2 P3 htl;have hone:(1:Int)<=(L:Int)+1:=by omega
    obtain⟨x2,hxs,hx2⟩:∃x2:Sl,(xwc=1->x2=⟨some ⟨b5,o5,none⟩,0,0⟩)/\Ws W1 x2 wt/\(xwc≠1->x2=⟨some ⟨b5,o5+2,none⟩,L,xwc - 1⟩):=by
     by_cases h1:xwc=1
     ·exact⟨⟨some ⟨b5,o5,none⟩,0,0⟩,fun _=>rfl,HTL.out.2 h1 _,fun h=>absurd h1 h⟩
     ·exact⟨⟨some ⟨b5,o5+2,none⟩,L,xwc - 1⟩,fun h=>absurd h h1,HTL.out.1 _ (by omega) (by omega),fun _=>rfl⟩
    have KOB:=Ac (HKOB.out x2 hx2.1);have HWX:Hid (xwc≠1->x2=⟨some ⟨b5,o5+2,none⟩,L,xwc - 1⟩):=hx2.2;clear HKOB hx2 HTL;by_cases hc1:xwc=1
    focus
     have:=hxs hc1;subst this;clear hxs HWX;have hL0:L=0:=by omega
     subst hc1;subst hL0
    rotate_left
    focus
     have:=HWX.out hc1;subst this;clear hxs HWX;have hx4:¬ xwc<=1:=by omega
     have hx5:¬ xwc - 1=0:=by omega
     have hx6:1<xwc:=by omega
    all_goals
     go_wp2_with (first
      |(refine PY _ rfl _ _ 125 rfl 9 128 QJ LC fnR (WT _) (.lit (.int .i64 0)) [] rfl m 2 Pp rfl HMP.out _ _ rfl HKEY.out ?_;intro u pu hu;rw[HAT.out]at hu;obtain rfl:=(Um (k:=2) hu).2.2 rfl;clear hu;rw[HH.out])
      |fail)
     go_region_with (first
      |(go_at_call 86;refine(KOB.out _ (by first|exact Ae _ _|exact(Ae _ _).drew)).mono ?_;rintro r W2 ⟨a2,c2,er,rfl,HB2,HQ⟩;have HBW:Hid (Blw W1 W2):=(by first|exact HB2.out|exact(Ae _ _).drew.trans HB2.out);have HLW:=Ac (HL1.out.below HBW.out);have HE2:=Ac ((HBW.out.block _ HSZ1.out).trans HE1.out);have t0:=HLW.out.cy.c0;have t1:=HLW.out.cy.c1;have t2:=HLW.out.cy.c2;have t3:=HLW.out.cy.c3;have t4:=HLW.out.cy.c4;have t5:=HLW.out.cy.c5;have t6:=HLW.out.cy.c6;have t7:=HLW.out.cy.c7;have t8:=HLW.out.cy.c8;have tf0:=HLW.out.cy.fz 0;have tf1:=HLW.out.cy.fz 1;have tf2:=HLW.out.cy.fz 2;have tf3:=HLW.out.cy.fz 3;have tf4:=HLW.out.cy.fz 4;have tf5:=HLW.out.cy.fz 5;have tf6:=HLW.out.cy.fz 6;have tf7:=HLW.out.cy.fz 7;have tf8:=HLW.out.cy.fz 8;have tl:=HLW.out.cy.lt;have y0:=Cd HE2.out 0 (.int .i64 ln) rfl;have f0:=Cd HLW.out.ft 0 (.int .i64 0) rfl;have f1:=Cd HLW.out.ft 1 (.int .i64 0) rfl;have ff0:=Ic HLW.out.ft 0;have ff1:=Ic HLW.out.ft 1;have fl:=(As.1 HLW.out.ft).1)
      |fail)
     all_goals
      clear e0 e1 e2 r0 r1 r2 r3 r4 r5 r6 r7 r8 HAT HH HKEY HMP KOB;obtain⟨rfl,hce,ho,hg⟩|⟨hne,hce⟩:=HQ.out
      ·have HLN:=Ac (iJ HL1.out HBW.out ho hg (by first|exact Ad _|(simp)) (HCK.out _ hce).1 (HCK.out _ hce).2);have HNEXT:Hid (RR=Jp (es.drop (k+1)) c2 rs):=by
        show _=_;rw[HALL.out,HST.out,hce]
       clear HALL HST HQ HL1 HB2 HBW HLW HE2 hce ho hg HCK;go_wp2_with fail;exact⟨⟨k+1,s,by omega,by go_num,rfl,rs,c2,a2,HLN.out,HNEXT.out,HRS.out⟩,by simp[intOf];omega⟩
      ·have hne3:(er != 0)=true:=by simpa using hne
       have HEE:Hid (LH ⟨ln,bl,p::wt⟩ c1 rs=.error er):=by show _=_;rw[HST.out,hce]
       have HFT:Hid ((((WN8 W2 w.heap.size a2 c2).setCell ⟨w.heap.size,8,none⟩ (.bool c2.sd))).heap[w.heap.size+1]?=some (.cells #[.int .i64 0,.int .i64 0] 50 (0,0))):=(Fw W2 w.heap.size _ _ _ _ _ _ _ _ _ _ (by omega)).trans HLW.out.ft;have HBN:Hid (Blw w ((WN8 W2 w.heap.size a2 c2).setCell ⟨w.heap.size,8,none⟩ (.bool c2.sd))):=Cv HLW.out.bel (Ad _) _ _ _ _ _ _ _ _ _;clear HST HQ HL1 HB2 HBW HLW HE2 hne hce HCK;go_wp2_with fail
       go_region_law (fail)
       all_goals
        go_wp2_with fail;have HZ:=Ac (Po (er:=er) (ln:=ln) HFT.out HBN.out);generalize (((WN9 W2 w.heap.size a2 c2).setCell ⟨w.heap.size+1,0,none⟩ (.int .i64 er)).setCell ⟨w.heap.size+1,1,none⟩ (.int .i64 ln)).drew=W9 at*;have z0:=HZ.out.1;have z1:=HZ.out.2.1;exact An (v:=.tuple #[.slice none 0 0,.agg #[.int .i64 er,.int .i64 ln]]) (by simp[AJ,NP,go_sem,z0,z1]) rfl ⟨⟨none,0,0⟩,er,ln,rfl,HZ.out.2.2,by
         rw[HALL.out,HEE.out];exact⟨rfl,rfl,rfl⟩⟩
  ·have hkn:k=n:=by omega
   subst hkn;have HFT:=Ac hlp.ft;have HBN:=Ac hlp.bel;have HRR:Hid (OwR w.heap.size wr (.slice s.a s.n s.c) rs):=hlp.rr.mono (by omega);have HALL:Hid (Jp es c []=.ok rs):=by
    show _=_;rw[hall,DH (by have:=HN.out;omega)]
    rfl
   have f0:=Cd HFT.out 0 (.int .i64 0) rfl;have f1:=Cd HFT.out 1 (.int .i64 0) rfl;have ff0:=Ic HFT.out 0;have ff1:=Ic HFT.out 1;have fl:=(As.1 HFT.out).1;have HZ:=Ac (qQ HFT.out HBN.out hlp.rr);clear hlp hall hrs HLP HRR;go_wp2_with fail;rw[HALL.out];generalize ((wr.setCell ⟨w.heap.size+1,0,none⟩ (.int .i64 0)).setCell ⟨w.heap.size+1,1,none⟩ (.int .i64 0))=W9 at*;have z0:=HZ.out.1;have z1:=HZ.out.2.1;exact An (v:=.tuple #[.slice s.a s.n s.c,.agg #[.int .i64 0,.int .i64 0]]) (by simp[AJ,NP,go_sem,z0,z1]) rfl ⟨s,0,0,rfl,HZ.out.2.2.1,⟨rfl,rfl,HZ.out.2.2.2,HRS.out⟩⟩
theorem oW(p:Wd):p.1.size<=(GH p).length:=by
 obtain⟨s,q⟩:=p;cases q <;> simp[GH] <;> omega
theorem Nt:∀(l:List Nat) (x:Nat),x∈l->x<=l.sum
 |[],x,h=>by cases h
 |a::l,x,h=>by
  obtain h|h:=Ax.1 h
  ·subst h;simp
  ·have:=Nt l x h;simp;omega
theorem oU{s:List UInt8}{es:List En}(h:Fa s=.ok es):∀e∈es,WB e.ws:=by
 intro e he;have h1:=pD h;have h2:s.length<=65536:=by
  unfold Fa at h;split at h
  ·cases h
  ·omega
 refine⟨by have:=(h1.1 e he).2.1;omega,fun p hp=>?_⟩;have a1:=oW p;have a2:(GH p).length<=MR e.ws:=Nt _ _ (AY.2 ⟨p,hp,rfl⟩);have a3:MR e.ws<=MT es:=Nt _ _ (AY.2 ⟨e,he,rfl⟩);omega
theorem eP{s:List UInt8}{e l:Nat}(h:Fa s=.er e l):e≠0:=by
 by_cases hl:s.length<=65536
 ·obtain h|h:=(Yp hl h).1 <;> omega
 ·unfold Fa at h;rw[if_pos (by omega)]at h;cases h;decide
theorem Zc{w V:Ab}{er ln e0 l0:Int}(hf:V.heap[w.heap.size]?=some (.cells #[.int .i64 e0,.int .i64 l0] 50 (0,0)))(hb:Blw w V):((V.setCell ⟨w.heap.size,0,none⟩ (.int .i64 er)).setCell ⟨w.heap.size,1,none⟩ (.int .i64 ln)).cell? ⟨w.heap.size,0,none⟩=some (.int .i64 er)/\((V.setCell ⟨w.heap.size,0,none⟩ (.int .i64 er)).setCell ⟨w.heap.size,1,none⟩ (.int .i64 ln)).cell? ⟨w.heap.size,1,none⟩=some (.int .i64 ln)/\Blw w ((V.setCell ⟨w.heap.size,0,none⟩ (.int .i64 er)).setCell ⟨w.heap.size,1,none⟩ (.int .i64 ln))/\(∀B v rs,w.heap.size<B->OwR B V v rs->OwR w.heap.size ((V.setCell ⟨w.heap.size,0,none⟩ (.int .i64 er)).setCell ⟨w.heap.size,1,none⟩ (.int .i64 ln)) v rs):=by
 have h1:=AD hf 0 (.int .i64 er);have h2:=AD h1 1 (.int .i64 ln);have h3:((V.setCell ⟨w.heap.size,0,none⟩ (.int .i64 er)).setCell ⟨w.heap.size,1,none⟩ (.int .i64 ln)).heap[w.heap.size]?=some (.cells #[.int .i64 er,.int .i64 ln] 50 (0,0)):=h2;have h4:=(hb.setCell (p:=⟨w.heap.size,0,none⟩) (Ad _) (.int .i64 er)).setCell (p:=⟨w.heap.size,1,none⟩) (Ad _) (.int .i64 ln);have h0:=((Ae 0 V).setCell (p:=⟨w.heap.size,0,none⟩) (Aw _) (.int .i64 er)).setCell (p:=⟨w.heap.size,1,none⟩) (Aw _) (.int .i64 ln);have hh:∀j,j≠w.heap.size->((V.setCell ⟨w.heap.size,0,none⟩ (.int .i64 er)).setCell ⟨w.heap.size,1,none⟩ (.int .i64 ln)).heap[j]?=V.heap[j]?:=fun j hj=>(Ar _ _ _ j (by show j≠w.heap.size;exact hj)).trans (Ar _ _ _ j (by show j≠w.heap.size;exact hj))
 exact⟨Cd h3 0 _ rfl,Cd h3 1 _ rfl,h4,fun B v rs hB hr=>(hr.keep2 h0.size ⟨h0.os,h0.tape,h0.output⟩ (fun j e1 e2=>hh j (by omega)) w.heap.size hB (fun j e1 e2=>hh j e2)).mono (by omega)⟩
theorem Xn(t:ByteArray)(oa:Option Addr)(on oc:Nat)(og:List ByteArray)(w:Ab)(ho:Nm w oa on og)(hE:Cc w)(hL:Bk w):Ag Aa 20 #[.string t,.slice oa on oc] w (AlP (Mc t og) w):=by
 have KN:=Ac (fun W (hW:Blw w W)=>Gy oc (ho.below hW));have HE:Hid (∀W,Blw w W->Bk W/\Cc W/\Nm W oa on og):=fun W hW=>⟨hL.below hW,hE.below hW,ho.below hW⟩
 have HW1:Hid (Blw w (w.alloc (.cells #[.int .i64 0,.int .i64 0] 50))/\(w.alloc (.cells #[.int .i64 0,.int .i64 0] 50)).heap[w.heap.size]?=some (.cells #[.int .i64 0,.int .i64 0] 50 (0,0))):=⟨Ah _ _,Au _ _⟩;have KN1:=Ac (KN.out _ HW1.out.1);clear ho hE hL KN;by_cases hk:nck og=0
 ·rw[hk]at KN1;have KE:=Ac (aE t (w.alloc (.cells #[.int .i64 0,.int .i64 0] 50)));have HM:Hid (Mc t og=match Fa t.data.toList with
   | .er e l=>.er e l
   | .ok es=>Jp es (cy0 og) []):=by
   show _=_;unfold Mc;rw[if_pos hk];cases Fa t.data.toList <;> rfl
  have HERE:Hid (∀e l,Fa t.data.toList=.er e l->e≠0):=fun e l h=>eP h
  have HWBE:Hid (∀es,Fa t.data.toList=.ok es->∀e∈es,WB e.ws):=fun es h=>oU h
  have HKK:=Ac hk;generalize Mc t og=R at*;generalize Fa t.data.toList=RE at*;clear hk;go_enter Tryz.func20,Tryz.ntmps20;go_wp2_with fail;refine KN1.out.mono ?_;rintro r w1 ⟨rfl,rfl⟩;go_wp2_with fail;refine KE.out.mono ?_;rintro r W2 ⟨v,ea,eb,rfl,HQ⟩;clear KN1 KE;cases RE with
  |er e1 l1=>
   obtain⟨hv,ha,hb,hbel⟩:v=.slice none 0 0/\ea=e1/\eb=l1/\Below (w.alloc (.cells #[.int .i64 0,.int .i64 0] 50)).heap.size (w.alloc (.cells #[.int .i64 0,.int .i64 0] 50)) W2:=HQ.out;subst hv;subst ha;subst hb;have HB2:=Ac hbel;have hne:=HERE.out ea eb rfl;have hne1:¬ (ea:Int)=0:=by omega
   have hne2:((ea:Int) != 0)=true:=by simpa using hne1
   have gl:w.heap.size<W2.heap.size:=by have:=HB2.out.size;simp at this;omega
   have HFT:Hid (W2.heap[w.heap.size]?=some (.cells #[.int .i64 0,.int .i64 0] 50 (0,0))):=(HB2.out.block _ (by simp)).trans HW1.out.2;have HBN:Hid (Blw w W2):=HW1.out.1.trans (HB2.out.mono HW1.out.1.size);have HP:=Ac (Zc (er:=(ea:Int)) (ln:=(eb:Int)) HFT.out HBN.out);have HMM:=Ac HM.out;have gne:¬ w.heap.size=W2.heap.size:=by omega
   have gne2:¬ W2.heap.size=w.heap.size:=by omega
   have HU:Hid (w.heap.size<((W2.setCell ⟨w.heap.size,0,none⟩ (.int .i64 (ea:Int))).setCell ⟨w.heap.size,1,none⟩ (.int .i64 (eb:Int))).heap.size):=by have:=HP.out.2.2.1.size;show _<_;simp[Dq];exact gl
   clear HQ hbel HW1 HWBE HERE HM HE HKK HB2;have f0:=Cd HFT.out 0 (.int .i64 0) rfl;have f1:=Cd HFT.out 1 (.int .i64 0) rfl;have ff0:=Ic HFT.out 0;have ff1:=Ic HFT.out 1;go_wp2_with fail
   go_region_law (fail)
   all_goals
    go_wp2_with fail;generalize ((W2.setCell ⟨w.heap.size,0,none⟩ (.int .i64 (ea:Int))).setCell ⟨w.heap.size,1,none⟩ (.int .i64 (eb:Int)))=U at*;have z0:=((Ah U (.cells #[.int .i64 (ea:Int),.int .i64 (eb:Int)] 50)).cell (p:=⟨w.heap.size,0,none⟩) HU.out).trans HP.out.1;have z1:=((Ah U (.cells #[.int .i64 (ea:Int),.int .i64 (eb:Int)] 50)).cell (p:=⟨w.heap.size,1,none⟩) HU.out).trans HP.out.2.1;have HBF:Hid (Blw w (U.alloc (.cells #[.int .i64 (ea:Int),.int .i64 (eb:Int)] 50)).drew):=(HP.out.2.2.1.trans ((Ah U _).mono HP.out.2.2.1.size)).drew;exact An (v:=.tuple #[.slice none 0 0,.agg #[.int .i64 (ea:Int),.int .i64 (eb:Int)]]) (by simp[AJ,NQ,go_sem,z0,z1]) rfl ⟨⟨none,0,0⟩,ea,eb,rfl,HBF.out,by
     rw[HMM.out];exact⟨rfl,rfl,rfl⟩⟩
  |ok es=>
   obtain⟨ha,hb,how,hbel⟩:ea=0/\eb=0/\OwE (w.alloc (.cells #[.int .i64 0,.int .i64 0] 50)).heap.size W2 v es/\Below (w.alloc (.cells #[.int .i64 0,.int .i64 0] 50)).heap.size (w.alloc (.cells #[.int .i64 0,.int .i64 0] 50)) W2:=HQ.out;subst ha;subst hb;obtain⟨xa,xc,rfl,hrd,hc1,hc2⟩:=how.rd;have HRD:=Ac hrd;have HB2:=Ac hbel;have HBN:Hid (Blw w W2):=HW1.out.1.trans (HB2.out.mono HW1.out.1.size);have HBB:Hid (Blw w (W2.alloc (.cells #[.int .i64 0,.int .i64 0] 50))):=HBN.out.trans ((Ah W2 _).mono HBN.out.size);have HFT:Hid ((W2.alloc (.cells #[.int .i64 0,.int .i64 0] 50)).heap[w.heap.size]?=some (.cells #[.int .i64 0,.int .i64 0] 50 (0,0))):=by
    have h1:w.heap.size<W2.heap.size:=by have:=HB2.out.size;simp at this;omega
    exact((Ah W2 _).block _ h1).trans ((HB2.out.block _ (by simp)).trans HW1.out.2)
   have HMM:Hid (R=Jp es (cy0 og) []):=HM.out;have KA:=Ac (Wh ⟨xa,es.length,xc⟩ es ⟨⟨oa,on,oc⟩,⟨none,0,0⟩⟩ (cy0 og) (W2.alloc (.cells #[.int .i64 0,.int .i64 0] 50)) (HRD.out.below (Ah W2 _)) rfl hc1 hc2 (HWBE.out es rfl) ⟨(HE.out _ HBB.out).2.2,tG _ _,HKK.out⟩ EA (HE.out _ HBB.out).2.1 (HE.out _ HBB.out).1);rw[<- HMM.out]at KA;clear HQ how hbel hrd HM HE HWBE HERE HRD HB2 HW1 HKK HMM;go_wp2_with fail;refine KA.out.mono ?_;rintro r W3 ⟨s',er,ln,rfl,HB3,HQ3⟩;have HFT3:Hid (W3.heap[w.heap.size]?=some (.cells #[.int .i64 0,.int .i64 0] 50 (0,0))):=(HB3.out.block _ (As.1 HFT.out).1).trans HFT.out;have HBN3:Hid (Blw w W3):=HBB.out.trans (HB3.out.mono HBB.out.size);have HP:=Ac (Zc (er:=er) (ln:=ln) HFT3.out HBN3.out);have HBZ:Hid (w.heap.size<(W2.alloc (.cells #[.int .i64 0,.int .i64 0] 50)).heap.size):=(As.1 HFT.out).1;have f0:=Cd HFT3.out 0 (.int .i64 0) rfl;have f1:=Cd HFT3.out 1 (.int .i64 0) rfl;have ff0:=Ic HFT3.out 0;have ff1:=Ic HFT3.out 1;have fl:=(As.1 HFT3.out).1;clear KA HB3 HFT HBB HBN;go_wp2_with fail;generalize ((W3.setCell ⟨w.heap.size,0,none⟩ (.int .i64 er)).setCell ⟨w.heap.size,1,none⟩ (.int .i64 ln))=U at*;have z0:=HP.out.1;have z1:=HP.out.2.1;exact An (v:=.tuple #[.slice s'.a s'.n s'.c,.agg #[.int .i64 er,.int .i64 ln]]) (by simp[AJ,NQ,go_sem,z0,z1]) rfl ⟨s',er,ln,rfl,HP.out.2.2.1,by
    cases R with
    |er e1 l1=>exact HQ3.out
    |ok rs=>exact⟨HQ3.out.1,HQ3.out.2.1,HP.out.2.2.2 _ _ _ HBZ.out HQ3.out.2.2.1,HQ3.out.2.2.2⟩⟩
 ·have hk2:(nck og != 0)=true:=by simpa using hk
  have HM:Hid (Mc t og=.er (nck og) 0):=by
   show _=_;unfold Mc;rw[if_neg hk]
  rw[HM.out];generalize nck og=q at*;have HB0:Hid (∀o:Obj,Blw w (w.alloc o)):=fun o=>Ah w o
  clear HW1 hk HM HE;go_enter Tryz.func20,Tryz.ntmps20;go_wp2_with fail;refine KN1.out.mono ?_;rintro r w1 ⟨rfl,rfl⟩;go_wp2_with fail;exact An (v:=.tuple #[.slice none 0 0,.agg #[.int .i64 q,.int .i64 0]]) (by simp[AJ,NQ,go_sem]) rfl ⟨⟨none,0,0⟩,q,0,rfl,HB0.out _,⟨rfl,rfl,rfl⟩⟩
theorem PH(t:ByteArray)(oa:Option Addr)(on oc:Nat)(og:List ByteArray)(w:Ab)(ho:Nw w oa on og)(hE:Cc w)(hL:Bk w):Ag Aa 20 #[.string t,.slice oa on oc] w (AlP (Mc t og) w):=by
 by_cases hk:nck og=0
 ·exact Xn t oa on oc og w (ho.nm hk) hE hL
 ·have KN1:=Ac (TV oc (ho.below (Ah w (.cells #[.int .i64 0,.int .i64 0] 50))));have hk2:(nck og != 0)=true:=by simpa using hk
  have HM:Hid (Mc t og=.er (nck og) 0):=by
   show _=_;unfold Mc;rw[if_neg hk]
  rw[HM.out];generalize nck og=q at*;have HB0:Hid (∀o:Obj,Blw w (w.alloc o)):=fun o=>Ah w o
  clear ho hk HM hE hL;go_enter Tryz.func20,Tryz.ntmps20;go_wp2_with fail;refine KN1.out.mono ?_;rintro r w1 ⟨rfl,rfl⟩;go_wp2_with fail;exact An (v:=.tuple #[.slice none 0 0,.agg #[.int .i64 q,.int .i64 0]]) (by simp[AJ,NQ,go_sem]) rfl ⟨⟨none,0,0⟩,q,0,rfl,HB0.out _,⟨rfl,rfl,rfl⟩⟩
theorem tN(oa ba:Option Addr)(on oc bn bc:Nat)(og ot:List ByteArray)(x:Sl)(rs:List Rec)(w:Ab)(h1:TRd w ⟨oa,on,oc⟩ og)(h2:TRd w ⟨ba,bn,bc⟩ ot)(hl:LRd w x rs)(hrt:∀r∈rs,RtB r)(hL:Bk w)(hE:Cc w) :
  Ag Aa 4 #[.slice oa on oc,.slice ba bn bc,.slice x.a x.n x.c] w fun e w'=>e=.returned (.bool true)/\Hid (Below w.heap.size w w'):=by
 have K7:=Ac (oO w hL);have HLAY:Hid (∀W,Below w.heap.size w W->Bk W/\Cc W):=fun W hW=>⟨hL.below hW,hE.below hW⟩
 have KLG:=Ac (fun W (hW:Below w.heap.size w W)=>Xx x rs W (hl.below hW));have KFW:=Ac (fun W (hW:Below w.heap.size w W)=>aL x rs W (hl.below hW));have HLL:=Ac hl;have HRT:=Ac hrt;have H12:Hid (∀W,Below w.heap.size w W->TRd W ⟨oa,on,oc⟩ og/\TRd W ⟨ba,bn,bc⟩ ot):=fun W hW=>⟨h1.below hW,h2.below hW⟩
 have hlen:rs.length=x.n:=hl.len;have h63:x.n<=9223372036854775807:=hl.n63;have HFEW:Hid (Wi rs=true->∀r∈rs,r.d.ts.length<=55):=tA;obtain⟨xa,xn,xc⟩:=x;simp only at KLG KFW hlen h63 ⊢;have HLEN:=Ac hlen;generalize Wi rs=FB at*;clear hl hrt h1 h2 hL hE hlen;go_enter Tryz.func4,Tryz.ntmps4;go_wp2_with fail;refine K7.out.mono ?_;rintro e w1 ⟨rfl,H1⟩;go_wp2_with fail;refine(KLG.out w1 H1.out).mono ?_;rintro e w2 ⟨bb,rfl,hsm,hb2⟩;have HB2:=Ac (H1.out.trans (hb2.out.mono H1.out.size));have HSM:=Ac hsm.out;clear hsm hb2 H1 K7 KLG;cases bb with
 |true=>
  go_wp2_with fail;go_ret;exact⟨rfl,HB2.out⟩
 |false=>
 have HS:Hid ((∀r∈rs,FwR r)/\rs.length<=40):=HSM.out rfl;clear HSM;go_wp2_with fail;refine(KFW.out w2 HB2.out).mono ?_;rintro e w3 ⟨rfl,rfl⟩;clear KFW;cases FB with
 |false=>
  go_wp2_with fail;go_ret;exact⟨rfl,HB2.out⟩
 |true=>
 have HF5:Hid (∀r∈rs,r.d.ts.length<=55):=HFEW.out rfl;clear HFEW;by_cases hA:200<on
 ·have hA':(200:Int)<(on:Int):=by omega
  go_wp2_with fail;go_ret;exact⟨rfl,HB2.out⟩
 have hA':¬ (200:Int)<(on:Int):=by omega
 by_cases hB:200<bn
 ·have hB':(200:Int)<(bn:Int):=by omega
  go_wp2_with fail;go_ret;exact⟨rfl,HB2.out⟩
 have hB':¬ (200:Int)<(bn:Int):=by omega
 have HNW:Hid (∀W,Below w.heap.size w W->Nw W ba bn ot):=fun W hW=>⟨(H12.out W hW).2.rd,(H12.out W hW).2.len,by omega,(H12.out W hW).2.z63⟩
 have KCK:=Ac (TV bc (HNW.out w3 HB2.out));go_wp2_with fail;refine KCK.out.mono ?_;rintro e w4 ⟨rfl,rfl⟩;by_cases hk:nck ot=0
 case neg=>
  have hq:(nck ot != 0)=true:=bne_iff_ne.2 hk;generalize nck ot=q at*;go_wp2_with fail;go_ret;exact⟨rfl,HB2.out⟩
 rw[hk];clear KCK;have hPI:∀r∈rs,PrI r:=fun r hr=>tO (HRT.out r hr) (HS.out.1 r hr) (HF5.out r hr)
 have hIN:∀r∈rs,InR r:=fun r hr=>sF (HRT.out r hr) (HS.out.1 r hr) (HF5.out r hr)
 have KTX:=Ac (Ty oa on oc og ⟨xa,xn,xc⟩ rs w4 (H12.out w4 HB2.out).1 (by omega) (HLL.out.below HB2.out) hPI (HLAY.out w4 HB2.out).1);simp only at KTX;by_cases he:(DW og rs).2=0
 case neg=>
  rw[gS he]at KTX;have hq:((DW og rs).2 != 0)=true:=bne_iff_ne.2 he;replace KTX:Hid (Ag Aa 9 #[.slice oa on oc,.slice xa xn xc] w4 fun e w'=>e=.returned (.tuple #[.string ⟨#[]⟩,.int .i64 (DW og rs).2])/\Hid (Below w4.heap.size w4 w')):=KTX;generalize (DW og rs).2=q at*;clear hPI hIN;go_wp2_with fail;refine KTX.out.mono ?_;rintro e w5 ⟨rfl,H5⟩;have HB5:=Ac (HB2.out.trans (H5.out.mono HB2.out.size));go_wp2_with fail;go_ret;exact⟨rfl,HB5.out⟩
 rw[he]at KTX;have HBK:=Ac (XR (other:=ot) (t:=⟨(DW og rs).1.toArray⟩) he hIN hk (by simp));obtain⟨TX,hTX⟩:∃TX:ByteArray,(⟨(DW og rs).1.toArray⟩:ByteArray)=TX:=⟨_,rfl⟩;rw[hTX]at KTX HBK;have HWR:Hid (∀r∈rs,Dc r=0):=(Wv he).2.2.1;have KPA:=Ac (fun W (hW:Below w.heap.size w W)=>(by
  have h:=PH TX ba bn bc ot W (HNW.out W hW) (HLAY.out W hW).2 (HLAY.out W hW).1;rw[HBK.out.1]at h;exact h:Ag Aa 20 #[.string TX,.slice ba bn bc] W (AlP (.ok rs) W)))
 have KLI:Hid (∀r∈rs,∀(xr:RA) W,Below w.heap.size w W->RRd W xr r->Ag Aa 13 #[.agg (AV xr r).toArray] W fun e w'=>e=.returned (.tuple #[.string ⟨(DM r).toArray⟩,.int .i64 0])/\Hid (Below W.heap.size W w')):=fun r hr xr W hW hxr=>by
  have hpi:=hPI r hr;have hw0:=HWR.out r hr;have h:=Xr xr r W hxr (by have h1:=hxr.1.len;have h2:=hpi.o;omega) hpi.b (HLAY.out W hW).1 hpi.t hpi.cl hpi.tt hpi.wl (by have:=hpi.z hw0;omega);have e:Hz r=(DM r,0):=by unfold Hz;rw[if_pos hw0]
  rw[e]at h;exact h
 have KPL:Hid (∀r∈rs,∀W,Below w.heap.size w W->Ag Aa 20 #[.string ⟨(DM r).toArray⟩,.slice ba bn bc] W (AlP (.ok [r]) W)):=fun r hr W hW=>by
  have h:=PH ⟨(DM r).toArray⟩ ba bn bc ot W (HNW.out W hW) (HLAY.out W hW).2 (HLAY.out W hW).1;have e:Hz r=(DM r,0):=by unfold Hz;rw[if_pos (HWR.out r hr)]
  rw[((HBK.out.2 r hr).2.2 ⟨(DM r).toArray⟩ (by rw[e]))]at h;exact h
 have HCT:Hid (∀r∈rs,Lib.countByte (DM r) 10=1):=fun r hr=>by
  have e:Hz r=(DM r,0):=by unfold Hz;rw[if_pos (HWR.out r hr)]
  have:=(HBK.out.2 r hr).2.1;rw[e]at this;exact this
 clear hPI hIN he hTX HBK HWR HS HF5 HRT;have hq0:∀W,(binOp .neq 50 (.agg #[.int .i64 0,.int .i64 0]) (.agg #[.int .i64 0,.int .i64 0])).run Aa W=.ok (.bool false) W:=fun W=>by rw[sY];rfl
 go_wp2_with fail;refine KTX.out.mono ?_;rintro e w5 ⟨rfl,H5⟩;have HB5:=Ac (HB2.out.trans (H5.out.mono HB2.out.size));clear H5 KTX HB2;go_wp2_with fail;refine(KPA.out w5 HB5.out).mono ?_;rintro e w6 ⟨⟨ya,yn,yc⟩,er,ln,rfl,HB6,HQ⟩;obtain⟨rfl,rfl,how,hlen2⟩:=HQ.out;have HB7:Hid (Below w.heap.size w (w6.alloc (.cells #[.int .i64 0,.int .i64 0] 50))):=HB5.out.trans ((HB6.out.trans ((Ah _ _).mono HB6.out.size)).mono HB5.out.size);have K15:Hid (kY 15 (w6.alloc (.cells #[.int .i64 0,.int .i64 0] 50)) (.slice ya yn yc) (.slice xa xn xc)):=gX (x:=⟨ya,yn,yc⟩) (y:=⟨xa,xn,xc⟩) (how.lrd.below (Ah _ _)) (HLL.out.below HB7.out);clear how hlen2 HQ HB6 HB5 KPA;go_wp2_with fail;refine(K15.out _ (Ae _ _)).mono ?_;rintro e w8 ⟨rfl,hb8⟩;have HB8:Hid (Below w.heap.size w w8):=HB7.out.trans (hb8.mono HB7.out.size);clear hb8 HB7 K15;go_wp2_with fail;go_loopw [12] (fun v wr=>∃k:Nat,k<=xn/\v=.int .i64 (k:Int)/\Hid (Below w.heap.size w wr)) (fun v _=>xn - (intOf v).toNat)
 case atStart=>exact⟨0,Aw _,rfl,HB8.out⟩
 case round=>
  clear HB8;obtain⟨k,hk2,rfl,HB⟩:=hrel;by_cases hlt:k<xn
  ·have hlt':(k:Int)<(xn:Int):=by omega
   have hkr:k<rs.length:=by rw[HLEN.out];exact hlt
   obtain⟨lb,lo,hla,hll,x,hx0,hxr0⟩:=HLL.out.rd.at k hkr;simp only at hla;subst hla;have HCX:Hid (∀W,Below w.heap.size w W->∀j,j<8->W.cell? ⟨lb,lo+k*8+j,none⟩=(AV x rs[k])[j]?):=fun W hW j hj=>(hW.cell (p:=⟨lb,lo+k*8+j,none⟩) hll).trans (hx0 j hj)
   obtain⟨r,hrk⟩:∃r,rs[k]=r:=⟨_,rfl⟩;have hrm:r∈rs:=by rw[<- hrk];exact AU hkr
   rw[hrk]at HCX hxr0;have KLN:=Ac (KLI.out r hrm x wr HB.out (hxr0.below HB.out));have KPR:=Ac (KPL.out r hrm);have HC1:=Ac (HCT.out r hrm);have HXR:=Ac hxr0;have hll2:lb<wr.heap.size:=Ap hll HB.out.size;have HLL2:=Ac hll;have KCT:=Ac (fun W=>Tryz.strings_Count_one ⟨(DM r).toArray⟩ 10 W);have hc1':Lib.countByte (⟨(DM r).toArray⟩:ByteArray).data.toList 10=1:=by simpa using HC1.out
   rw[hc1']at KCT;have KSM:=Ac (fun(y:RA) W (hy:RRd W y r) (hx:RRd W x r)=>Yq y x r W hy hx);generalize DM r=LP at*;obtain⟨⟨oa1,on1,oc1⟩,⟨⟨a1,n1,k1⟩,⟨a2,n2,k2⟩,⟨a3,n3,k3⟩,⟨a4,n4,k4⟩⟩⟩:=x;obtain⟨ow,t,cl,tt,d⟩:=r;have c0:wr.cell? ⟨lb,lo+k*8,none⟩=some (.slice oa1 on1 oc1):=HCX.out wr HB.out 0 (by omega);have c1:wr.cell? ⟨lb,lo+k*8+1,none⟩=some (.int .u16 (t:Int)):=HCX.out wr HB.out 1 (by omega);have c2:wr.cell? ⟨lb,lo+k*8+2,none⟩=some (.int .u16 (cl:Int)):=HCX.out wr HB.out 2 (by omega);have c3:wr.cell? ⟨lb,lo+k*8+3,none⟩=some (.int .u32 (tt:Int)):=HCX.out wr HB.out 3 (by omega);have c4:wr.cell? ⟨lb,lo+k*8+4,none⟩=some (.slice a1 n1 k1):=HCX.out wr HB.out 4 (by omega);have c5:wr.cell? ⟨lb,lo+k*8+5,none⟩=some (.slice a2 n2 k2):=HCX.out wr HB.out 5 (by omega);have c6:wr.cell? ⟨lb,lo+k*8+6,none⟩=some (.slice a3 n3 k3):=HCX.out wr HB.out 6 (by omega);have c7:wr.cell? ⟨lb,lo+k*8+7,none⟩=some (.slice a4 n4 k4):=HCX.out wr HB.out 7 (by omega);replace KLN:Hid (Ag Aa 13 #[.agg #[.slice oa1 on1 oc1,.int .u16 (t:Int),.int .u16 (cl:Int),.int .u32 (tt:Int),.slice a1 n1 k1,.slice a2 n2 k2,.slice a3 n3 k3,.slice a4 n4 k4]] wr fun e w'=>e=.returned (.tuple #[.string ⟨LP.toArray⟩,.int .i64 0])/\Hid (Below wr.heap.size wr w')):=KLN;clear hx0 hxr0 hrk hrm hc1' HC1 hll;go_wp2_with fail;refine KLN.out.mono ?_;rintro e w9 ⟨rfl,H9⟩;have HB9:=Ac (HB.out.trans (H9.out.mono HB.out.size));clear c0 c1 c2 c3 c4 c5 c6 c7 hll2 H9 KLN;go_wp2_with fail;refine(KPR.out w9 HB9.out).mono ?_
   rintro e w10 ⟨⟨ya2,yn2,yc2⟩,er2,ln2,rfl,HB10,HQ⟩;obtain⟨rfl,rfl,how,-⟩:=HQ.out;obtain⟨ya3,yc3,hye,hyr,-,-,-⟩:=how.rd;simp only[Value.slice.injEq,AP,CZ]at hye;obtain⟨rfl,rfl,rfl⟩:=hye;obtain⟨yb,yo,rfl,hyl,y,hy0,hyr0⟩:=hyr.at 0 (by simp);simp only[List.getElem_cons_zero]at hy0 hyr0;have HB11:Hid (Below w.heap.size w (w10.alloc (.cells #[.int .i64 0,.int .i64 0] 50))):=HB9.out.trans ((HB10.out.trans ((Ah _ _).mono HB10.out.size)).mono HB9.out.size);have HYR:=Ac (hyr0.below (Ah w10 (.cells #[.int .i64 0,.int .i64 0] 50)));have HXR2:=Ac (HXR.out.below HB11.out);have hfb:(w10.alloc (.cells #[.int .i64 0,.int .i64 0] 50)).heap[w10.heap.size]?=some (.cells #[.int .i64 0,.int .i64 0] 50):=Au _ _;have HFB2:=Ac hfb;have HY0:Hid (∀V,Below (w10.alloc (.cells #[.int .i64 0,.int .i64 0] 50)).heap.size (w10.alloc (.cells #[.int .i64 0,.int .i64 0] 50)) V->∀j,j<8->V.cell? ⟨yb,yo+0*8+j,none⟩=(AV y ⟨ow,t,cl,tt,d⟩)[j]?):=fun V hV j hj=>((hV.cell (p:=⟨yb,yo+0*8+j,none⟩) (Ap hyl (Ah w10 _).size)).trans ((Ah w10 (.cells #[.int .i64 0,.int .i64 0] 50)).cell (p:=⟨yb,yo+0*8+j,none⟩) hyl)).trans (hy0 j hj)
   have hyl2:yb<(w10.alloc (.cells #[.int .i64 0,.int .i64 0] 50)).heap.size:=Ap hyl (Ah w10 _).size;have hll3:lb<(w10.alloc (.cells #[.int .i64 0,.int .i64 0] 50)).heap.size:=Ap HLL2.out HB11.out.size;have hfl:=Cs hfb;have KSR:Hid (∀V,Below (w10.alloc (.cells #[.int .i64 0,.int .i64 0] 50)).heap.size (w10.alloc (.cells #[.int .i64 0,.int .i64 0] 50)) V->Ag Aa 21 #[.agg (AV y ⟨ow,t,cl,tt,d⟩).toArray,.agg #[.slice oa1 on1 oc1,.int .u16 (t:Int),.int .u16 (cl:Int),.int .u32 (tt:Int),.slice a1 n1 k1,.slice a2 n2 k2,.slice a3 n3 k3,.slice a4 n4 k4]] V fun e w'=>e=.returned (.bool true)/\Below V.heap.size V w'):=fun V hV=>KSM.out y V (HYR.out.below hV) (HXR2.out.below hV)
   obtain⟨⟨oa2,on2,oc2⟩,⟨⟨b1,m1,h1⟩,⟨b2,m2,h2⟩,⟨b3,m3,h3⟩,⟨b4,m4,h4⟩⟩⟩:=y;clear hy0 hyr0 hyr how HQ HB10 HXR HXR2 HYR hyl KSM;replace KSR:Hid (∀V,Below (w10.alloc (.cells #[.int .i64 0,.int .i64 0] 50)).heap.size (w10.alloc (.cells #[.int .i64 0,.int .i64 0] 50)) V->Ag Aa 21 #[.agg #[.slice oa2 on2 oc2,.int .u16 (t:Int),.int .u16 (cl:Int),.int .u32 (tt:Int),.slice b1 m1 h1,.slice b2 m2 h2,.slice b3 m3 h3,.slice b4 m4 h4],.agg #[.slice oa1 on1 oc1,.int .u16 (t:Int),.int .u16 (cl:Int),.int .u32 (tt:Int),.slice a1 n1 k1,.slice a2 n2 k2,.slice a3 n3 k3,.slice a4 n4 k4]] V fun e w'=>e=.returned (.bool true)/\Below V.heap.size V w'):=KSR
   go_upto_region 15 with fail
   obtain⟨fb,hfbe⟩:∃fb,w10.heap.size=fb:=⟨_,rfl⟩;rw[hfbe]at HFB2 hfl hfb ⊢;clear hfbe;generalize w10.alloc (.cells #[.int .i64 0,.int .i64 0] 50)=wa at*;have KS:∀V,Below wa.heap.size wa V->V.cell? ⟨fb,0,none⟩=some (.int .i64 0)/\V.cell? ⟨fb,1,none⟩=some (.int .i64 0)/\V.cell? ⟨yb,yo,none⟩=some (.slice oa2 on2 oc2)/\V.cell? ⟨yb,yo+1,none⟩=some (.int .u16 (t:Int))/\V.cell? ⟨yb,yo+2,none⟩=some (.int .u16 (cl:Int))/\V.cell? ⟨yb,yo+3,none⟩=some (.int .u32 (tt:Int))/\V.cell? ⟨yb,yo+4,none⟩=some (.slice b1 m1 h1)/\V.cell? ⟨yb,yo+5,none⟩=some (.slice b2 m2 h2)/\V.cell? ⟨yb,yo+6,none⟩=some (.slice b3 m3 h3)/\V.cell? ⟨yb,yo+7,none⟩=some (.slice b4 m4 h4)/\V.cell? ⟨lb,lo+k*8,none⟩=some (.slice oa1 on1 oc1)/\V.cell? ⟨lb,lo+k*8+1,none⟩=some (.int .u16 (t:Int))/\V.cell? ⟨lb,lo+k*8+2,none⟩=some (.int .u16 (cl:Int))/\V.cell? ⟨lb,lo+k*8+3,none⟩=some (.int .u32 (tt:Int))/\V.cell? ⟨lb,lo+k*8+4,none⟩=some (.slice a1 n1 k1)/\V.cell? ⟨lb,lo+k*8+5,none⟩=some (.slice a2 n2 k2)/\V.cell? ⟨lb,lo+k*8+6,none⟩=some (.slice a3 n3 k3)/\V.cell? ⟨lb,lo+k*8+7,none⟩=some (.slice a4 n4 k4):=fun V hV=>by
    have hh:=(hV.block _ hfl).trans HFB2.out;have hY:=HY0.out V hV;have hX:=HCX.out V (HB11.out.trans (hV.mono HB11.out.size));exact⟨AX hh rfl,AX hh rfl,hY 0 (by omega),hY 1 (by omega),hY 2 (by omega),hY 3 (by omega),hY 4 (by omega),hY 5 (by omega),hY 6 (by omega),hY 7 (by omega),hX 0 (by omega),hX 1 (by omega),hX 2 (by omega),hX 3 (by omega),hX 4 (by omega),hX 5 (by omega),hX 6 (by omega),hX 7 (by omega)⟩
   go_region_held3 (fun V=>V.cell? ⟨fb,0,none⟩=some (.int .i64 0)/\V.cell? ⟨fb,1,none⟩=some (.int .i64 0)/\V.cell? ⟨yb,yo,none⟩=some (.slice oa2 on2 oc2)/\V.cell? ⟨yb,yo+1,none⟩=some (.int .u16 (t:Int))/\V.cell? ⟨yb,yo+2,none⟩=some (.int .u16 (cl:Int))/\V.cell? ⟨yb,yo+3,none⟩=some (.int .u32 (tt:Int))/\V.cell? ⟨yb,yo+4,none⟩=some (.slice b1 m1 h1)/\V.cell? ⟨yb,yo+5,none⟩=some (.slice b2 m2 h2)/\V.cell? ⟨yb,yo+6,none⟩=some (.slice b3 m3 h3)/\V.cell? ⟨yb,yo+7,none⟩=some (.slice b4 m4 h4)/\V.cell? ⟨lb,lo+k*8,none⟩=some (.slice oa1 on1 oc1)/\V.cell? ⟨lb,lo+k*8+1,none⟩=some (.int .u16 (t:Int))/\V.cell? ⟨lb,lo+k*8+2,none⟩=some (.int .u16 (cl:Int))/\V.cell? ⟨lb,lo+k*8+3,none⟩=some (.int .u32 (tt:Int))/\V.cell? ⟨lb,lo+k*8+4,none⟩=some (.slice a1 n1 k1)/\V.cell? ⟨lb,lo+k*8+5,none⟩=some (.slice a2 n2 k2)/\V.cell? ⟨lb,lo+k*8+6,none⟩=some (.slice a3 n3 k3)/\V.cell? ⟨lb,lo+k*8+7,none⟩=some (.slice a4 n4 k4)) (first|exact KS _ HB12.out|exact KS _ (Ae wa.heap.size wa).drew|exact KS _ (Ae wa.heap.size wa)) (first
    |(go_at_call 21;refine Calls.mono (KSR.out _ ?hb) ?_;(case hb=>first|exact(Ae wa.heap.size wa).drew|exact Ae wa.heap.size wa);rintro e w12 ⟨rfl,H12'⟩;have HB12:Hid (Below wa.heap.size wa w12):=(by first|exact(Ae wa.heap.size wa).drew.trans H12'|exact H12'))
    |(go_at_call 22;refine(KCT.out _).mono ?_;rintro e w13 ⟨rfl,rfl⟩)
    |fail)
   all_goals go_wp2_with fail
   all_goals exact⟨⟨k+1,by omega,by go_num,HB11.out.trans (HB12.out.mono HB11.out.size)⟩,by simp[intOf];omega⟩
  ·obtain rfl:k=xn:=by omega
   have hge:¬ (k:Int)<(k:Int):=by omega
   go_wp2_with fail;go_ret;exact⟨rfl,HB.out⟩
end Go.Proofs.YtoppdmlmhigogaaGreatDoor
namespace Go.Proofs.YtoppdmlmhigogaaGreatDoor
open Go.ChangeShapes Go.WideShapes Go.ChangeAt Go.RowKit Go.Deep Go.Maps
set_option maxRecDepth 100000
variable {H:Type} {enc:BH × Ao->H} {W:Ab}
theorem RI{z:Int}(h:(Lit.int .u16 z).wf=true):0<=z/\z<=65535:=by
 simp[Lit.wf,IntKind.min,IntKind.max,IntKind.bits,IntKind.signed]at h;omega
theorem Gs{t:BH}{fs:Array Field}{fuel:Nat}{cs:List Ao}{x:Lo H × List NT}(ht:Aa.underlying t=some (.struct fs))(h:CJ enc Aa W 0 (fun _=>true) true fuel t cs=some x)(i:Nat)(f:Field)(hf:fs[i]?=some f)(k:Nat)(hk:Aa.cellsOf f.type=k) :
  ∃n y,CJ enc Aa W 0 (fun _=>true) true n f.type ((cs.drop f.offset).take k)=some y:=by
 obtain⟨xs,n,_,_,_,hlen,hall⟩:=DataW.trod_struct ht h;have:=hall i f hf;rw[hk]at this;have hi:i<fs.size:=(As.1 hf).1;exact⟨n,_,this.trans (AF (by rw[hlen];exact hi))⟩
theorem Xy{fuel:Nat}{v0 v1 v2 v3:Ao}{x:Lo H × List NT}(h:CJ enc Aa W 0 (fun _=>true) true fuel 41 [v0,v1,v2,v3]=some x) :
  ∃(x:DA) (y:Dat),v0=.slice x.p1.a x.p1.n x.p1.c/\v1=.slice x.p2.a x.p2.n x.p2.c/\v2=.slice x.p3.a x.p3.n x.p3.c/\v3=.slice x.p4.a x.p4.n x.p4.c/\DRd W x y:=by
 obtain⟨_,_,t0⟩:=Gs Kw h 0 _ rfl 1 (by kernel_rfl);obtain⟨_,_,t1⟩:=Gs Kw h 1 _ rfl 1 (by kernel_rfl);obtain⟨_,_,t2⟩:=Gs Kw h 2 _ rfl 1 (by kernel_rfl);obtain⟨_,_,t3⟩:=Gs Kw h 3 _ rfl 1 (by kernel_rfl);replace t0:CJ enc Aa W 0 (fun _=>true) true _ 37 [v0]=some _:=t0;replace t1:CJ enc Aa W 0 (fun _=>true) true _ 38 [v1]=some _:=t1;replace t2:CJ enc Aa W 0 (fun _=>true) true _ 22 [v2]=some _:=t2;replace t3:CJ enc Aa W 0 (fun _=>true) true _ 39 [v3]=some _:=t3;obtain⟨a0,n0,c0,rfl⟩:=JX (t:=37) (e:=23) Tryz.underlying37 t0;obtain⟨a1,n1,c1,rfl⟩:=JX (t:=38) (e:=36) Tryz.underlying38 t1;obtain⟨a2,n2,c2,rfl⟩:=JX (t:=22) (e:=9) Dy t2;obtain⟨a3,n3,c3,rfl⟩:=JX (t:=39) (e:=5) AI t3;obtain⟨nss,h0⟩:=Wr t0;obtain⟨us,h1⟩:=XZ t1;obtain⟨ss,h2⟩:=IY Dy t2;obtain⟨zs,h3⟩:=Vh t3;exact⟨⟨⟨a0,n0,c0⟩,⟨a1,n1,c1⟩,⟨a2,n2,c2⟩,⟨a3,n3,c3⟩⟩,⟨nss,us,ss,zs⟩,rfl,rfl,rfl,rfl,h0,h1,h2,h3⟩
theorem aJ{fuel:Nat}{v0 v1 v2 v3 v4 v5 v6 v7:Ao}{x:Lo H × List NT}(h:CJ enc Aa W 0 (fun _=>true) true fuel 43 [v0,v1,v2,v3,v4,v5,v6,v7]=some x) :
  ∃(x:RA) (r:Rec),[v0,v1,v2,v3,v4,v5,v6,v7]=AV x r/\RRd W x r/\r.t<65536/\r.cl<65536/\r.tt<4294967296:=by
 obtain⟨_,_,t0⟩:=Gs Hj h 0 _ rfl 1 (by kernel_rfl);obtain⟨_,_,t1⟩:=Gs Hj h 1 _ rfl 1 (by kernel_rfl);obtain⟨_,_,t2⟩:=Gs Hj h 2 _ rfl 1 (by kernel_rfl);obtain⟨_,_,t3⟩:=Gs Hj h 3 _ rfl 1 (by kernel_rfl);obtain⟨_,_,t4⟩:=Gs Hj h 4 _ rfl 4 (by kernel_rfl);replace t0:CJ enc Aa W 0 (fun _=>true) true _ 23 [v0]=some _:=t0;replace t1:CJ enc Aa W 0 (fun _=>true) true _ 34 [v1]=some _:=t1;replace t2:CJ enc Aa W 0 (fun _=>true) true _ 35 [v2]=some _:=t2;replace t3:CJ enc Aa W 0 (fun _=>true) true _ 36 [v3]=some _:=t3;replace t4:CJ enc Aa W 0 (fun _=>true) true _ 41 [v4,v5,v6,v7]=some _:=t4;obtain⟨a,n,c,rfl⟩:=JX (t:=23) (e:=9) BV t0;obtain⟨x1,e1,_,w1⟩:=DataW.trod_int (t:=34) Tryz.underlying34 t1;obtain⟨x2,e2,_,w2⟩:=DataW.trod_int (t:=35) Tryz.underlying35 t2;obtain⟨x3,e3,_,w3⟩:=DataW.trod_int (t:=36) CX t3;obtain⟨xd,d,rfl,rfl,rfl,rfl,hd⟩:=Xy t4;simp only[PU,and_true]at e1 e2 e3;subst e1 e2 e3;have b1:=RI w1;have b2:=RI w2;have b3:0<=x3/\x3<=4294967295:=by have:=w3;simp[Lit.wf,IntKind.min,IntKind.max,IntKind.bits,IntKind.signed]at this;omega
 obtain⟨ss,hss⟩:=IY BV t0;refine⟨⟨⟨a,n,c⟩,xd⟩,⟨ss,x1.toNat,x2.toNat,x3.toNat,d⟩,?_,⟨hss,hd⟩,by show x1.toNat<65536;omega,by show x2.toNat<65536;omega,by show x3.toNat<4294967296;omega⟩;simp only[AV,Int.toNat_of_nonneg b1.1,Int.toNat_of_nonneg b2.1,Int.toNat_of_nonneg b3.1]
theorem nW:Aa.cellsOf 43=8:=by kernel_rfl
theorem UG{a:Option Addr}{len cap fuel:Nat}{x:Lo H × List NT}(hf:CJ enc Aa W 0 (fun _=>true) true fuel 24 [Ce a len cap]=some x):∃rs:List Rec,LRd W ⟨a,len,cap⟩ rs/\∀r∈rs,RtB r:=by
 obtain⟨hcs,_⟩|⟨x,l,c,elems,rest,n,_,hcs,_,_,hl,hm,hel,hcell,_⟩:=DataW.trod_slice Tryz.underlying24 hf
 ·simp at hcs;obtain⟨rfl,rfl,rfl⟩:=hcs;exact⟨[],⟨.inl rfl,rfl,by decide⟩,fun r hr=>(by cases hr)⟩
 ·simp at hcs;obtain⟨rfl,rfl,rfl⟩:=hcs;rw[nW]at hcell;have hex:∀i,i<len->∃r:Rec,∃y:RA,(∀j,j<8->W.cell? ((x.add (i*8)).add j)=(AV y r)[j]?)/\RRd W y r/\RtB r:=by
   intro i hi;have h1:=hcell i hi;rw[AF (by omega)]at h1;rw[Dg]at h1;obtain⟨cs,h2,h3⟩:=h1;obtain⟨_,hlen,hc⟩:=World.cells?_some h2;match cs,hlen with
   |[v0,v1,v2,v3,v4,v5,v6,v7],_=>
    obtain⟨y,r,e,h4,h5,h6,h7⟩:=aJ h3;rw[e]at hc;exact⟨r,y,fun j hj=>hc j hj,h4,⟨h5,h6,h7,h4.2.h4.rd.2⟩⟩
  obtain⟨rs,hlen,hrs⟩:=ZK len _ hex;have hb:∀r∈rs,RtB r:=by
   intro r hr;obtain⟨i,hi,rfl⟩:=List.getElem_of_mem hr;obtain⟨_,_,_,h⟩:=hrs i hi;exact h
  refine⟨rs,⟨?_,hlen,by show len<=_;simp only[Gi]at hm;omega⟩,hb⟩;by_cases h0:len=0
  ·left;exact AC (by omega)
  ·right
   obtain⟨b,off,spot⟩:=x;obtain⟨y0,hc0,_⟩:=hrs 0 (by omega);have hc00:=hc0 0 (by omega);have hspot:spot=none:=by simpa[Kk] using MP hc00
   subst hspot;have hlt:b<W.heap.size:=by
    have:=Hd W _ hc00;simpa[Kk] using this
   refine⟨b,off,rfl,hlt,fun i hi=>?_⟩;obtain⟨y,e1,ok,_⟩:=hrs i hi;refine⟨y,fun j hj=>?_,ok⟩;have:=e1 j hj;rw[Js,Js]at this;exact this
end Go.Proofs.YtoppdmlmhigogaaGreatDoor
namespace Go.Proofs.YtoppdmlmhigogaaGreatDoor
open Go.ChangeShapes Go.WideShapes Go.ChangeAt Go.RowKit
theorem xA:ownKnob Aa.godebug=none:=by kernel_rfl
theorem yA:(Aa.globals[1]?).map (·.type)=some 214:=by kernel_rfl
theorem yN:(Aa.globals[6]?).map (·.type)=some 265:=by kernel_rfl
theorem tSp:(Aa.globals[2]?).map (·.type)=some 221:=by kernel_rfl
theorem yO:(Aa.globals[7]?).map (·.type)=some 95:=by kernel_rfl
theorem xW:(Aa.globals[8]?).map (·.type)=some 95:=by kernel_rfl
theorem xK : Aa.globalNamed "math/bits.deBruijn64tab" = some 5 := by kernel_rfl
theorem xV:(Aa.globals[5]?).map (·.type)=some 248:=by kernel_rfl
theorem c5:Aa.cellsOf 5=1:=by kernel_rfl
theorem yU:Aa.cellsOf 221=256:=by kernel_rfl
theorem vX:Aa.cellsOf 116=1:=by kernel_rfl
theorem yL:Aa.cellsOf 214=20:=by kernel_rfl
theorem zA:Aa.cellsOf 265=5:=by kernel_rfl
theorem yK:Aa.cellsOf 248=64:=by kernel_rfl
theorem wT:Aa.cellsOf 320=1:=by kernel_rfl
theorem c9:Aa.cellsOf 9=1:=by kernel_rfl
theorem fP : "*" ++ "errors.errorString" = "*errors.errorString" := by decide
theorem lG (u : BH) (h : Aa.typeName? 3 u = some "*errors.errorString") : u = 318 :=
  typeName_ptr_named (nm := "errors.errorString") (by rw [fP]; kernel_rfl) (by kernel_rfl) (by decide) u (by rw [fP]; exact h)
theorem yV:(FJ:Lo Unit)=Lib.tabData .u64 OI:=by kernel_rfl
theorem yR:(FX:Lo Unit)=Lib.tabData .u64 Uz:=by kernel_rfl
theorem spD:(Jo:Lo Unit)=Lib.tabData .u8 Lib.asciiSpaceTab:=by kernel_rfl
abbrev gQ:List Int:=[0,1,56,2,57,49,28,3,61,58,42,50,38,29,17,4,62,47,59,36,45,43,51,22,53,39,33,30,24,18,12,5,63,55,48,27,60,41,37,16,46,35,44,21,52,32,23,11,54,26,40,15,34,20,31,10,25,14,19,9,13,8,7,6]
theorem yE:(GJ:Lo Unit)=Lib.tabData .u8 gQ:=by kernel_rfl
theorem rD {r : List (String × Lo Unit)} {W : Ab} (h : laidMet Aa (("math/bits.deBruijn64tab", GJ) :: r) W) : 5 < W.heap.size /\ W.cell? ⟨5, 15, none⟩ = some (.int .u8 4) := by
  rw [yE]at h;have h1 := Lr xK xV Lx Ba c5 yK h;unfold Io World.var? at h1;rw [xK]at h1;simp only [BL]at h1;have key : ∃ cs t z, W.heap[5]? = some (.cells cs t z) /\ cs = (gQ.map fun z => AL .u8 z).toArray := by
    cases hh : W.heap[5]? with
    | none => rw [hh]at h1; cases h1
    | some o =>
      rw [hh]at h1;cases o with
      | cells cs t z => exact⟨cs, t, z, rfl, Bf h1⟩
      | _ => cases h1
  obtain⟨cs, t, z, e1, e2⟩ := key;refine⟨(As.1 e1).1, ?_⟩;unfold Az;rw [show W.heap[(⟨5, 15, none⟩ : Addr).block]? = _ from e1, e2]
  rfl
theorem nI {r : List (String × Lo Unit)} {W : Ab} (h : laidMet Aa (("internal/strconv.uint64pow10", FJ) :: r) W) : Io Aa W "internal/strconv.uint64pow10" .u64 OI := by
  rw [yV]at h;exact Lr xB yA Hp Es vX yL h
theorem oJ {r : List (String × Lo Unit)} {W : Ab} (h : laidMet Aa (("nomenclator/master.lengths", FX) :: r) W) : Io Aa W "nomenclator/master.lengths" .u64 Uz := by
  rw [yR]at h;exact Lr vD yN Tryz.underlying265 Es vX zA h
theorem vR {r : List (String × Lo Unit)} {W : Ab} (h : laidMet Aa (("strings.asciiSpace", Jo) :: r) W) : Io Aa W "strings.asciiSpace" .u8 Lib.asciiSpaceTab := by
  rw [spD]at h;exact Lr gSp tSp Tryz.underlying221 Ba c5 yU h
theorem mN {r : List (String × Lo Unit)} {W : Ab} (h : laidMet Aa (("strconv.ErrRange", Rows.laid_strconv_ErrRange) :: r) W) : ∃ tp p, W.var? Aa "strconv.ErrRange" = some #[.iface tp p] := by
  obtain⟨a, s, hv, -, -, -⟩ := laid_sentinel h aV xW Iw lG Ly Lz rfl rfl AK wT c9;exact⟨_, _, hv⟩
theorem pR {r : List (String × Lo Unit)} {W : Ab} (h : laidMet Aa (("strconv.ErrSyntax", Rows.laid_strconv_ErrSyntax) :: r) W) : ∃ tp p, W.var? Aa "strconv.ErrSyntax" = some #[.iface tp p] := by
  obtain⟨a, s, hv, -, -, -⟩ := laid_sentinel h dJ yO Iw lG Ly Lz rfl rfl AK wT c9;exact⟨_, _, hv⟩
theorem qR{W:Ab}(h:W.ShapedOpen Aa):0<W.heap.size/\∃m,W.cell? ⟨0,0,none⟩=some (.int .i64 m):=by
 have h0:((begin Aa (fun _ _=>0) default).world.heap[0]?).bind Obj.row?=some (#[.int .i64 0],3):=by kernel_rfl
 have hb:Aa.buildable 3=true:=by kernel_rfl
 have hc:Aa.cellTypes Aa.depth 3=some [3]:=by kernel_rfl
 have hg:0<Aa.globals.size:=of_decide_eq_true (by kernel_rfl);obtain⟨cs,hh,hs,hr⟩:=h.1 0 #[.int .i64 0] 3 hg h0;refine⟨(As.1 hh).1,?_⟩;obtain⟨ts,hts,hlen,hall⟩:=hr hb;rw[hc]at hts;cases hts;have h1:0<cs.size:=by rw[hs];decide
 obtain⟨u,hu',hok⟩:=hall 0 cs[0] (by simp[h1]);have hu:u=3:=(Bf hu').symm;have hcell:W.cell? ⟨0,0,none⟩=some cs[0]:=by simp[Az,hh,h1]
 rw[hcell];unfold Cell.ok at hok;rw[hu,AW]at hok;cases hv:cs[0] <;> rw[hv]at hok <;> first|simp at hok;done|skip
 all_goals (simp at hok;obtain⟨rfl,_⟩:=hok;exact⟨_,rfl⟩)
abbrev Nl : List (String × Lo Unit) := [("math/bits.deBruijn32tab", Rows.laid_math_bits_deBruijn32tab), ("math/bits.deBruijn64tab", GJ), ("internal/strconv.uint64pow10", FJ), ("unicode/utf8.acceptRanges", Rows.laid_unicode_utf8_acceptRanges), ("strconv.ErrRange", Rows.laid_strconv_ErrRange), ("strconv.ErrSyntax", Rows.laid_strconv_ErrSyntax), ("unicode.White_Space", Rows.laid_unicode_White_Space), ("strings.asciiSpace", Jo), ("nomenclator/master.lengths", FX), ("unicode/utf8.first", Rows.laid_unicode_utf8_first)]
theorem ZE:(Nl.all fun x=>x.2.handleName?.isNone)=true:=by kernel_rfl
theorem vY{W:Ab}(h:laidMetH Aa Nl W)(hs:W.ShapedOpen Aa):Bk W/\Cc W:=by
 rw[MakeChecks.laidMetH_plain _ _ _ ZE]at h;have hm:=qR hs;exact⟨⟨nI h.tail.tail,vR h.tail.tail.tail.tail.tail.tail.tail,rD h.tail⟩,pR h.tail.tail.tail.tail.tail,mN h.tail.tail.tail.tail,⟨hm.1,oJ h.tail.tail.tail.tail.tail.tail.tail.tail⟩,hm.2⟩
theorem aH(os:Os)(args:Array Ao):laidMetH Aa Nl ((OG Aa os Nl).forCall (fun _ _=>0) ⟨#[],args,[]⟩).memory:=by
 rw[MakeChecks.laidMetH_plain _ _ _ ZE];exact laidMet_laidAll args (by kernel_rfl) (by kernel_rfl)
end Go.Proofs.YtoppdmlmhigogaaGreatDoor
namespace Go.Proofs.YtoppdmlmhigogaaGreatDoor
open Go.ChangeShapes Go.WideShapes Go.ChangeAt Go.RowKit
open Go.ChangeMaps (open_string shut_string)
theorem Gx:laidOutB Aa=true:=by kernel_rfl
theorem Sv(os:Os){H:Type}(enc:BH × Ao->H) :
  (JF GD).preRow enc Aa Tryz.f4 Kx.domain false Kx.laid ((OG Aa os Nl).forCall (fun _ _=>0) ⟨#[],#[.slice none 0 0,.slice none 0 0,.slice none 0 0],[]⟩).memory #[.slice none 0 0,.slice none 0 0,.slice none 0 0]:=by
 have hw:(DataW.whole enc Aa ((OG Aa os Nl).forCall (fun _ _=>0) ⟨#[],#[.slice none 0 0,.slice none 0 0,.slice none 0 0],[]⟩).memory Tryz.f4.params.toList GD.vars false #[Ce none 0 0,Ce none 0 0,Ce none 0 0].toList 8).map (fun x=>(x.1,x.2.1))=some ([.nil,.nil,.nil],[]):=by kernel_rfl
 obtain⟨⟨x1,x2,x3⟩,hx,hx1⟩:=Ju.1 hw;simp only[Prod.mk.injEq]at hx1;obtain⟨rfl,rfl⟩:=hx1;exact OpenSpec.preRow_of_cond 8 hx (by kernel_rfl) (fun k hk=>by cases hk) (by kernel_rfl) (aH os _)
theorem bM(os:Os)(started:os.Started)(H:Type)(enc:BH × Ao->H)(F:Stop.Interp) :
  ReturnsInHanded {} Tryz.checked os 4 .any ((JF GD).preRow enc Aa Tryz.f4 Kx.domain false Kx.laid) (((JF GD).at F).post enc Aa Tryz.f4 false true false false):=by
 refine returnsInHanded_of_row (C:=Tryz.checked) (s:=JF GD) xA started (by kernel_rfl) Tryz.func4
  (witness_row_atRef (enc:=enc) (C:=Tryz.checked) false (OG Aa os Nl) #[.slice none 0 0,.slice none 0 0,.slice none 0 0] (World.laidAll_os _ _ _) (by kernel_rfl) (by kernel_rfl) (by kernel_rfl) (Sv os enc)) ?_
 intro W base args ds gs before hval0 hW _ _ hsz hL hS _;have hval:∀(j:Nat) t v,Tryz.f4.params[j]?=some t->args[j]?=some v->Value.okWide Aa W .any base t v:=hval0;have hW':=hW;obtain⟨p,q,hA0,hV,rfl,hfz,hnd⟩:=hW;have hA:DataW.TrodAll enc Aa W 0 (fun _=>true) true Tryz.f4.params.toList args.toList ds p:=hA0;rw[Tryz.params4]at hA hval;obtain⟨v0,vs0,d0,ds0,p0,q0,hargs,rfl,rfl,h0,r0⟩:=trodAll_cons hA;obtain⟨v1,vs1,d1,ds1,p1,q1,rfl,rfl,rfl,h1,r1⟩:=trodAll_cons r0;obtain⟨v2,vs2,d2,ds2,p2,q2,rfl,rfl,rfl,h2,r2⟩:=trodAll_cons r1;obtain⟨rfl,rfl,rfl⟩:=trodAll_nil r2;obtain rfl:args=#[v0,v1,v2]:=by cases args;simp_all
 obtain⟨rfl,rfl⟩:=trodVars_none hV;have k0:=h0;have lt0:∀x∈p0,x.block<W.heap.size:=by obtain⟨m,hm⟩:=k0;exact DataW.trod_lt m _ _ _ hm
 obtain⟨a0,IH,cap0,rfl⟩:=okWide_slice BV (hval 0 23 v0 rfl rfl);obtain⟨z0,e0⟩:∃ss,TRd W ⟨a0,IH,cap0⟩ ss:=by obtain⟨m,hm⟩:=k0;exact IY BV hm
 have k1:=h1;have lt1:∀x∈p1,x.block<W.heap.size:=by obtain⟨m,hm⟩:=k1;exact DataW.trod_lt m _ _ _ hm
 obtain⟨a1,Sk,cap1,rfl⟩:=okWide_slice BV (hval 1 23 v1 rfl rfl);obtain⟨z1,e1⟩:∃ss,TRd W ⟨a1,Sk,cap1⟩ ss:=by obtain⟨m,hm⟩:=k1;exact IY BV hm
 have k2:=h2;have lt2:∀x∈p2,x.block<W.heap.size:=by obtain⟨m,hm⟩:=k2;exact DataW.trod_lt m _ _ _ hm
 obtain⟨a2,WI,cap2,rfl⟩:=okWide_slice Tryz.underlying24 (hval 2 24 v2 rfl rfl);obtain⟨z2,e2,f2⟩:∃rs,LRd W ⟨a2,WI,cap2⟩ rs/\∀r∈rs,RtB r:=by obtain⟨m,hm⟩:=k2;exact UG hm
 clear hA0 hval0;simp only[List.append_nil]at hW';have hl:=vY hL hS;refine(tN a0 a1 IH cap0 Sk cap1 z0 z1 ⟨a2,WI,cap2⟩ z2 W e0 e1 e2 f2 hl.1 hl.2).mono fun e W' ⟨he,bel0⟩=>?_
 have bel:=bel0.out;subst he;exact⟨_,rfl,_,_,_,[],_,[],hW',trodAll_mk1 (shut_bool Br _),(trodAll_cons_mk (Below.trod Gx (by kernel_rfl) (of_decide_eq_true (by kernel_rfl)) k0 bel lt0) (trodAll_cons_mk (Below.trod Gx (by kernel_rfl) (of_decide_eq_true (by kernel_rfl)) k1 bel lt1) (trodAll_cons_mk (Below.trod Gx (by kernel_rfl) (of_decide_eq_true (by kernel_rfl)) k2 bel lt2) trodAll_mk0))),rfl,bel.frame _,fun h=>by cases h⟩
end Go.Proofs.YtoppdmlmhigogaaGreatDoor
