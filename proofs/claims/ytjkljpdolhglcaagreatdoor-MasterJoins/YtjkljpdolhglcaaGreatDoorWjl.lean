/- Texts laid together, in parts: Mq Mr Vw Jk Jz Ja Jb Jd Jm Naa Nab Nac Nad Nae Lay14. -/
import Derived.Test.YtjkljpdolhglcaaGreatDoorWjk
import Derived.Deep.RegionHeld3
import Derived.Lib.Hide
import Derived.BigQuiet
import Derived.Laws.Concat
import Derived.Shelf.Strings.CaseAny
import Derived.Test.YtjkljpdolhglcaaGreatDoorCards
import Derived.Test.YtjkljpdolhglcaaGreatDoorTie
import Derived.ProofKit
import Derived.OpenShut
import Derived.LaidMore
import Derived.LaidOnce
import Derived.LaidSub
import Derived.MakeChecks
import Derived.Stop.LaidErr
import Derived.Deep.DeepHandedRow
import Derived.Deep.DeepWitnessRowRef
import Derived.Lay
set_option maxRecDepth 100000
set_option maxHeartbeats 8000000
set_option linter.unusedVariables false
set_option linter.unusedSimpArgs false
namespace Go.Proofs.YtjkljpdolhglcaaGreatDoor
open Go.ChangeShapes Go.WideShapes Go.ChangeAt Go.RowKit
theorem Nm.blocks{w w':World}{a:Option Addr}{n:Nat}{ss:List ByteArray}(h:Nm w a n ss)(hs:w.heap.size<=w'.heap.size)(hb:∀j,j<w.heap.size->w'.heap[j]?=w.heap[j]?):Nm w' a n ss:=by
 refine ⟨?_,h.len,h.sz⟩
 have hr:RdV w a (tv ss):=h.rd
 show RdV w' a (tv ss)
 rcases hr with h1|⟨b,o,rfl,hlt,h2⟩
 ·exact .inl h1
 ·exact RdV.of_blocks (.inr ⟨b,o,rfl,hlt,h2⟩) hs (fun b' o' e=>by cases e;exact hb b hlt)
theorem rdw_z{w:World}{a:Option Addr}{ws:List Wd}(h:RdWZ w a ws):RdW w a ws:=by
 rcases h with h|⟨b,o,h1,h2,h3⟩
 ·exact .inl h
 ·exact .inr ⟨b,o,h1,h2,fun i hi=>by rw[Nat.mul_comm];exact h3 i hi⟩
theorem ws_z{w:World}{x:Sl}{ws:List Wd}(h:WRd w x ws)(hb:WB ws):Ws w x ws:=⟨h.1,h.2.1,h.2.2.1,rdw_z h.2.2.2,hb⟩
theorem OwR.nil(B:Nat)(w:World):OwR B w (.slice none 0 0) []:=⟨[],rfl,⟨rfl,.inl ⟨rfl,rfl⟩⟩,by simp⟩
theorem lp_new{w Wm:World}{m:Nat}{a:CA}{c:Cy}(hc:CRd w a c)(hk:nck c.ow=0)(h1:((w.alloc (.cells #[.slice a.g.a a.g.n a.g.c,.slice a.o.a a.o.n a.o.c,.int .u16 (c.cl:Int),.int .u32 (c.df:Int),.int .u32 (c.tt:Int),.bool c.ho,.bool c.hc,.bool c.ht,.bool c.sd] 63)).alloc (.cells #[.int .i64 0,.int .i64 0] 28)).heap.size<=m)(h2:Wm.ownsMap Tryz.prog 9 fnR m 2 cmdD)(h3:Below ((w.alloc (.cells #[.slice a.g.a a.g.n a.g.c,.slice a.o.a a.o.n a.o.c,.int .u16 (c.cl:Int),.int .u32 (c.df:Int),.int .u32 (c.tt:Int),.bool c.ho,.bool c.hc,.bool c.ht,.bool c.sd] 63)).alloc (.cells #[.int .i64 0,.int .i64 0] 28)).heap.size ((w.alloc (.cells #[.slice a.g.a a.g.n a.g.c,.slice a.o.a a.o.n a.o.c,.int .u16 (c.cl:Int),.int .u32 (c.df:Int),.int .u32 (c.tt:Int),.bool c.ho,.bool c.hc,.bool c.ht,.bool c.sd] 63)).alloc (.cells #[.int .i64 0,.int .i64 0] 28)) Wm):LpS w Wm m (.slice none 0 0) [] a c:=by
 have l1:=new_below w (.cells #[.slice a.g.a a.g.n a.g.c,.slice a.o.a a.o.n a.o.c,.int .u16 (c.cl:Int),.int .u32 (c.df:Int),.int .u32 (c.tt:Int),.bool c.ho,.bool c.hc,.bool c.ht,.bool c.sd] 63)
 have q1:CyB (w.alloc (.cells #[.slice a.g.a a.g.n a.g.c,.slice a.o.a a.o.n a.o.c,.int .u16 (c.cl:Int),.int .u32 (c.df:Int),.int .u32 (c.tt:Int),.bool c.ho,.bool c.hc,.bool c.ht,.bool c.sd] 63)) w.heap.size a c:=CyB.new w a c
 generalize hw1:w.alloc (.cells #[.slice a.g.a a.g.n a.g.c,.slice a.o.a a.o.n a.o.c,.int .u16 (c.cl:Int),.int .u32 (c.df:Int),.int .u32 (c.tt:Int),.bool c.ho,.bool c.hc,.bool c.ht,.bool c.sd] 63)=w1 at*
 have n1:w1.heap.size=w.heap.size+1:=by rw[<- hw1];simp
 have l2:=new_below w1 (.cells #[.int .i64 0,.int .i64 0] 28)
 have q2:=heap_alloc_new w1 (.cells #[.int .i64 0,.int .i64 0] 28)
 generalize hw2:w1.alloc (.cells #[.int .i64 0,.int .i64 0] 28)=w2 at*
 have n2:w2.heap.size=w1.heap.size+1:=by rw[<- hw2];simp
 rw[n1] at q2
 have hbel:Below w.heap.size w Wm:=l1.trans ((l2.mono (by omega)).trans (h3.mono (by omega)))
 have hs:=h3.size
 refine ⟨(h3.block _ (by omega)).trans ((l2.block _ (by omega)).trans q1),(h3.block _ (by omega)).trans q2,h2,by simp[Value.ownBlock],by omega,OwR.nil _ _,fun W' e1 e2=>?_,hbel,hk⟩
 have hW:∀j,j<w.heap.size->W'.heap[j]?=w.heap[j]?:=fun j hj=>(e2 j (by omega) (by simp[Value.ownBlock]) (.inl hj)).trans (hbel.block j hj)
 exact ⟨hc.g.blocks (by omega) hW,hc.o.blocks (by omega) hW,hc.k⟩
theorem box_fz{w:World}{b:Nat}{cur:Array Value}{t:TypeId}(h:w.heap[b]?=some (.cells cur t (0,0)))(i:Nat):w.frozen? ⟨b,i,none⟩=false:=by
 have h2:=h
 simp[World.frozen?,h2]
theorem box_cell{w:World}{b:Nat}{cur:Array Value}{t:TypeId}{fr:Nat × Nat}(h:w.heap[b]?=some (.cells cur t fr))(i:Nat)(v:Value)(hv:cur[i]?=some v):w.cell? ⟨b,i,none⟩=some v:=by unfold World.cell?;rw[h];exact hv
theorem fin_cells{w V:World}{er ln e0 l0:Int}(hf:V.heap[w.heap.size+1]?=some (.cells #[.int .i64 e0,.int .i64 l0] 28 (0,0)))(hb:Below w.heap.size w V):((V.setCell ⟨w.heap.size+1,0,none⟩ (.int .i64 er)).setCell ⟨w.heap.size+1,1,none⟩ (.int .i64 ln)).drew.cell? ⟨w.heap.size+1,0,none⟩=some (.int .i64 er)/\((V.setCell ⟨w.heap.size+1,0,none⟩ (.int .i64 er)).setCell ⟨w.heap.size+1,1,none⟩ (.int .i64 ln)).drew.cell? ⟨w.heap.size+1,1,none⟩=some (.int .i64 ln)/\Below w.heap.size w ((V.setCell ⟨w.heap.size+1,0,none⟩ (.int .i64 er)).setCell ⟨w.heap.size+1,1,none⟩ (.int .i64 ln)).drew:=by
 have h1:=heap_set hf 0 (.int .i64 er)
 have h2:=heap_set h1 1 (.int .i64 ln)
 have h3:((V.setCell ⟨w.heap.size+1,0,none⟩ (.int .i64 er)).setCell ⟨w.heap.size+1,1,none⟩ (.int .i64 ln)).heap[w.heap.size+1]?=some (.cells #[.int .i64 er,.int .i64 ln] 28 (0,0)):=h2
 refine ⟨box_cell (show ((V.setCell ⟨w.heap.size+1,0,none⟩ (.int .i64 er)).setCell ⟨w.heap.size+1,1,none⟩ (.int .i64 ln)).drew.heap[w.heap.size+1]?=_ from h3) 0 _ rfl,box_cell (show ((V.setCell ⟨w.heap.size+1,0,none⟩ (.int .i64 er)).setCell ⟨w.heap.size+1,1,none⟩ (.int .i64 ln)).drew.heap[w.heap.size+1]?=_ from h3) 1 _ rfl,?_⟩
 exact ((hb.setCell (p:=⟨w.heap.size+1,0,none⟩) (Nat.le_succ _) _).setCell (p:=⟨w.heap.size+1,1,none⟩) (Nat.le_succ _) _).drew
theorem fin_end{w V:World}{e0 l0:Int}{v:Value}{rs:List Rec}(hf:V.heap[w.heap.size+1]?=some (.cells #[.int .i64 e0,.int .i64 l0] 28 (0,0)))(hb:Below w.heap.size w V)(hr:OwR (w.heap.size+2) V v rs):((V.setCell ⟨w.heap.size+1,0,none⟩ (.int .i64 0)).setCell ⟨w.heap.size+1,1,none⟩ (.int .i64 0)).cell? ⟨w.heap.size+1,0,none⟩=some (.int .i64 0)/\((V.setCell ⟨w.heap.size+1,0,none⟩ (.int .i64 0)).setCell ⟨w.heap.size+1,1,none⟩ (.int .i64 0)).cell? ⟨w.heap.size+1,1,none⟩=some (.int .i64 0)/\Below w.heap.size w ((V.setCell ⟨w.heap.size+1,0,none⟩ (.int .i64 0)).setCell ⟨w.heap.size+1,1,none⟩ (.int .i64 0))/\OwR w.heap.size ((V.setCell ⟨w.heap.size+1,0,none⟩ (.int .i64 0)).setCell ⟨w.heap.size+1,1,none⟩ (.int .i64 0)) v rs:=by
 have h1:=heap_set hf 0 (.int .i64 0)
 have h2:=heap_set h1 1 (.int .i64 0)
 have h3:((V.setCell ⟨w.heap.size+1,0,none⟩ (.int .i64 0)).setCell ⟨w.heap.size+1,1,none⟩ (.int .i64 0)).heap[w.heap.size+1]?=some (.cells #[.int .i64 0,.int .i64 0] 28 (0,0)):=h2
 have h4:=(hb.setCell (p:=⟨w.heap.size+1,0,none⟩) (Nat.le_succ _) (.int .i64 0)).setCell (p:=⟨w.heap.size+1,1,none⟩) (Nat.le_succ _) (.int .i64 0)
 have h0:=((Below.refl 0 V).setCell (p:=⟨w.heap.size+1,0,none⟩) (Nat.zero_le _) (.int .i64 0)).setCell (p:=⟨w.heap.size+1,1,none⟩) (Nat.zero_le _) (.int .i64 0)
 have hh:∀j,j≠w.heap.size+1->((V.setCell ⟨w.heap.size+1,0,none⟩ (.int .i64 0)).setCell ⟨w.heap.size+1,1,none⟩ (.int .i64 0)).heap[j]?=V.heap[j]?:=fun j hj=>(Below.heap_setCell _ _ _ j (by show j≠w.heap.size+1;exact hj)).trans (Below.heap_setCell _ _ _ j (by show j≠w.heap.size+1;exact hj))
 exact ⟨box_cell h3 0 _ rfl,box_cell h3 1 _ rfl,h4,(hr.keep2 h0.size ⟨h0.os,h0.tape,h0.output⟩ (fun j e1 e2=>hh j (by omega)) (w.heap.size+1) (by omega) (fun j e1 e2=>hh j e2)).mono (by omega)⟩
def AlP(r:Ra)(w:World)(e:Ending)(w':World):Prop:=
 ∃(s':Sl) (er ln:Int),e=.returned (.tuple #[.slice s'.a s'.n s'.c,.agg #[.int .i64 er,.int .i64 ln]])/\Hid (Below w.heap.size w w')/\Hid (match r with
  | .ok rs=>er=0/\ln=0/\OwR w.heap.size w' (.slice s'.a s'.n s'.c) rs/\rs.length<=2048
  | .er e1 l1=>er=e1/\ln=l1/\s'=⟨none,0,0⟩)
theorem cmd_three(e:En):cmdF e=0∨cmdF e=1∨cmdF e=2:=by
 unfold cmdF
 split
 ·exact .inr (.inl rfl)
 ·split
  ·exact .inr (.inr rfl)
  ·exact .inl rfl
theorem fold_size(e:En)(h:WB e.ws):(foldL (opnF e)).size<=maxLen:=by
 have:=opn_size e h
 rw[foldL_size]
 simp only[maxLen]
 omega
theorem readall_any(xs:Sl)(es:List En)(a:CA)(c:Cy)(w:World)(hx:RdE w xs.a es)(hn:xs.n=es.length)(hcap:xs.n<=xs.c)(h63:xs.c<=9223372036854775807)(hwb:∀e∈es,WB e.ws)(hc:CRd w a c)(hk:nck c.ow=0)(hE:LayE w)(hL:LayT w):Calls Tryz.prog 19 #[.slice xs.a xs.n xs.c,caV a c] w (AlP (allF es c []) w):=by
 obtain ⟨xa,n,xc⟩:=xs
 have HX:Hid (RdE w xa es):=hx
 have HN:Hid (n=es.length):=hn
 have HWB:Hid (∀e∈es,WB e.ws):=hwb
 have HE:Hid (∀W,Below w.heap.size w W->LayT W/\LayE W):=fun W hW=>⟨hL.below hW,hE.below hW⟩
 have HA:Hid (es=[]∨∃b o,xa=some ⟨b,o,none⟩):=by
  rcases hx with h|⟨b,o,e,-,-⟩
  ·exact .inl h
  ·exact .inr ⟨b,o,e⟩
 simp only at hcap h63
 have KC:=Lib.hid (commands_any ((w.alloc (.cells #[.slice a.g.a a.g.n a.g.c,.slice a.o.a a.o.n a.o.c,.int .u16 (c.cl:Int),.int .u32 (c.df:Int),.int .u32 (c.tt:Int),.bool c.ho,.bool c.hc,.bool c.ht,.bool c.sd] 63)).alloc (.cells #[.int .i64 0,.int .i64 0] 28)))
 have HLP:Hid (∀Wm m,((w.alloc (.cells #[.slice a.g.a a.g.n a.g.c,.slice a.o.a a.o.n a.o.c,.int .u16 (c.cl:Int),.int .u32 (c.df:Int),.int .u32 (c.tt:Int),.bool c.ho,.bool c.hc,.bool c.ht,.bool c.sd] 63)).alloc (.cells #[.int .i64 0,.int .i64 0] 28)).heap.size<=m->Wm.ownsMap Tryz.prog 9 fnR m 2 cmdD->Below ((w.alloc (.cells #[.slice a.g.a a.g.n a.g.c,.slice a.o.a a.o.n a.o.c,.int .u16 (c.cl:Int),.int .u32 (c.df:Int),.int .u32 (c.tt:Int),.bool c.ho,.bool c.hc,.bool c.ht,.bool c.sd] 63)).alloc (.cells #[.int .i64 0,.int .i64 0] 28)).heap.size ((w.alloc (.cells #[.slice a.g.a a.g.n a.g.c,.slice a.o.a a.o.n a.o.c,.int .u16 (c.cl:Int),.int .u32 (c.df:Int),.int .u32 (c.tt:Int),.bool c.ho,.bool c.hc,.bool c.ht,.bool c.sd] 63)).alloc (.cells #[.int .i64 0,.int .i64 0] 28)) Wm->LpS w Wm m (.slice none 0 0) [] a c):=fun Wm m h1 h2 h3=>lp_new hc hk h1 h2 h3
 clear hx hn hwb hc hk hE hL
 go_enter Tryz.func19,Tryz.ntmps19
 go_wp2_with fail
 refine KC.out.mono ?_
 rintro r Wm ⟨m,rfl,HM⟩
 have HL0:=Lib.hid (HLP.out Wm m HM.out.1 HM.out.2.1 HM.out.2.2)
 clear HLP HM KC
 go_wp2_with fail
 go_loopw [16,7] (fun vk vv wr=>∃(k:Nat) (s:Sl),k<=n/\vk=.int .i64 (k:Int)/\vv=.slice s.a s.n s.c/\Hid (∃rs c' a',LpS w wr m (.slice s.a s.n s.c) rs a' c'/\allF es c []=allF (es.drop k) c' rs/\rs.length<=2048)) (fun vk _ _=>n - (intOf vk).toNat)
 case atStart=>exact ⟨0,⟨none,0,0⟩,Nat.zero_le _,rfl,rfl,[],c,a,HL0.out,rfl,by simp⟩
 case round=>
  obtain ⟨k,s,hk,rfl,rfl,HW⟩:=hrel
  obtain ⟨rs,c1,a1,hlp,hall,hrs⟩:=HW.out
  clear HW
  have HLP:=Lib.hid hlp
  have HRS:=Lib.hid hrs
  by_cases hlt:k<n
  ·have hlt':(k:Int)<(n:Int):=by omega
   have hke:k<es.length:=by have:=HN.out;omega
   obtain ⟨b,o,rfl⟩:∃b o,xa=some ⟨b,o,none⟩:=by
    rcases HA.out with h|h
    ·rw[h] at hke;simp at hke
    ·exact h
   obtain ⟨x,hb,p1,p2,p3,hwd⟩:∃x:Sl,b<w.heap.size/\w.cell? ⟨b,o+k*3,none⟩=some (.int .i64 es[k].line)/\w.cell? ⟨b,o+k*3+1,none⟩=some (.bool es[k].blank)/\w.cell? ⟨b,o+k*3+2,none⟩=some (.slice x.a x.n x.c)/\WRd w x es[k].ws:=by
    rcases HX.out with h|⟨b',o',e0,hb,hcells⟩
    ·rw[h] at hke;simp at hke
    ·cases e0
     obtain ⟨x,h1⟩:=hcells k hke
     exact ⟨x,hb,h1⟩
   have P1:=(hlp.bel.cell (p:=⟨b,o+k*3,none⟩) hb).trans p1
   have P2:=(hlp.bel.cell (p:=⟨b,o+k*3+1,none⟩) hb).trans p2
   have P3:=(hlp.bel.cell (p:=⟨b,o+k*3+2,none⟩) hb).trans p3
   have hwb:=HWB.out es[k] (List.getElem_mem hke)
   have hdrop:es.drop k=es[k]::es.drop (k+1):=List.drop_eq_getElem_cons hke
   rw[hdrop,all_cons] at hall
   have HALL:=Lib.hid hall
   have HSE:Hid (allF es c []=allF es c []):=rfl
   clear p1 p2 p3 hdrop hall hlp hrs
   generalize allF es c []=RR at*
   generalize es[k]=en at*
   obtain ⟨ln,bl,ws⟩:=en
   simp only at P1 P2 P3 hwd hwb
   have HWE:=Lib.hid (HLP.out.below (new_below wr (.cells #[.int .i64 ln,.bool bl,.slice x.a x.n x.c] 75)))
   have HE0:Hid ((wr.alloc (.cells #[.int .i64 ln,.bool bl,.slice x.a x.n x.c] 75)).heap[wr.heap.size]?=some (.cells #[.int .i64 ln,.bool bl,.slice x.a x.n x.c] 75 (0,0))):=heap_alloc_new _ _
   have HWS:=Lib.hid ((ws_z hwd hwb).below HWE.out.bel)
   have KW:=Lib.hid (cmdword_any x ⟨ln,bl,ws⟩ (wr.alloc (.cells #[.int .i64 ln,.bool bl,.slice x.a x.n x.c] 75)) HWS.out)
   have HKEY:=Lib.hid (key9 _ (fold_size ⟨ln,bl,ws⟩ hwb))
   have HCH:=Lib.hid (cmd_has (foldL (opnF ⟨ln,bl,ws⟩)))
   rw[cmd_word] at HCH
   have HBIG:Hid (w.heap.size+2<=wr.heap.size):=by have:=HLP.out.mge;have:=HLP.out.mp.lt;show _<=_;omega
   have HWBB:=Lib.hid hwb
   have HOWN:Hid (∀j,(Value.slice s.a s.n s.c).ownBlock=some j->w.heap.size+2<=j/\j<wr.heap.size):=HLP.out.rr.own
   clear HLP hwd hwb HSE
   have hnw0:¬ wr.heap.size=w.heap.size:=by have:_<=_:=HBIG.out;omega
   have hnw1:¬ w.heap.size=wr.heap.size:=fun e=>hnw0 e.symm
   have hnw2:¬ wr.heap.size=w.heap.size+1:=by have:_<=_:=HBIG.out;omega
   have hnw3:¬ w.heap.size+1=wr.heap.size:=fun e=>hnw2 e.symm
   go_wp2_with fail
   refine KW.out.mono ?_
   rintro r W1 ⟨rfl,HB1⟩
   have HL1:=Lib.hid (HWE.out.below HB1.out)
   have HE1:Hid (W1.heap[wr.heap.size]?=some (.cells #[.int .i64 ln,.bool bl,.slice x.a x.n x.c] 75 (0,0))):=(HB1.out.block _ (by simp)).trans HE0.out
   have HWS1:=Lib.hid (HWS.out.below HB1.out)
   have HBA:=Lib.hid ((new_below wr (.cells #[.int .i64 ln,.bool bl,.slice x.a x.n x.c] 75)).trans (HB1.out.mono (by simp)))
   have HSZ1:Hid (wr.heap.size<W1.heap.size):=(Array.getElem?_eq_some_iff.1 HE1.out).1
   have HMP:=Lib.hid HL1.out.mp
   clear KW HE0 HWS HB1
   generalize foldL (opnF ⟨ln,bl,ws⟩)=WD at*
   have e0:=box_cell HE1.out 0 _ rfl
   have e1:=box_cell HE1.out 1 _ rfl
   have e2:=box_cell HE1.out 2 _ rfl
   have r0:=HL1.out.cy.c0
   have r1:=HL1.out.cy.c1
   have r2:=HL1.out.cy.c2
   have r3:=HL1.out.cy.c3
   have r4:=HL1.out.cy.c4
   have r5:=HL1.out.cy.c5
   have r6:=HL1.out.cy.c6
   have r7:=HL1.out.cy.c7
   have r8:=HL1.out.cy.c8
   rcases cmd_three ⟨ln,bl,ws⟩ with h0|h0|h0
   ·rw[h0] at HCH
    have HH:Hid (Maps.has cmdD (.string WD.data.toList)=false):=HCH.out.1
    have HAT:=Lib.hid HCH.out.2
    have HCF:=Lib.hid h0
    clear HCH h0
    go_wp2_with (first
     |(refine wpList_lookup_own_ok _ rfl _ _ 90 rfl 9 93 keyed9 Tryz.underlying90 fnR (zero93 _) (.lit (.int .i64 0)) [] rfl m 2 cmdD rfl HMP.out _ _ rfl HKEY.out ?_;intro u pu hu;rw[HAT.out] at hu;obtain rfl:=(fnR_inv (k:=0) hu).1 rfl;clear hu;rw[HH.out])
     |fail)
    have KPU:=Lib.hid (put_any (w.heap.size+2) (.slice s.a s.n s.c) rs x ⟨ln,bl,ws⟩ a1 c1 W1 HL1.out.rr (by have:_<=_:=HBIG.out;have:_<_:=HSZ1.out;omega) HRS.out HWS1.out HL1.out.rd (HE.out _ HL1.out.bel).2 (HE.out _ HL1.out.bel).1)
    have HEK:=Lib.hid (fun rc c' (h:entF ⟨ln,bl,ws⟩ c1=.ok (rc,c'))=>ent_keep h HL1.out.kw)
    have HST:=Lib.hid (stp_put (c:=c1) (rs:=rs) HCF.out)
    generalize entF ⟨ln,bl,ws⟩ c1=EF at*
    clear P1 P2 P3 e0 e1 e2 r0 r1 r2 r3 r4 r5 r6 r7 r8 HAT HH HKEY HMP
    refine KPU.out.mono ?_
    rintro r W2 ⟨s2,a2,c2,er,rfl,HGW,HQ⟩
    have HCY2:Hid (CyB W2 w.heap.size a1 c1):=(HGW.out.block _ HL1.out.cy.lt (fun e=>by have:=(HOWN.out _ e.symm).1;omega)).trans HL1.out.cy
    have HFT2:Hid (W2.heap[w.heap.size+1]?=some (.cells #[.int .i64 0,.int .i64 0] 28 (0,0))):=(HGW.out.block _ (Array.getElem?_eq_some_iff.1 HL1.out.ft).1 (fun e=>by have:=(HOWN.out _ e.symm).1;omega)).trans HL1.out.ft
    have HE2:Hid (W2.heap[wr.heap.size]?=some (.cells #[.int .i64 ln,.bool bl,.slice x.a x.n x.c] 75 (0,0))):=(HGW.out.block _ HSZ1.out (fun e=>by have:=(HOWN.out _ e.symm).2;omega)).trans HE1.out
    have HBW2:Hid (Below w.heap.size w W2):=⟨HGW.out.os.trans HL1.out.bel.os,HGW.out.tape.trans HL1.out.bel.tape,HGW.out.output.trans HL1.out.bel.output,Nat.le_trans HL1.out.bel.size HGW.out.size,fun j hj=>(HGW.out.block j (Nat.lt_of_lt_of_le hj HL1.out.bel.size) (fun e=>by have:=(HOWN.out _ e.symm).1;omega)).trans (HL1.out.bel.block j hj)⟩
    have r0:=HCY2.out.c0
    have r1:=HCY2.out.c1
    have r2:=HCY2.out.c2
    have r3:=HCY2.out.c3
    have r4:=HCY2.out.c4
    have r5:=HCY2.out.c5
    have r6:=HCY2.out.c6
    have r7:=HCY2.out.c7
    have r8:=HCY2.out.c8
    have rf0:=HCY2.out.fz 0
    have rf1:=HCY2.out.fz 1
    have rf2:=HCY2.out.fz 2
    have rf3:=HCY2.out.fz 3
    have rf4:=HCY2.out.fz 4
    have rf5:=HCY2.out.fz 5
    have rf6:=HCY2.out.fz 6
    have rf7:=HCY2.out.fz 7
    have rf8:=HCY2.out.fz 8
    have rl:=HCY2.out.lt
    rcases HQ.out with ⟨rfl,rc,xr,hef,hnf,hor,hg,ho,hrf,hrow⟩|⟨hne,herr⟩
    ·have HLN:=Lib.hid (lp_put HL1.out (Below.refl _ _) HGW.out hor hg ho hrf hrow (HEK.out _ _ hef).1 (HEK.out _ _ hef).2.1 (HEK.out _ _ hef).2.2)
     have HNEXT:Hid (RR=allF (es.drop (k+1)) c2 (rs++[rc])):=by
      have hp:putF EF rs=.ok (c2,rs++[rc]):=by
       rw[hef]
       show (if rs.length=2048 then (.error 3:Except Int (Cy × List Rec)) else .ok (c2,rs++[rc]))=_
       rw[if_neg hnf]
      show _=_
      rw[HALL.out,HST.out,hp]
     have HLEN:Hid ((rs++[rc]).length<=2048):=by have:=HRS.out;show _<=_;simp;omega
     clear KPU HALL HST HEK HQ HL1 hef hnf hor hg ho hrf hrow HCY2 HFT2 HE2 HBW2 HGW
     go_wp2_with fail
     exact ⟨⟨k+1,s2,by omega,by go_num,rfl,rs++[rc],c2,a2,HLN.out,HNEXT.out,HLEN.out⟩,by simp[intOf];omega⟩
    ·have hne3:(er != 0)=true:=by simpa using hne
     have HEE:Hid (stpE ⟨ln,bl,ws⟩ c1 rs=.error er):=by show _=_;rw[HST.out];exact herr
     have HFT:Hid (((((((((((W2.setCell ⟨w.heap.size,0,none⟩ (.slice a2.g.a a2.g.n a2.g.c)).setCell ⟨w.heap.size,1,none⟩ (.slice a2.o.a a2.o.n a2.o.c)).setCell ⟨w.heap.size,2,none⟩ (.int .u16 (c2.cl:Int))).setCell ⟨w.heap.size,3,none⟩ (.int .u32 (c2.df:Int))).setCell ⟨w.heap.size,4,none⟩ (.int .u32 (c2.tt:Int))).setCell ⟨w.heap.size,5,none⟩ (.bool c2.ho)).setCell ⟨w.heap.size,6,none⟩ (.bool c2.hc)).setCell ⟨w.heap.size,7,none⟩ (.bool c2.ht)).setCell ⟨w.heap.size,8,none⟩ (.bool c2.sd))).heap[w.heap.size+1]?=some (.cells #[.int .i64 0,.int .i64 0] 28 (0,0))):=(nine_heap W2 w.heap.size _ _ _ _ _ _ _ _ _ _ (by omega)).trans HFT2.out
     have HBN:Hid (Below w.heap.size w (((((((((W2.setCell ⟨w.heap.size,0,none⟩ (.slice a2.g.a a2.g.n a2.g.c)).setCell ⟨w.heap.size,1,none⟩ (.slice a2.o.a a2.o.n a2.o.c)).setCell ⟨w.heap.size,2,none⟩ (.int .u16 (c2.cl:Int))).setCell ⟨w.heap.size,3,none⟩ (.int .u32 (c2.df:Int))).setCell ⟨w.heap.size,4,none⟩ (.int .u32 (c2.tt:Int))).setCell ⟨w.heap.size,5,none⟩ (.bool c2.ho)).setCell ⟨w.heap.size,6,none⟩ (.bool c2.hc)).setCell ⟨w.heap.size,7,none⟩ (.bool c2.ht)).setCell ⟨w.heap.size,8,none⟩ (.bool c2.sd))):=below_nine HBW2.out (Nat.le_refl _) _ _ _ _ _ _ _ _ _
     have y0:=box_cell HE2.out 0 (.int .i64 ln) rfl
     have f0:=box_cell HFT2.out 0 (.int .i64 0) rfl
     have f1:=box_cell HFT2.out 1 (.int .i64 0) rfl
     have ff0:=box_fz HFT2.out 0
     have ff1:=box_fz HFT2.out 1
     have fl:=(Array.getElem?_eq_some_iff.1 HFT2.out).1
     clear KPU HST HEK HQ HL1 HCY2 HFT2 HE2 HBW2 HGW hne herr
     go_wp2_with fail
     go_region_law (fail)
     all_goals
      go_wp2_with fail
      have HZ:=Lib.hid (fin_cells (er:=er) (ln:=ln) HFT.out HBN.out)
      generalize (((((((((((W2.setCell ⟨w.heap.size,0,none⟩ (.slice a2.g.a a2.g.n a2.g.c)).setCell ⟨w.heap.size,1,none⟩ (.slice a2.o.a a2.o.n a2.o.c)).setCell ⟨w.heap.size,2,none⟩ (.int .u16 (c2.cl:Int))).setCell ⟨w.heap.size,3,none⟩ (.int .u32 (c2.df:Int))).setCell ⟨w.heap.size,4,none⟩ (.int .u32 (c2.tt:Int))).setCell ⟨w.heap.size,5,none⟩ (.bool c2.ho)).setCell ⟨w.heap.size,6,none⟩ (.bool c2.hc)).setCell ⟨w.heap.size,7,none⟩ (.bool c2.ht)).setCell ⟨w.heap.size,8,none⟩ (.bool c2.sd)).setCell ⟨w.heap.size+1,0,none⟩ (.int .i64 er)).setCell ⟨w.heap.size+1,1,none⟩ (.int .i64 ln)).drew=W9 at*
      have z0:=HZ.out.1
      have z1:=HZ.out.2.1
      exact bodyPost_ret (v:=.tuple #[.slice none 0 0,.agg #[.int .i64 er,.int .i64 ln]]) (by simp[results,Tryz.results19,go_sem,z0,z1]) rfl ⟨⟨none,0,0⟩,er,ln,rfl,HZ.out.2.2,by
       rw[HALL.out,HEE.out]
       exact ⟨rfl,rfl,rfl⟩⟩
   ·obtain ⟨p,wt,hcons⟩:=cmd_cons (e:=⟨ln,bl,ws⟩) (by rw[h0];decide)
    simp only at hcons
    subst hcons
    rw[h0] at HCH
    have HH:Hid (Maps.has cmdD (.string WD.data.toList)=true):=HCH.out.1
    have HAT:=Lib.hid HCH.out.2
    have HST:Hid (stpE ⟨ln,bl,p::wt⟩ c1 rs=match cmdE 1 wt c1 with
      | .error er=>.error er
      | .ok c'=>.ok (c',rs)):=by
     have:=stp_cmd (c:=c1) (rs:=rs) (e:=⟨ln,bl,p::wt⟩) (by rw[h0];decide)
     rw[h0] at this
     exact this
    obtain ⟨xwa,xwn,xwc⟩:=x
    obtain ⟨b5,o5,e5,-⟩:=HWS1.out.rd.head
    simp only at e5
    subst e5
    have htl:=ws_tail HWS1.out
    have hxn:=htl.1
    subst hxn
    have hxc:wt.length+1<=xwc:=HWS1.out.c
    have hx63:xwc<=9223372036854775807:=HWS1.out.c63
    have HTL:=Lib.hid htl.2
    have HKOB:Hid (∀x2:Sl,Ws W1 x2 wt->∀W,Below W1.heap.size W1 W->Calls Tryz.prog 37 #[.func (.func 61) #[] #[],.slice x2.a x2.n x2.c,caV a1 c1] W (CmP (cmdE 1 wt c1) a1 c1 W)):=fun x2 hx2 W hW=>obey61_any x2 wt a1 c1 W (hx2.below hW) (fun W' s hs h'=>origin_any s hs a1 c1 W' (HL1.out.rd.below (hW.trans (h'.mono hW.size))))
    have HCK:=Lib.hid (fun c' (h:cmdE 1 wt c1=.ok c')=>cmd_keep h HL1.out.rd.k)
    have HKK:Hid (nck c1.og=0):=HL1.out.rd.k
    generalize cmdE 1 wt c1=CE at*
    generalize wt.length=L at*
    clear HCH h0 P1 P2 P3 htl
    have hone:(1:Int)<=(L:Int)+1:=by omega
    obtain ⟨x2,hxs,hx2⟩:∃x2:Sl,(xwc=1->x2=⟨some ⟨b5,o5,none⟩,0,0⟩)/\Ws W1 x2 wt/\(xwc≠1->x2=⟨some ⟨b5,o5+2,none⟩,L,xwc - 1⟩):=by
     by_cases h1:xwc=1
     ·exact ⟨⟨some ⟨b5,o5,none⟩,0,0⟩,fun _=>rfl,HTL.out.2 h1 _,fun h=>absurd h1 h⟩
     ·exact ⟨⟨some ⟨b5,o5+2,none⟩,L,xwc - 1⟩,fun h=>absurd h h1,HTL.out.1 _ (by omega) (by omega),fun _=>rfl⟩
    have KOB:=Lib.hid (HKOB.out x2 hx2.1)
    have HWX:Hid (xwc≠1->x2=⟨some ⟨b5,o5+2,none⟩,L,xwc - 1⟩):=hx2.2
    clear HKOB hx2 HTL
    by_cases hc1:xwc=1
    focus
     have:=hxs hc1
     subst this
     clear hxs HWX
     have hL0:L=0:=by omega
     subst hc1
     subst hL0
    rotate_left
    focus
     have:=HWX.out hc1
     subst this
     clear hxs HWX
     have hx4:¬ xwc<=1:=by omega
     have hx5:¬ xwc - 1=0:=by omega
     have hx6:1<xwc:=by omega
    all_goals
     go_wp2_with (first
      |(refine wpList_lookup_own_ok _ rfl _ _ 90 rfl 9 93 keyed9 Tryz.underlying90 fnR (zero93 _) (.lit (.int .i64 0)) [] rfl m 2 cmdD rfl HMP.out _ _ rfl HKEY.out ?_;intro u pu hu;rw[HAT.out] at hu;obtain rfl:=(fnR_inv (k:=1) hu).2.1 rfl;clear hu;rw[HH.out])
      |fail)
     go_region_with (first
      |(go_at_call 37;refine (KOB.out _ (by first|exact Below.refl _ _|exact (Below.refl _ _).drew)).mono ?_;rintro r W2 ⟨a2,c2,er,rfl,HB2,HQ⟩;have HBW:Hid (Below W1.heap.size W1 W2):=(by first|exact HB2.out|exact (Below.refl _ _).drew.trans HB2.out);have HLW:=Lib.hid (HL1.out.below HBW.out);have HE2:=Lib.hid ((HBW.out.block _ HSZ1.out).trans HE1.out);have t0:=HLW.out.cy.c0;have t1:=HLW.out.cy.c1;have t2:=HLW.out.cy.c2;have t3:=HLW.out.cy.c3;have t4:=HLW.out.cy.c4;have t5:=HLW.out.cy.c5;have t6:=HLW.out.cy.c6;have t7:=HLW.out.cy.c7;have t8:=HLW.out.cy.c8;have tf0:=HLW.out.cy.fz 0;have tf1:=HLW.out.cy.fz 1;have tf2:=HLW.out.cy.fz 2;have tf3:=HLW.out.cy.fz 3;have tf4:=HLW.out.cy.fz 4;have tf5:=HLW.out.cy.fz 5;have tf6:=HLW.out.cy.fz 6;have tf7:=HLW.out.cy.fz 7;have tf8:=HLW.out.cy.fz 8;have tl:=HLW.out.cy.lt;have y0:=box_cell HE2.out 0 (.int .i64 ln) rfl;have f0:=box_cell HLW.out.ft 0 (.int .i64 0) rfl;have f1:=box_cell HLW.out.ft 1 (.int .i64 0) rfl;have ff0:=box_fz HLW.out.ft 0;have ff1:=box_fz HLW.out.ft 1;have fl:=(Array.getElem?_eq_some_iff.1 HLW.out.ft).1)
      |fail)
     all_goals
      clear e0 e1 e2 r0 r1 r2 r3 r4 r5 r6 r7 r8 HAT HH HKEY HMP KOB
      rcases HQ.out with ⟨rfl,hce,ho,hg⟩|⟨hne,hce⟩
      ·have HLN:=Lib.hid (lp_cmd HL1.out HBW.out ho hg (by first|exact Nat.le_refl _|(simp)) (HCK.out _ hce).1 (HCK.out _ hce).2)
       have HNEXT:Hid (RR=allF (es.drop (k+1)) c2 rs):=by
        show _=_
        rw[HALL.out,HST.out,hce]
       clear HALL HST HQ HL1 HB2 HBW HLW HE2 hce ho hg HCK
       go_wp2_with fail
       exact ⟨⟨k+1,s,by omega,by go_num,rfl,rs,c2,a2,HLN.out,HNEXT.out,HRS.out⟩,by simp[intOf];omega⟩
      ·have hne3:(er != 0)=true:=by simpa using hne
       have HEE:Hid (stpE ⟨ln,bl,p::wt⟩ c1 rs=.error er):=by show _=_;rw[HST.out,hce]
       have HFT:Hid (((((((((((W2.setCell ⟨w.heap.size,0,none⟩ (.slice a2.g.a a2.g.n a2.g.c)).setCell ⟨w.heap.size,1,none⟩ (.slice a2.o.a a2.o.n a2.o.c)).setCell ⟨w.heap.size,2,none⟩ (.int .u16 (c2.cl:Int))).setCell ⟨w.heap.size,3,none⟩ (.int .u32 (c2.df:Int))).setCell ⟨w.heap.size,4,none⟩ (.int .u32 (c2.tt:Int))).setCell ⟨w.heap.size,5,none⟩ (.bool c2.ho)).setCell ⟨w.heap.size,6,none⟩ (.bool c2.hc)).setCell ⟨w.heap.size,7,none⟩ (.bool c2.ht)).setCell ⟨w.heap.size,8,none⟩ (.bool c2.sd))).heap[w.heap.size+1]?=some (.cells #[.int .i64 0,.int .i64 0] 28 (0,0))):=(nine_heap W2 w.heap.size _ _ _ _ _ _ _ _ _ _ (by omega)).trans HLW.out.ft
       have HBN:Hid (Below w.heap.size w (((((((((W2.setCell ⟨w.heap.size,0,none⟩ (.slice a2.g.a a2.g.n a2.g.c)).setCell ⟨w.heap.size,1,none⟩ (.slice a2.o.a a2.o.n a2.o.c)).setCell ⟨w.heap.size,2,none⟩ (.int .u16 (c2.cl:Int))).setCell ⟨w.heap.size,3,none⟩ (.int .u32 (c2.df:Int))).setCell ⟨w.heap.size,4,none⟩ (.int .u32 (c2.tt:Int))).setCell ⟨w.heap.size,5,none⟩ (.bool c2.ho)).setCell ⟨w.heap.size,6,none⟩ (.bool c2.hc)).setCell ⟨w.heap.size,7,none⟩ (.bool c2.ht)).setCell ⟨w.heap.size,8,none⟩ (.bool c2.sd))):=below_nine HLW.out.bel (Nat.le_refl _) _ _ _ _ _ _ _ _ _
       clear HST HQ HL1 HB2 HBW HLW HE2 hne hce HCK
       go_wp2_with fail
       go_region_law (fail)
       all_goals
        go_wp2_with fail
        have HZ:=Lib.hid (fin_cells (er:=er) (ln:=ln) HFT.out HBN.out)
        generalize (((((((((((W2.setCell ⟨w.heap.size,0,none⟩ (.slice a2.g.a a2.g.n a2.g.c)).setCell ⟨w.heap.size,1,none⟩ (.slice a2.o.a a2.o.n a2.o.c)).setCell ⟨w.heap.size,2,none⟩ (.int .u16 (c2.cl:Int))).setCell ⟨w.heap.size,3,none⟩ (.int .u32 (c2.df:Int))).setCell ⟨w.heap.size,4,none⟩ (.int .u32 (c2.tt:Int))).setCell ⟨w.heap.size,5,none⟩ (.bool c2.ho)).setCell ⟨w.heap.size,6,none⟩ (.bool c2.hc)).setCell ⟨w.heap.size,7,none⟩ (.bool c2.ht)).setCell ⟨w.heap.size,8,none⟩ (.bool c2.sd)).setCell ⟨w.heap.size+1,0,none⟩ (.int .i64 er)).setCell ⟨w.heap.size+1,1,none⟩ (.int .i64 ln)).drew=W9 at*
        have z0:=HZ.out.1
        have z1:=HZ.out.2.1
        exact bodyPost_ret (v:=.tuple #[.slice none 0 0,.agg #[.int .i64 er,.int .i64 ln]]) (by simp[results,Tryz.results19,go_sem,z0,z1]) rfl ⟨⟨none,0,0⟩,er,ln,rfl,HZ.out.2.2,by
         rw[HALL.out,HEE.out]
         exact ⟨rfl,rfl,rfl⟩⟩
   ·obtain ⟨p,wt,hcons⟩:=cmd_cons (e:=⟨ln,bl,ws⟩) (by rw[h0];decide)
    simp only at hcons
    subst hcons
    rw[h0] at HCH
    have HH:Hid (Maps.has cmdD (.string WD.data.toList)=true):=HCH.out.1
    have HAT:=Lib.hid HCH.out.2
    have HST:Hid (stpE ⟨ln,bl,p::wt⟩ c1 rs=match cmdE 2 wt c1 with
      | .error er=>.error er
      | .ok c'=>.ok (c',rs)):=by
     have:=stp_cmd (c:=c1) (rs:=rs) (e:=⟨ln,bl,p::wt⟩) (by rw[h0];decide)
     rw[h0] at this
     exact this
    obtain ⟨xwa,xwn,xwc⟩:=x
    obtain ⟨b5,o5,e5,-⟩:=HWS1.out.rd.head
    simp only at e5
    subst e5
    have htl:=ws_tail HWS1.out
    have hxn:=htl.1
    subst hxn
    have hxc:wt.length+1<=xwc:=HWS1.out.c
    have hx63:xwc<=9223372036854775807:=HWS1.out.c63
    have HTL:=Lib.hid htl.2
    have HKOB:Hid (∀x2:Sl,Ws W1 x2 wt->∀W,Below W1.heap.size W1 W->Calls Tryz.prog 37 #[.func (.func 62) #[] #[],.slice x2.a x2.n x2.c,caV a1 c1] W (CmP (cmdE 2 wt c1) a1 c1 W)):=fun x2 hx2 W hW=>obey62_any x2 wt a1 c1 W (hx2.below hW) (fun W' s hs h'=>default_any s hs a1 c1 W' ((HE.out _ (HL1.out.bel.trans ((hW.trans (h'.mono hW.size)).mono HL1.out.bel.size))).2) ((HE.out _ (HL1.out.bel.trans ((hW.trans (h'.mono hW.size)).mono HL1.out.bel.size))).1))
    have HCK:=Lib.hid (fun c' (h:cmdE 2 wt c1=.ok c')=>cmd_keep h HL1.out.rd.k)
    have HKK:Hid (nck c1.og=0):=HL1.out.rd.k
    generalize cmdE 2 wt c1=CE at*
    generalize wt.length=L at*
    clear HCH h0 P1 P2 P3 htl
    have hone:(1:Int)<=(L:Int)+1:=by omega
    obtain ⟨x2,hxs,hx2⟩:∃x2:Sl,(xwc=1->x2=⟨some ⟨b5,o5,none⟩,0,0⟩)/\Ws W1 x2 wt/\(xwc≠1->x2=⟨some ⟨b5,o5+2,none⟩,L,xwc - 1⟩):=by
     by_cases h1:xwc=1
     ·exact ⟨⟨some ⟨b5,o5,none⟩,0,0⟩,fun _=>rfl,HTL.out.2 h1 _,fun h=>absurd h1 h⟩
     ·exact ⟨⟨some ⟨b5,o5+2,none⟩,L,xwc - 1⟩,fun h=>absurd h h1,HTL.out.1 _ (by omega) (by omega),fun _=>rfl⟩
    have KOB:=Lib.hid (HKOB.out x2 hx2.1)
    have HWX:Hid (xwc≠1->x2=⟨some ⟨b5,o5+2,none⟩,L,xwc - 1⟩):=hx2.2
    clear HKOB hx2 HTL
    by_cases hc1:xwc=1
    focus
     have:=hxs hc1
     subst this
     clear hxs HWX
     have hL0:L=0:=by omega
     subst hc1
     subst hL0
    rotate_left
    focus
     have:=HWX.out hc1
     subst this
     clear hxs HWX
     have hx4:¬ xwc<=1:=by omega
     have hx5:¬ xwc - 1=0:=by omega
     have hx6:1<xwc:=by omega
    all_goals
     go_wp2_with (first
      |(refine wpList_lookup_own_ok _ rfl _ _ 90 rfl 9 93 keyed9 Tryz.underlying90 fnR (zero93 _) (.lit (.int .i64 0)) [] rfl m 2 cmdD rfl HMP.out _ _ rfl HKEY.out ?_;intro u pu hu;rw[HAT.out] at hu;obtain rfl:=(fnR_inv (k:=2) hu).2.2 rfl;clear hu;rw[HH.out])
      |fail)
     go_region_with (first
      |(go_at_call 37;refine (KOB.out _ (by first|exact Below.refl _ _|exact (Below.refl _ _).drew)).mono ?_;rintro r W2 ⟨a2,c2,er,rfl,HB2,HQ⟩;have HBW:Hid (Below W1.heap.size W1 W2):=(by first|exact HB2.out|exact (Below.refl _ _).drew.trans HB2.out);have HLW:=Lib.hid (HL1.out.below HBW.out);have HE2:=Lib.hid ((HBW.out.block _ HSZ1.out).trans HE1.out);have t0:=HLW.out.cy.c0;have t1:=HLW.out.cy.c1;have t2:=HLW.out.cy.c2;have t3:=HLW.out.cy.c3;have t4:=HLW.out.cy.c4;have t5:=HLW.out.cy.c5;have t6:=HLW.out.cy.c6;have t7:=HLW.out.cy.c7;have t8:=HLW.out.cy.c8;have tf0:=HLW.out.cy.fz 0;have tf1:=HLW.out.cy.fz 1;have tf2:=HLW.out.cy.fz 2;have tf3:=HLW.out.cy.fz 3;have tf4:=HLW.out.cy.fz 4;have tf5:=HLW.out.cy.fz 5;have tf6:=HLW.out.cy.fz 6;have tf7:=HLW.out.cy.fz 7;have tf8:=HLW.out.cy.fz 8;have tl:=HLW.out.cy.lt;have y0:=box_cell HE2.out 0 (.int .i64 ln) rfl;have f0:=box_cell HLW.out.ft 0 (.int .i64 0) rfl;have f1:=box_cell HLW.out.ft 1 (.int .i64 0) rfl;have ff0:=box_fz HLW.out.ft 0;have ff1:=box_fz HLW.out.ft 1;have fl:=(Array.getElem?_eq_some_iff.1 HLW.out.ft).1)
      |fail)
     all_goals
      clear e0 e1 e2 r0 r1 r2 r3 r4 r5 r6 r7 r8 HAT HH HKEY HMP KOB
      rcases HQ.out with ⟨rfl,hce,ho,hg⟩|⟨hne,hce⟩
      ·have HLN:=Lib.hid (lp_cmd HL1.out HBW.out ho hg (by first|exact Nat.le_refl _|(simp)) (HCK.out _ hce).1 (HCK.out _ hce).2)
       have HNEXT:Hid (RR=allF (es.drop (k+1)) c2 rs):=by
        show _=_
        rw[HALL.out,HST.out,hce]
       clear HALL HST HQ HL1 HB2 HBW HLW HE2 hce ho hg HCK
       go_wp2_with fail
       exact ⟨⟨k+1,s,by omega,by go_num,rfl,rs,c2,a2,HLN.out,HNEXT.out,HRS.out⟩,by simp[intOf];omega⟩
      ·have hne3:(er != 0)=true:=by simpa using hne
       have HEE:Hid (stpE ⟨ln,bl,p::wt⟩ c1 rs=.error er):=by show _=_;rw[HST.out,hce]
       have HFT:Hid (((((((((((W2.setCell ⟨w.heap.size,0,none⟩ (.slice a2.g.a a2.g.n a2.g.c)).setCell ⟨w.heap.size,1,none⟩ (.slice a2.o.a a2.o.n a2.o.c)).setCell ⟨w.heap.size,2,none⟩ (.int .u16 (c2.cl:Int))).setCell ⟨w.heap.size,3,none⟩ (.int .u32 (c2.df:Int))).setCell ⟨w.heap.size,4,none⟩ (.int .u32 (c2.tt:Int))).setCell ⟨w.heap.size,5,none⟩ (.bool c2.ho)).setCell ⟨w.heap.size,6,none⟩ (.bool c2.hc)).setCell ⟨w.heap.size,7,none⟩ (.bool c2.ht)).setCell ⟨w.heap.size,8,none⟩ (.bool c2.sd))).heap[w.heap.size+1]?=some (.cells #[.int .i64 0,.int .i64 0] 28 (0,0))):=(nine_heap W2 w.heap.size _ _ _ _ _ _ _ _ _ _ (by omega)).trans HLW.out.ft
       have HBN:Hid (Below w.heap.size w (((((((((W2.setCell ⟨w.heap.size,0,none⟩ (.slice a2.g.a a2.g.n a2.g.c)).setCell ⟨w.heap.size,1,none⟩ (.slice a2.o.a a2.o.n a2.o.c)).setCell ⟨w.heap.size,2,none⟩ (.int .u16 (c2.cl:Int))).setCell ⟨w.heap.size,3,none⟩ (.int .u32 (c2.df:Int))).setCell ⟨w.heap.size,4,none⟩ (.int .u32 (c2.tt:Int))).setCell ⟨w.heap.size,5,none⟩ (.bool c2.ho)).setCell ⟨w.heap.size,6,none⟩ (.bool c2.hc)).setCell ⟨w.heap.size,7,none⟩ (.bool c2.ht)).setCell ⟨w.heap.size,8,none⟩ (.bool c2.sd))):=below_nine HLW.out.bel (Nat.le_refl _) _ _ _ _ _ _ _ _ _
       clear HST HQ HL1 HB2 HBW HLW HE2 hne hce HCK
       go_wp2_with fail
       go_region_law (fail)
       all_goals
        go_wp2_with fail
        have HZ:=Lib.hid (fin_cells (er:=er) (ln:=ln) HFT.out HBN.out)
        generalize (((((((((((W2.setCell ⟨w.heap.size,0,none⟩ (.slice a2.g.a a2.g.n a2.g.c)).setCell ⟨w.heap.size,1,none⟩ (.slice a2.o.a a2.o.n a2.o.c)).setCell ⟨w.heap.size,2,none⟩ (.int .u16 (c2.cl:Int))).setCell ⟨w.heap.size,3,none⟩ (.int .u32 (c2.df:Int))).setCell ⟨w.heap.size,4,none⟩ (.int .u32 (c2.tt:Int))).setCell ⟨w.heap.size,5,none⟩ (.bool c2.ho)).setCell ⟨w.heap.size,6,none⟩ (.bool c2.hc)).setCell ⟨w.heap.size,7,none⟩ (.bool c2.ht)).setCell ⟨w.heap.size,8,none⟩ (.bool c2.sd)).setCell ⟨w.heap.size+1,0,none⟩ (.int .i64 er)).setCell ⟨w.heap.size+1,1,none⟩ (.int .i64 ln)).drew=W9 at*
        have z0:=HZ.out.1
        have z1:=HZ.out.2.1
        exact bodyPost_ret (v:=.tuple #[.slice none 0 0,.agg #[.int .i64 er,.int .i64 ln]]) (by simp[results,Tryz.results19,go_sem,z0,z1]) rfl ⟨⟨none,0,0⟩,er,ln,rfl,HZ.out.2.2,by
         rw[HALL.out,HEE.out]
         exact ⟨rfl,rfl,rfl⟩⟩
  ·have hkn:k=n:=by omega
   subst hkn
   have HFT:=Lib.hid hlp.ft
   have HBN:=Lib.hid hlp.bel
   have HRR:Hid (OwR w.heap.size wr (.slice s.a s.n s.c) rs):=hlp.rr.mono (by omega)
   have HALL:Hid (allF es c []=.ok rs):=by
    show _=_
    rw[hall,List.drop_eq_nil_of_le (by have:=HN.out;omega)]
    rfl
   have f0:=box_cell HFT.out 0 (.int .i64 0) rfl
   have f1:=box_cell HFT.out 1 (.int .i64 0) rfl
   have ff0:=box_fz HFT.out 0
   have ff1:=box_fz HFT.out 1
   have fl:=(Array.getElem?_eq_some_iff.1 HFT.out).1
   have HZ:=Lib.hid (fin_end HFT.out HBN.out hlp.rr)
   clear hlp hall hrs HLP HRR
   go_wp2_with fail
   rw[HALL.out]
   generalize ((wr.setCell ⟨w.heap.size+1,0,none⟩ (.int .i64 0)).setCell ⟨w.heap.size+1,1,none⟩ (.int .i64 0))=W9 at*
   have z0:=HZ.out.1
   have z1:=HZ.out.2.1
   exact bodyPost_ret (v:=.tuple #[.slice s.a s.n s.c,.agg #[.int .i64 0,.int .i64 0]]) (by simp[results,Tryz.results19,go_sem,z0,z1]) rfl ⟨s,0,0,rfl,HZ.out.2.2.1,⟨rfl,rfl,HZ.out.2.2.2,HRS.out⟩⟩
theorem wtxt_ge(p:Wd):p.1.size<=(wtxt p).length:=by
 obtain ⟨s,q⟩:=p
 cases q <;> simp[wtxt] <;> omega
theorem mem_sum_le:∀(l:List Nat) (x:Nat),x∈l->x<=l.sum
 |[],x,h=>by cases h
 |a::l,x,h=>by
  rcases List.mem_cons.1 h with h|h
  ·subst h;simp
  ·have:=mem_sum_le l x h;simp;omega
theorem ents_wb{s:List UInt8}{es:List En}(h:entsF s=.ok es):∀e∈es,WB e.ws:=by
 intro e he
 have h1:=ents_ok h
 have h2:s.length<=65536:=by
  unfold entsF at h
  split at h
  ·cases h
  ·omega
 refine ⟨by have:=(h1.1 e he).2.1;omega,fun p hp=>?_⟩
 have a1:=wtxt_ge p
 have a2:(wtxt p).length<=wsum e.ws:=mem_sum_le _ _ (List.mem_map.2 ⟨p,hp,rfl⟩)
 have a3:wsum e.ws<=esum es:=mem_sum_le _ _ (List.mem_map.2 ⟨e,he,rfl⟩)
 omega
theorem ents_er0{s:List UInt8}{e l:Nat}(h:entsF s=.er e l):e≠0:=by
 by_cases hl:s.length<=65536
 ·rcases (ents_er hl h).1 with h|h <;> omega
 ·unfold entsF at h
  rw[if_pos (by omega)] at h
  cases h
  decide
theorem par_end{w V:World}{er ln e0 l0:Int}(hf:V.heap[w.heap.size]?=some (.cells #[.int .i64 e0,.int .i64 l0] 28 (0,0)))(hb:Below w.heap.size w V):((V.setCell ⟨w.heap.size,0,none⟩ (.int .i64 er)).setCell ⟨w.heap.size,1,none⟩ (.int .i64 ln)).cell? ⟨w.heap.size,0,none⟩=some (.int .i64 er)/\((V.setCell ⟨w.heap.size,0,none⟩ (.int .i64 er)).setCell ⟨w.heap.size,1,none⟩ (.int .i64 ln)).cell? ⟨w.heap.size,1,none⟩=some (.int .i64 ln)/\Below w.heap.size w ((V.setCell ⟨w.heap.size,0,none⟩ (.int .i64 er)).setCell ⟨w.heap.size,1,none⟩ (.int .i64 ln))/\(∀B v rs,w.heap.size<B->OwR B V v rs->OwR w.heap.size ((V.setCell ⟨w.heap.size,0,none⟩ (.int .i64 er)).setCell ⟨w.heap.size,1,none⟩ (.int .i64 ln)) v rs):=by
 have h1:=heap_set hf 0 (.int .i64 er)
 have h2:=heap_set h1 1 (.int .i64 ln)
 have h3:((V.setCell ⟨w.heap.size,0,none⟩ (.int .i64 er)).setCell ⟨w.heap.size,1,none⟩ (.int .i64 ln)).heap[w.heap.size]?=some (.cells #[.int .i64 er,.int .i64 ln] 28 (0,0)):=h2
 have h4:=(hb.setCell (p:=⟨w.heap.size,0,none⟩) (Nat.le_refl _) (.int .i64 er)).setCell (p:=⟨w.heap.size,1,none⟩) (Nat.le_refl _) (.int .i64 ln)
 have h0:=((Below.refl 0 V).setCell (p:=⟨w.heap.size,0,none⟩) (Nat.zero_le _) (.int .i64 er)).setCell (p:=⟨w.heap.size,1,none⟩) (Nat.zero_le _) (.int .i64 ln)
 have hh:∀j,j≠w.heap.size->((V.setCell ⟨w.heap.size,0,none⟩ (.int .i64 er)).setCell ⟨w.heap.size,1,none⟩ (.int .i64 ln)).heap[j]?=V.heap[j]?:=fun j hj=>(Below.heap_setCell _ _ _ j (by show j≠w.heap.size;exact hj)).trans (Below.heap_setCell _ _ _ j (by show j≠w.heap.size;exact hj))
 exact ⟨box_cell h3 0 _ rfl,box_cell h3 1 _ rfl,h4,fun B v rs hB hr=>(hr.keep2 h0.size ⟨h0.os,h0.tape,h0.output⟩ (fun j e1 e2=>hh j (by omega)) w.heap.size hB (fun j e1 e2=>hh j e2)).mono (by omega)⟩
theorem parse_any8(t:ByteArray)(oa:Option Addr)(on oc:Nat)(og:List ByteArray)(w:World)(ho:Nm w oa on og)(hE:LayE w)(hL:LayT w):Calls Tryz.prog 8 #[.string t,.slice oa on oc] w (AlP (mstF t og) w):=by
 have KN:=Lib.hid (fun W (hW:Below w.heap.size w W)=>pm_check oc (ho.below hW))
 have HE:Hid (∀W,Below w.heap.size w W->LayT W/\LayE W/\Nm W oa on og):=fun W hW=>⟨hL.below hW,hE.below hW,ho.below hW⟩
 have HW1:Hid (Below w.heap.size w (w.alloc (.cells #[.int .i64 0,.int .i64 0] 28))/\(w.alloc (.cells #[.int .i64 0,.int .i64 0] 28)).heap[w.heap.size]?=some (.cells #[.int .i64 0,.int .i64 0] 28 (0,0))):=⟨new_below _ _,heap_alloc_new _ _⟩
 have KN1:=Lib.hid (KN.out _ HW1.out.1)
 clear ho hE hL KN
 by_cases hk:nck og=0
 ·rw[hk] at KN1
  have KE:=Lib.hid (entries12 t (w.alloc (.cells #[.int .i64 0,.int .i64 0] 28)))
  have HM:Hid (mstF t og=match entsF t.data.toList with
   | .er e l=>.er e l
   | .ok es=>allF es (cy0 og) []):=by
   show _=_
   unfold mstF
   rw[if_pos hk]
   cases entsF t.data.toList <;> rfl
  have HERE:Hid (∀e l,entsF t.data.toList=.er e l->e≠0):=fun e l h=>ents_er0 h
  have HWBE:Hid (∀es,entsF t.data.toList=.ok es->∀e∈es,WB e.ws):=fun es h=>ents_wb h
  have HKK:=Lib.hid hk
  generalize mstF t og=R at*
  generalize entsF t.data.toList=RE at*
  clear hk
  go_enter Tryz.func8,Tryz.ntmps8
  go_wp2_with fail
  refine KN1.out.mono ?_
  rintro r w1 ⟨rfl,rfl⟩
  go_wp2_with fail
  refine KE.out.mono ?_
  rintro r W2 ⟨v,ea,eb,rfl,HQ⟩
  clear KN1 KE
  cases RE with
  |er e1 l1=>
   obtain ⟨hv,ha,hb,hbel⟩:v=.slice none 0 0/\ea=e1/\eb=l1/\Below (w.alloc (.cells #[.int .i64 0,.int .i64 0] 28)).heap.size (w.alloc (.cells #[.int .i64 0,.int .i64 0] 28)) W2:=HQ.out
   subst hv
   subst ha
   subst hb
   have HB2:=Lib.hid hbel
   have hne:=HERE.out ea eb rfl
   have hne1:¬ (ea:Int)=0:=by omega
   have hne2:((ea:Int) != 0)=true:=by simpa using hne1
   have gl:w.heap.size<W2.heap.size:=by have:=HB2.out.size;simp at this;omega
   have HFT:Hid (W2.heap[w.heap.size]?=some (.cells #[.int .i64 0,.int .i64 0] 28 (0,0))):=(HB2.out.block _ (by simp)).trans HW1.out.2
   have HBN:Hid (Below w.heap.size w W2):=HW1.out.1.trans (HB2.out.mono HW1.out.1.size)
   have HP:=Lib.hid (par_end (er:=(ea:Int)) (ln:=(eb:Int)) HFT.out HBN.out)
   have HMM:=Lib.hid HM.out
   have gne:¬ w.heap.size=W2.heap.size:=by omega
   have gne2:¬ W2.heap.size=w.heap.size:=by omega
   have HU:Hid (w.heap.size<((W2.setCell ⟨w.heap.size,0,none⟩ (.int .i64 (ea:Int))).setCell ⟨w.heap.size,1,none⟩ (.int .i64 (eb:Int))).heap.size):=by have:=HP.out.2.2.1.size;show _<_;simp[World.setCell];exact gl
   clear HQ hbel HW1 HWBE HERE HM HE HKK HB2
   have f0:=box_cell HFT.out 0 (.int .i64 0) rfl
   have f1:=box_cell HFT.out 1 (.int .i64 0) rfl
   have ff0:=box_fz HFT.out 0
   have ff1:=box_fz HFT.out 1
   go_wp2_with fail
   go_region_law (fail)
   all_goals
    go_wp2_with fail
    generalize ((W2.setCell ⟨w.heap.size,0,none⟩ (.int .i64 (ea:Int))).setCell ⟨w.heap.size,1,none⟩ (.int .i64 (eb:Int)))=U at*
    have z0:=((new_below U (.cells #[.int .i64 (ea:Int),.int .i64 (eb:Int)] 28)).cell (p:=⟨w.heap.size,0,none⟩) HU.out).trans HP.out.1
    have z1:=((new_below U (.cells #[.int .i64 (ea:Int),.int .i64 (eb:Int)] 28)).cell (p:=⟨w.heap.size,1,none⟩) HU.out).trans HP.out.2.1
    have HBF:Hid (Below w.heap.size w (U.alloc (.cells #[.int .i64 (ea:Int),.int .i64 (eb:Int)] 28)).drew):=(HP.out.2.2.1.trans ((new_below U _).mono HP.out.2.2.1.size)).drew
    exact bodyPost_ret (v:=.tuple #[.slice none 0 0,.agg #[.int .i64 (ea:Int),.int .i64 (eb:Int)]]) (by simp[results,Tryz.results8,go_sem,z0,z1]) rfl ⟨⟨none,0,0⟩,ea,eb,rfl,HBF.out,by
     rw[HMM.out]
     exact ⟨rfl,rfl,rfl⟩⟩
  |ok es=>
   obtain ⟨ha,hb,how,hbel⟩:ea=0/\eb=0/\OwE (w.alloc (.cells #[.int .i64 0,.int .i64 0] 28)).heap.size W2 v es/\Below (w.alloc (.cells #[.int .i64 0,.int .i64 0] 28)).heap.size (w.alloc (.cells #[.int .i64 0,.int .i64 0] 28)) W2:=HQ.out
   subst ha
   subst hb
   obtain ⟨xa,xc,rfl,hrd,hc1,hc2⟩:=how.rd
   have HRD:=Lib.hid hrd
   have HB2:=Lib.hid hbel
   have HBN:Hid (Below w.heap.size w W2):=HW1.out.1.trans (HB2.out.mono HW1.out.1.size)
   have HBB:Hid (Below w.heap.size w (W2.alloc (.cells #[.int .i64 0,.int .i64 0] 28))):=HBN.out.trans ((new_below W2 _).mono HBN.out.size)
   have HFT:Hid ((W2.alloc (.cells #[.int .i64 0,.int .i64 0] 28)).heap[w.heap.size]?=some (.cells #[.int .i64 0,.int .i64 0] 28 (0,0))):=by
    have h1:w.heap.size<W2.heap.size:=by have:=HB2.out.size;simp at this;omega
    exact ((new_below W2 _).block _ h1).trans ((HB2.out.block _ (by simp)).trans HW1.out.2)
   have HMM:Hid (R=allF es (cy0 og) []):=HM.out
   have KA:=Lib.hid (readall_any ⟨xa,es.length,xc⟩ es ⟨⟨oa,on,oc⟩,⟨none,0,0⟩⟩ (cy0 og) (W2.alloc (.cells #[.int .i64 0,.int .i64 0] 28)) (HRD.out.below (new_below W2 _)) rfl hc1 hc2 (HWBE.out es rfl) ⟨(HE.out _ HBB.out).2.2,nm_nil _ _,HKK.out⟩ nck_nil6 (HE.out _ HBB.out).2.1 (HE.out _ HBB.out).1)
   rw[<- HMM.out] at KA
   clear HQ how hbel hrd HM HE HWBE HERE HRD HB2 HW1 HKK HMM
   go_wp2_with fail
   refine KA.out.mono ?_
   rintro r W3 ⟨s',er,ln,rfl,HB3,HQ3⟩
   have HFT3:Hid (W3.heap[w.heap.size]?=some (.cells #[.int .i64 0,.int .i64 0] 28 (0,0))):=(HB3.out.block _ (Array.getElem?_eq_some_iff.1 HFT.out).1).trans HFT.out
   have HBN3:Hid (Below w.heap.size w W3):=HBB.out.trans (HB3.out.mono HBB.out.size)
   have HP:=Lib.hid (par_end (er:=er) (ln:=ln) HFT3.out HBN3.out)
   have HBZ:Hid (w.heap.size<(W2.alloc (.cells #[.int .i64 0,.int .i64 0] 28)).heap.size):=(Array.getElem?_eq_some_iff.1 HFT.out).1
   have f0:=box_cell HFT3.out 0 (.int .i64 0) rfl
   have f1:=box_cell HFT3.out 1 (.int .i64 0) rfl
   have ff0:=box_fz HFT3.out 0
   have ff1:=box_fz HFT3.out 1
   have fl:=(Array.getElem?_eq_some_iff.1 HFT3.out).1
   clear KA HB3 HFT HBB HBN
   go_wp2_with fail
   generalize ((W3.setCell ⟨w.heap.size,0,none⟩ (.int .i64 er)).setCell ⟨w.heap.size,1,none⟩ (.int .i64 ln))=U at*
   have z0:=HP.out.1
   have z1:=HP.out.2.1
   exact bodyPost_ret (v:=.tuple #[.slice s'.a s'.n s'.c,.agg #[.int .i64 er,.int .i64 ln]]) (by simp[results,Tryz.results8,go_sem,z0,z1]) rfl ⟨s',er,ln,rfl,HP.out.2.2.1,by
    cases R with
    |er e1 l1=>exact HQ3.out
    |ok rs=>exact ⟨HQ3.out.1,HQ3.out.2.1,HP.out.2.2.2 _ _ _ HBZ.out HQ3.out.2.2.1,HQ3.out.2.2.2⟩⟩
 ·have hk2:(nck og != 0)=true:=by simpa using hk
  have HM:Hid (mstF t og=.er (nck og) 0):=by
   show _=_
   unfold mstF
   rw[if_neg hk]
  rw[HM.out]
  generalize nck og=q at*
  have HB0:Hid (∀o:Obj,Below w.heap.size w (w.alloc o)):=fun o=>new_below w o
  clear HW1 hk HM HE
  go_enter Tryz.func8,Tryz.ntmps8
  go_wp2_with fail
  refine KN1.out.mono ?_
  rintro r w1 ⟨rfl,rfl⟩
  go_wp2_with fail
  exact bodyPost_ret (v:=.tuple #[.slice none 0 0,.agg #[.int .i64 q,.int .i64 0]]) (by simp[results,Tryz.results8,go_sem]) rfl ⟨⟨none,0,0⟩,q,0,rfl,HB0.out _,⟨rfl,rfl,rfl⟩⟩
theorem alloc_at(w:World)(o:Obj):(w.alloc o).heap[w.heap.size]?=some o:=by
 show (w.heap.push o)[w.heap.size]?=some o
 simp
theorem block_lt{W:World}{b:Nat}{o:Obj}(h:W.heap[b]?=some o):b<W.heap.size:=by
 rcases Nat.lt_or_ge b W.heap.size with h1|h1
 ·exact h1
 ·rw[Array.getElem?_eq_none h1] at h;cases h
theorem block_alloc{W:World}{b:Nat}{o:Obj}(h:W.heap[b]?=some o)(x:Obj):(W.alloc x).heap[b]?=some o:=(Below.heap_alloc W x b (block_lt h)).trans h
theorem cell_of_block{W:World}{D i:Nat}{cs:Array Value}{ty:TypeId}{v:Value}(hD:W.heap[D]?=some (.cells cs ty))(hv:cs[i]?=some v):W.cell? ⟨D,i,none⟩=some v:=by
 simp[World.cell?,hD,hv]
def Sames(f:Nat)(w:World)(x y:Value):Prop:=∀W,Below w.heap.size w W->Calls Tryz.prog f #[x,y] W fun e w'=>e=.returned (.bool true)/\Below W.heap.size W w'
theorem samer26(x y:RA)(r:Rec)(w:World)(h1:RRd w x r)(h2:RRd w y r) :
  Calls Tryz.prog 26 #[.agg (recCells x r).toArray,.agg (recCells y r).toArray] w fun e w'=>e=.returned (.bool true)/\Below w.heap.size w w':=by
 have KD:∀W,Below w.heap.size w W->Hid (Calls Tryz.prog 47 #[.agg #[.slice x.d.p1.a x.d.p1.n x.d.p1.c,.slice x.d.p2.a x.d.p2.n x.d.p2.c,.slice x.d.p3.a x.d.p3.n x.d.p3.c,.slice x.d.p4.a x.d.p4.n x.d.p4.c],.agg #[.slice y.d.p1.a y.d.p1.n y.d.p1.c,.slice y.d.p2.a y.d.p2.n y.d.p2.c,.slice y.d.p3.a y.d.p3.n y.d.p3.c,.slice y.d.p4.a y.d.p4.n y.d.p4.c]] W fun e w'=>e=.returned (.bool true)/\Hid (Below W.heap.size W w')):=fun W hb=>samedata_yes x.d y.d r.d W (h1.2.below hb) (h2.2.below hb)
 have hnn:x.o.n=y.o.n:=h1.1.len.symm.trans h2.1.len
 have KN:∀W,Below w.heap.size w W->Hid (Calls Tryz.prog 46 #[.slice x.o.a x.o.n x.o.c,.slice y.o.a x.o.n y.o.c] W fun e w'=>e=.returned (.bool true)/\Hid (Below W.heap.size W w')):=fun W hb=>sameN_yes x.o.a y.o.a x.o.n x.o.c y.o.c r.ow W (h1.1.rd.below hb) (h2.1.rd.below hb) h1.1.len (Nat.le_trans h1.1.cap.1 h1.1.cap.2)
 clear h1 h2
 obtain ⟨⟨xa,xn,xc⟩,⟨⟨xa1,xn1,xc1⟩,⟨xa2,xn2,xc2⟩,⟨xa3,xn3,xc3⟩,⟨xa4,xn4,xc4⟩⟩⟩:=x
 obtain ⟨⟨ya,yn,yc⟩,⟨⟨ya1,yn1,yc1⟩,⟨ya2,yn2,yc2⟩,⟨ya3,yn3,yc3⟩,⟨ya4,yn4,yc4⟩⟩⟩:=y
 obtain ⟨ow,t,cl,tt,d⟩:=r
 simp only at KD KN hnn
 subst hnn
 show Calls Tryz.prog 26 #[.agg #[.slice xa xn xc,.int .u16 (t:Int),.int .u16 (cl:Int),.int .u32 (tt:Int),.slice xa1 xn1 xc1,.slice xa2 xn2 xc2,.slice xa3 xn3 xc3,.slice xa4 xn4 xc4],.agg #[.slice ya xn yc,.int .u16 (t:Int),.int .u16 (cl:Int),.int .u32 (tt:Int),.slice ya1 yn1 yc1,.slice ya2 yn2 yc2,.slice ya3 yn3 yc3,.slice ya4 yn4 yc4]] w fun e w'=>e=.returned (.bool true)/\Below w.heap.size w w'
 go_enter Tryz.func26,Tryz.ntmps26
 go_wp2_with fail
 refine (KN _ (((Below.refl _ _).alloc (Nat.le_refl _) _).alloc (by simp) _)).out.mono ?_
 rintro e w2 ⟨rfl,hb2'⟩
 have hb2:=hb2'.out
 have HB2:Hid (Below w.heap.size w w2/\w2.heap[w.heap.size]?=some (.cells #[.slice xa xn xc,.int .u16 (t:Int),.int .u16 (cl:Int),.int .u32 (tt:Int),.slice xa1 xn1 xc1,.slice xa2 xn2 xc2,.slice xa3 xn3 xc3,.slice xa4 xn4 xc4] 50)/\w2.heap[w.heap.size+1]?=some (.cells #[.slice ya xn yc,.int .u16 (t:Int),.int .u16 (cl:Int),.int .u32 (tt:Int),.slice ya1 yn1 yc1,.slice ya2 yn2 yc2,.slice ya3 yn3 yc3,.slice ya4 yn4 yc4] 50)):=by
  refine ⟨(((Below.refl _ _).alloc (Nat.le_refl _) _).alloc (by simp) _).trans (hb2.mono (by simp;omega)),(hb2.block _ (by simp;omega)).trans (block_alloc (alloc_at _ _) _),(hb2.block _ (by simp)).trans ?_⟩
  have:=alloc_at (w.alloc (.cells #[.slice xa xn xc,.int .u16 (t:Int),.int .u16 (cl:Int),.int .u32 (tt:Int),.slice xa1 xn1 xc1,.slice xa2 xn2 xc2,.slice xa3 xn3 xc3,.slice xa4 xn4 xc4] 50)) (.cells #[.slice ya xn yc,.int .u16 (t:Int),.int .u16 (cl:Int),.int .u32 (tt:Int),.slice ya1 yn1 yc1,.slice ya2 yn2 yc2,.slice ya3 yn3 yc3,.slice ya4 yn4 yc4] 50)
  simp only[World.size_alloc] at this
  exact this
 clear hb2 hb2' KN
 have p0:=block_lt HB2.out.2.1
 have p1:=block_lt HB2.out.2.2
 have u0:w2.cell? ⟨w.heap.size,0,none⟩=some (.slice xa xn xc):=cell_of_block HB2.out.2.1 rfl
 have u1:w2.cell? ⟨w.heap.size,1,none⟩=some (.int .u16 (t:Int)):=cell_of_block HB2.out.2.1 rfl
 have u2:w2.cell? ⟨w.heap.size,2,none⟩=some (.int .u16 (cl:Int)):=cell_of_block HB2.out.2.1 rfl
 have u3:w2.cell? ⟨w.heap.size,3,none⟩=some (.int .u32 (tt:Int)):=cell_of_block HB2.out.2.1 rfl
 have u4:w2.cell? ⟨w.heap.size,4,none⟩=some (.slice xa1 xn1 xc1):=cell_of_block HB2.out.2.1 rfl
 have u5:w2.cell? ⟨w.heap.size,5,none⟩=some (.slice xa2 xn2 xc2):=cell_of_block HB2.out.2.1 rfl
 have u6:w2.cell? ⟨w.heap.size,6,none⟩=some (.slice xa3 xn3 xc3):=cell_of_block HB2.out.2.1 rfl
 have u7:w2.cell? ⟨w.heap.size,7,none⟩=some (.slice xa4 xn4 xc4):=cell_of_block HB2.out.2.1 rfl
 have v0:w2.cell? ⟨w.heap.size+1,0,none⟩=some (.slice ya xn yc):=cell_of_block HB2.out.2.2 rfl
 have v1:w2.cell? ⟨w.heap.size+1,1,none⟩=some (.int .u16 (t:Int)):=cell_of_block HB2.out.2.2 rfl
 have v2:w2.cell? ⟨w.heap.size+1,2,none⟩=some (.int .u16 (cl:Int)):=cell_of_block HB2.out.2.2 rfl
 have v3:w2.cell? ⟨w.heap.size+1,3,none⟩=some (.int .u32 (tt:Int)):=cell_of_block HB2.out.2.2 rfl
 have v4:w2.cell? ⟨w.heap.size+1,4,none⟩=some (.slice ya1 yn1 yc1):=cell_of_block HB2.out.2.2 rfl
 have v5:w2.cell? ⟨w.heap.size+1,5,none⟩=some (.slice ya2 yn2 yc2):=cell_of_block HB2.out.2.2 rfl
 have v6:w2.cell? ⟨w.heap.size+1,6,none⟩=some (.slice ya3 yn3 yc3):=cell_of_block HB2.out.2.2 rfl
 have v7:w2.cell? ⟨w.heap.size+1,7,none⟩=some (.slice ya4 yn4 yc4):=cell_of_block HB2.out.2.2 rfl
 go_wp2_with fail
 refine (KD _ HB2.out.1).out.mono ?_
 rintro e w3 ⟨rfl,hb3⟩
 go_wp2
 go_ret
 exact ⟨rfl,HB2.out.1.trans (hb3.out.mono HB2.out.1.size)⟩
theorem sames11(a b:Option Addr)(n c d:Nat)(rs:List Rec)(w:World)(h1:RdR w a rs)(h2:RdR w b rs)(hl:rs.length=n)(hn:n<=9223372036854775807):Sames 11 w (.slice a n c) (.slice b n d):=by
 intro W hW
 have HX:Hid (RdR W a rs):=h1.below hW
 have HY:Hid (RdR W b rs):=h2.below hW
 have HLs:Hid (rs.length=n):=hl
 clear h1 h2 hW hl
 go_enter Tryz.func11,Tryz.ntmps11
 go_wp2_with fail
 go_loopw [5] (fun y wr=>∃k:Nat,k<=n/\y=.int .i64 (k:Int)/\Hid (Below W.heap.size W wr)) (fun y _=>n - (intOf y).toNat)
 case atStart=>exact ⟨0,by omega,rfl,Below.refl _ _⟩
 case round=>
  obtain ⟨k,hk,rfl,HB⟩:=hrel
  by_cases hlt:k<n
  ·have hlt':(k:Int)<(n:Int):=by omega
   have hks:k<rs.length:=by rw[HLs.out];exact hlt
   obtain ⟨b1,o1,rfl,q1,x,rx,ok1⟩:=(HX.out.below HB.out).at k hks
   obtain ⟨b2,o2,rfl,q2,y,ry,ok2⟩:=(HY.out.below HB.out).at k hks
   obtain ⟨r,hr⟩:∃r,r=rs[k]:=⟨_,rfl⟩
   rw[<- hr] at rx ry ok1 ok2
   have KL:∀V,Below wr.heap.size wr V->Hid (Calls Tryz.prog 26 #[.agg (recCells x r).toArray,.agg (recCells y r).toArray] V fun e w'=>e=.returned (.bool true)/\Below V.heap.size V w'):=fun V hb=>samer26 x y r V (ok1.below hb) (ok2.below hb)
   clear hr ok1 ok2
   obtain ⟨⟨xa,xn,xc⟩,⟨⟨xa1,xn1,xc1⟩,⟨xa2,xn2,xc2⟩,⟨xa3,xn3,xc3⟩,⟨xa4,xn4,xc4⟩⟩⟩:=x
   obtain ⟨⟨ya,yn,yc⟩,⟨⟨ya1,yn1,yc1⟩,⟨ya2,yn2,yc2⟩,⟨ya3,yn3,yc3⟩,⟨ya4,yn4,yc4⟩⟩⟩:=y
   obtain ⟨ow,t,cl,tt,dd⟩:=r
   have KL':∀V,Below wr.heap.size wr V->Hid (Calls Tryz.prog 26 #[.agg #[.slice xa xn xc,.int .u16 (t:Int),.int .u16 (cl:Int),.int .u32 (tt:Int),.slice xa1 xn1 xc1,.slice xa2 xn2 xc2,.slice xa3 xn3 xc3,.slice xa4 xn4 xc4],.agg #[.slice ya yn yc,.int .u16 (t:Int),.int .u16 (cl:Int),.int .u32 (tt:Int),.slice ya1 yn1 yc1,.slice ya2 yn2 yc2,.slice ya3 yn3 yc3,.slice ya4 yn4 yc4]] V fun e w'=>e=.returned (.bool true)/\Below V.heap.size V w'):=KL
   have KS:∀V,Below wr.heap.size wr V->V.cell? ⟨b1,o1+k*8,none⟩=some (.slice xa xn xc)/\V.cell? ⟨b1,o1+k*8+1,none⟩=some (.int .u16 (t:Int))/\V.cell? ⟨b1,o1+k*8+2,none⟩=some (.int .u16 (cl:Int))/\V.cell? ⟨b1,o1+k*8+3,none⟩=some (.int .u32 (tt:Int))/\V.cell? ⟨b1,o1+k*8+4,none⟩=some (.slice xa1 xn1 xc1)/\V.cell? ⟨b1,o1+k*8+5,none⟩=some (.slice xa2 xn2 xc2)/\V.cell? ⟨b1,o1+k*8+6,none⟩=some (.slice xa3 xn3 xc3)/\V.cell? ⟨b1,o1+k*8+7,none⟩=some (.slice xa4 xn4 xc4)/\V.cell? ⟨b2,o2+k*8,none⟩=some (.slice ya yn yc)/\V.cell? ⟨b2,o2+k*8+1,none⟩=some (.int .u16 (t:Int))/\V.cell? ⟨b2,o2+k*8+2,none⟩=some (.int .u16 (cl:Int))/\V.cell? ⟨b2,o2+k*8+3,none⟩=some (.int .u32 (tt:Int))/\V.cell? ⟨b2,o2+k*8+4,none⟩=some (.slice ya1 yn1 yc1)/\V.cell? ⟨b2,o2+k*8+5,none⟩=some (.slice ya2 yn2 yc2)/\V.cell? ⟨b2,o2+k*8+6,none⟩=some (.slice ya3 yn3 yc3)/\V.cell? ⟨b2,o2+k*8+7,none⟩=some (.slice ya4 yn4 yc4):=fun V hb=>⟨(hb.cell (p:=⟨_,_,none⟩) q1).trans (rx 0 (by omega)),(hb.cell (p:=⟨_,_,none⟩) q1).trans (rx 1 (by omega)),(hb.cell (p:=⟨_,_,none⟩) q1).trans (rx 2 (by omega)),(hb.cell (p:=⟨_,_,none⟩) q1).trans (rx 3 (by omega)),(hb.cell (p:=⟨_,_,none⟩) q1).trans (rx 4 (by omega)),(hb.cell (p:=⟨_,_,none⟩) q1).trans (rx 5 (by omega)),(hb.cell (p:=⟨_,_,none⟩) q1).trans (rx 6 (by omega)),(hb.cell (p:=⟨_,_,none⟩) q1).trans (rx 7 (by omega)),(hb.cell (p:=⟨_,_,none⟩) q2).trans (ry 0 (by omega)),(hb.cell (p:=⟨_,_,none⟩) q2).trans (ry 1 (by omega)),(hb.cell (p:=⟨_,_,none⟩) q2).trans (ry 2 (by omega)),(hb.cell (p:=⟨_,_,none⟩) q2).trans (ry 3 (by omega)),(hb.cell (p:=⟨_,_,none⟩) q2).trans (ry 4 (by omega)),(hb.cell (p:=⟨_,_,none⟩) q2).trans (ry 5 (by omega)),(hb.cell (p:=⟨_,_,none⟩) q2).trans (ry 6 (by omega)),(hb.cell (p:=⟨_,_,none⟩) q2).trans (ry 7 (by omega))⟩
   clear KL rx ry
   go_wp2_with fail
   go_region_held3 (fun V=>V.cell? ⟨b1,o1+k*8,none⟩=some (.slice xa xn xc)/\V.cell? ⟨b1,o1+k*8+1,none⟩=some (.int .u16 (t:Int))/\V.cell? ⟨b1,o1+k*8+2,none⟩=some (.int .u16 (cl:Int))/\V.cell? ⟨b1,o1+k*8+3,none⟩=some (.int .u32 (tt:Int))/\V.cell? ⟨b1,o1+k*8+4,none⟩=some (.slice xa1 xn1 xc1)/\V.cell? ⟨b1,o1+k*8+5,none⟩=some (.slice xa2 xn2 xc2)/\V.cell? ⟨b1,o1+k*8+6,none⟩=some (.slice xa3 xn3 xc3)/\V.cell? ⟨b1,o1+k*8+7,none⟩=some (.slice xa4 xn4 xc4)/\V.cell? ⟨b2,o2+k*8,none⟩=some (.slice ya yn yc)/\V.cell? ⟨b2,o2+k*8+1,none⟩=some (.int .u16 (t:Int))/\V.cell? ⟨b2,o2+k*8+2,none⟩=some (.int .u16 (cl:Int))/\V.cell? ⟨b2,o2+k*8+3,none⟩=some (.int .u32 (tt:Int))/\V.cell? ⟨b2,o2+k*8+4,none⟩=some (.slice ya1 yn1 yc1)/\V.cell? ⟨b2,o2+k*8+5,none⟩=some (.slice ya2 yn2 yc2)/\V.cell? ⟨b2,o2+k*8+6,none⟩=some (.slice ya3 yn3 yc3)/\V.cell? ⟨b2,o2+k*8+7,none⟩=some (.slice ya4 yn4 yc4)) (first|exact KS _ HBw8.out|exact KS _ (Below.refl wr.heap.size wr).drew|exact KS _ (Below.refl wr.heap.size wr)|exact KS _ HBw8.out.drew) (first
    |(go_at_call 26;refine Calls.mono (KL' _ ?hb).out ?_;(case hb=>first|exact (Below.refl wr.heap.size wr).drew|exact Below.refl wr.heap.size wr);rintro e w8 ⟨rfl,Hw8⟩;have HBw8:Hid (Below wr.heap.size wr w8):=by first|exact (Below.refl wr.heap.size wr).drew.trans Hw8|exact Hw8)
    |fail)
   all_goals go_wp2
   all_goals exact ⟨⟨k+1,by omega,by go_num,HB.out.trans (HBw8.out.mono HB.out.size)⟩,by simp[intOf];omega⟩
  ·obtain rfl:k=n:=by omega
   go_wp2
   go_ret
   exact ⟨rfl,HB.out⟩
def nmX:List ByteArray:=[⟨#[98]⟩]
def nmXX:List ByteArray:=[⟨#[97]⟩,⟨#[98]⟩]
def adrR(own:List ByteArray)(tt:Nat)(z:Int):Rec:=⟨own,1,1,tt,⟨[],[],[],[1,2,3,z]⟩⟩
set_option maxRecDepth 100000
theorem ex_a1:mstF ⟨#[97,32,54,48,32,73,78,32,65,32,49,46,50,46,51,46,52]⟩ nmX=.ok [adrR nmXX 60 4]:=by kernel_rfl
theorem ex_a2:mstF ⟨#[97,32,73,78,32,54,48,32,65,32,49,46,50,46,51,46,52,10,32,65,32,49,46,50,46,51,46,53]⟩ nmX=.ok [adrR nmXX 60 4,adrR nmXX 60 5]:=by kernel_rfl
theorem fpart0(a b:Int)(w:World):(Go.part 26 #[.int .i64 a,.int .i64 b] 0).run Tryz.prog w=.ok (.int .i64 a) w:=by kernel_rfl
theorem fpart1(a b:Int)(w:World):(Go.part 3 #[.int .i64 a,.int .i64 b] 1).run Tryz.prog w=.ok (.int .i64 b) w:=by kernel_rfl
theorem flds28 : ∃ a b, (Tryz.prog.fieldsOf 28).toList = [a, b] /\ a.name ≠ "_" /\ b.name ≠ "_" /\ a.type = 26 /\ b.type = 3 /\ a.offset = 0 /\ b.offset = 1 := by
  have h : (Tryz.prog.fieldsOf 28).toList.map (fun f => (f.name == "_", f.type, f.offset)) = [(false, 26, 0), (false, 3, 1)] := by kernel_rfl
  match hl : (Tryz.prog.fieldsOf 28).toList, h with
  | [], h => simp at h
  | [a], h => simp at h
  | [a, b], h =>
    simp at h
    exact ⟨a, b, rfl, h.1.1, h.2.1, h.1.2.1, h.2.2.1, h.1.2.2, h.2.2.2⟩
  | a :: b :: c :: r, h => simp at h
theorem eqF28(a b c d:Int)(w:World):(Op.equalIn 10000 28 (.agg #[.int .i64 a,.int .i64 b]) (.agg #[.int .i64 c,.int .i64 d])).run Tryz.prog w=.ok (decide (a=c/\b=d)) w:=by
 rw[show (10000:Nat)=9999+1 from rfl,run_equalIn_struct w 9999 28 _ _ (by kernel_rfl) (by kernel_rfl)]
 obtain ⟨p,q,e,n1,n2,t1,t2,o1,o2⟩:=flds28
 rw[e]
 simp only[Op.eqFields,n1,n2,ne_eq,not_false_eq_true,if_true,t1,t2,o1,o2,Sem.run_bind,fpart0,fpart1,Result.andThen_ok,show (9999:Nat)=9998+1 from rfl,run_equalIn_int _ 9998 26 .i64 .i64 _ _ Tryz.underlying26,run_equalIn_int _ 9998 3 .i64 .i64 _ _ Tryz.underlying3]
 by_cases h1:a=c
 ·by_cases h2:b=d
  ·simp[h1,h2,fpart1,show (9999:Nat)=9998+1 from rfl,run_equalIn_int _ 9998 3 .i64 .i64 _ _ Tryz.underlying3]
  ·simp[h1,h2,fpart1,show (9999:Nat)=9998+1 from rfl,run_equalIn_int _ 9998 3 .i64 .i64 _ _ Tryz.underlying3]
 ·simp[h1]
theorem eqlF28(a b c d:Int)(w:World):(binOp .eql 28 (.agg #[.int .i64 a,.int .i64 b]) (.agg #[.int .i64 c,.int .i64 d])).run Tryz.prog w=.ok (.bool (decide (a=c/\b=d))) w:=by
 rw[run_eql_struct,eqF28];rfl
theorem neqF28(a b c d:Int)(w:World):(binOp .neq 28 (.agg #[.int .i64 a,.int .i64 b]) (.agg #[.int .i64 c,.int .i64 d])).run Tryz.prog w=.ok (.bool (!decide (a=c/\b=d))) w:=by
 rw[run_neq_struct,eqF28];rfl
theorem nm_new(w:World)(ss:List ByteArray)(n:Nat)(hn:ss.length=n)(hz:nsz ss<=1000000000000):Nm (w.alloc (.cells (tv ss).toArray 9)) (some ⟨w.heap.size,0,none⟩) n ss:=⟨rdv_new w (tv ss) 9,hn,hz⟩
structure LRd(w:World)(x:Sl)(rs:List Rec):Prop where
 rd:RdR w x.a rs
 len:rs.length=x.n
 n63:x.n<=9223372036854775807
theorem LRd.below{w w':World}{x:Sl}{rs:List Rec}(h:LRd w x rs)(hb:Below w.heap.size w w'):LRd w' x rs:=⟨h.rd.below hb,h.len,h.n63⟩
theorem OwR.lrd{B:Nat}{w:World}{x:Sl}{rs:List Rec}(h:OwR B w (.slice x.a x.n x.c) rs):LRd w x rs:=by
 obtain ⟨a,c,e,h1,h2,h3,h4⟩:=h.rd
 obtain ⟨xa,xn,xc⟩:=x
 cases e
 exact ⟨h1,rfl,by show rs.length<=_;have h2':rs.length<=xc:=h2;have h3':xc<=9223372036854775807:=h3;omega⟩
theorem same_lrd{w:World}{x y:Sl}{rs:List Rec}(h1:LRd w x rs)(h2:LRd w y rs):Sames 11 w (.slice x.a x.n x.c) (.slice y.a y.n y.c):=by
 have h:=sames11 x.a y.a x.n x.c y.c rs w h1.rd h2.rd h1.len h1.n63
 rw[show y.n=x.n by rw[<- h1.len,<- h2.len]]
 exact h
theorem lrd_new(w:World)(ps:List (RA × Rec))(n:Nat)(hn:ps.length=n)(hm:n<=9223372036854775807)(h:∀p∈ps,RRd w p.1 p.2):LRd (w.alloc (.cells (cellsR ps).toArray 50)) ⟨some ⟨w.heap.size,0,none⟩,n,n⟩ (ps.map (·.2)):=by
 refine ⟨?_,by simpa using hn,hm⟩
 by_cases h0:ps.map (·.2)=[]
 ·exact .inl h0
 refine .inr ⟨w.heap.size,0,rfl,by simp,fun i hi=>?_⟩
 have hi':i<ps.length:=by simpa using hi
 refine ⟨ps[i].1,fun j hj=>?_,?_⟩
 ·have e1:=cellsR_at ps i hi' j hj
  rw[List.getElem_map,Nat.zero_add]
  unfold World.cell?
  rw[alloc_at]
  simpa using e1
 ·rw[List.getElem_map]
  exact (h ps[i] (List.getElem_mem _)).below (new_below _ _)
theorem reads15(s:ByteArray)(x:Sl)(rs:List Rec)(w:World)(h:LRd w x rs)(he:mstF s nmX=.ok rs)(hE:LayE w)(hL:LayT w) :
  Calls Tryz.prog 15 #[.string s,.slice x.a x.n x.c] w fun e w'=>e=.returned (.bool true)/\Hid (Below w.heap.size w w'):=by
 have HR:Hid (LRd w x rs):=h
 have HB0:Hid (Below w.heap.size w (w.alloc (.cells #[.string ⟨#[98]⟩] 9))):=new_below _ _
 have K8:Hid (Calls Tryz.prog 8 #[.string s,.slice (some ⟨w.heap.size,0,none⟩) 1 1] (w.alloc (.cells #[.string ⟨#[98]⟩] 9)) (AlP (.ok rs) (w.alloc (.cells #[.string ⟨#[98]⟩] 9)))):=(by
  have:=parse_any8 s (some ⟨w.heap.size,0,none⟩) 1 1 nmX (w.alloc (.cells #[.string ⟨#[98]⟩] 9)) (nm_new w nmX 1 rfl (by decide)) (hE.below HB0.out) (hL.below HB0.out)
  rw[he] at this
  exact this)
 clear h he hE hL
 obtain ⟨xa,n,xc⟩:=x
 have hq:∀W,(binOp .eql 28 (.agg #[.int .i64 0,.int .i64 0]) (.agg #[.int .i64 0,.int .i64 0])).run Tryz.prog W=.ok (.bool true) W:=fun W=>by rw[eqlF28];rfl
 simp only
 go_enter Tryz.func15,Tryz.ntmps15
 go_wp2_with fail
 refine K8.out.mono ?_
 rintro e w1 ⟨y,er,ln,rfl,HB1,HQ⟩
 obtain ⟨rfl,rfl,how,hlen⟩:=HQ.out
 have HB2:Hid (Below w.heap.size w (w1.alloc (.cells #[.int .i64 0,.int .i64 0] 28))):=HB0.out.trans ((HB1.out.trans ((new_below _ _).mono HB1.out.size)).mono HB0.out.size)
 have K11:Hid (Sames 11 (w1.alloc (.cells #[.int .i64 0,.int .i64 0] 28)) (.slice y.a y.n y.c) (.slice xa n xc)):=same_lrd (x:=y) (y:=⟨xa,n,xc⟩) (how.lrd.below (new_below _ _)) (HR.out.below HB2.out)
 clear how hlen HQ HB1 HB0 K8 HR
 go_wp2_with fail
 refine (K11.out _ (Below.refl _ _)).mono ?_
 rintro e w3 ⟨rfl,hb3⟩
 have HB3:Hid (Below w.heap.size w w3):=HB2.out.trans (hb3.mono HB2.out.size)
 clear hb3 HB2 K11
 go_wp2_with fail
 go_ret
 exact ⟨rfl,HB3.out⟩
theorem nrd_nil(w:World):NRd w ⟨none,0,0⟩ []:=⟨.inl rfl,rfl,⟨Nat.le_refl _,by decide⟩,fun _=>rfl⟩
theorem urd_nil(w:World):URd w ⟨none,0,0⟩ []:=⟨.inl rfl,rfl,⟨Nat.le_refl _,by decide⟩,fun _=>rfl,by simp⟩
theorem trd_nil(w:World):TRd w ⟨none,0,0⟩ []:=⟨.inl rfl,rfl,⟨Nat.le_refl _,by decide⟩,fun _=>rfl,by simp⟩
theorem address14(o:Sl)(own:List ByteArray)(tt:Nat)(z:Int)(w:World)(h:TRd w o own)(hz:0<=z/\z<=255) :
  Calls Tryz.prog 14 #[.slice o.a o.n o.c,.int .u32 (tt:Int),.int .u8 z] w fun e w'=>e=.returned (.agg #[.slice o.a o.n o.c,.int .u16 1,.int .u16 1,.int .u32 (tt:Int),.slice none 0 0,.slice none 0 0,.slice none 0 0,.slice (some ⟨w.heap.size+1,0,none⟩) 4 4])/\Hid (Below w.heap.size w w'/\RRd w' ⟨o,⟨⟨none,0,0⟩,⟨none,0,0⟩,⟨none,0,0⟩,⟨some ⟨w.heap.size+1,0,none⟩,4,4⟩⟩⟩ (adrR own tt z)):=by
 obtain ⟨oa,on,oc⟩:=o
 have HT:Hid (TRd w ⟨oa,on,oc⟩ own):=h
 have HB:Hid (∀A,BRd ((w.alloc A).alloc (.cells #[.int .u8 1,.int .u8 2,.int .u8 3,.int .u8 z] 5)) ⟨some ⟨w.heap.size+1,0,none⟩,4,4⟩ [1,2,3,z]):=fun A=>by
  have:=new_b (w.alloc A) [1,2,3,z] 4 rfl (by omega) (by simp;omega)
  rw[World.size_alloc] at this
  exact this
 have HW:Hid (∀A B,Below w.heap.size w ((w.alloc A).alloc B)):=fun A B=>(new_below w A).trans ((new_below _ B).mono (new_below w A).size)
 have HC:Hid (∀A B,((w.alloc A).alloc B).heap[w.heap.size]?=some A):=fun A B=>block_alloc (alloc_at w A) B
 simp only
 clear h
 go_enter Tryz.func14,Tryz.ntmps14
 go_wp2_with fail
 have hc:=HC.out (.cells #[.slice oa on oc,.int .u16 1,.int .u16 1,.int .u32 (tt:Int),.slice none 0 0,.slice none 0 0,.slice none 0 0,.slice (some ⟨w.heap.size+1,0,none⟩) 4 4] 50) (.cells #[.int .u8 1,.int .u8 2,.int .u8 3,.int .u8 z] 5)
 have hb:=HW.out (.cells #[.slice oa on oc,.int .u16 1,.int .u16 1,.int .u32 (tt:Int),.slice none 0 0,.slice none 0 0,.slice none 0 0,.slice (some ⟨w.heap.size+1,0,none⟩) 4 4] 50) (.cells #[.int .u8 1,.int .u8 2,.int .u8 3,.int .u8 z] 5)
 have hr:=HB.out (.cells #[.slice oa on oc,.int .u16 1,.int .u16 1,.int .u32 (tt:Int),.slice none 0 0,.slice none 0 0,.slice none 0 0,.slice (some ⟨w.heap.size+1,0,none⟩) 4 4] 50)
 generalize ((w.alloc (.cells #[.slice oa on oc,.int .u16 1,.int .u16 1,.int .u32 (tt:Int),.slice none 0 0,.slice none 0 0,.slice none 0 0,.slice (some ⟨w.heap.size+1,0,none⟩) 4 4] 50)).alloc (.cells #[.int .u8 1,.int .u8 2,.int .u8 3,.int .u8 z] 5))=U at*
 have z0:=cell_of_block (i:=0) hc rfl
 have z1:=cell_of_block (i:=1) hc rfl
 have z2:=cell_of_block (i:=2) hc rfl
 have z3:=cell_of_block (i:=3) hc rfl
 have z4:=cell_of_block (i:=4) hc rfl
 have z5:=cell_of_block (i:=5) hc rfl
 have z6:=cell_of_block (i:=6) hc rfl
 have z7:=cell_of_block (i:=7) hc rfl
 exact bodyPost_ret (v:=.agg #[.slice oa on oc,.int .u16 1,.int .u16 1,.int .u32 (tt:Int),.slice none 0 0,.slice none 0 0,.slice none 0 0,.slice (some ⟨w.heap.size+1,0,none⟩) 4 4]) (by simp[results,Tryz.results14,go_sem,z0,z1,z2,z3,z4,z5,z6,z7]) rfl ⟨rfl,hb,HT.out.below hb,nrd_nil _,urd_nil _,trd_nil _,hr⟩
theorem adr_new(W:World)(z:Int)(hz:0<=z/\z<=255):Calls Tryz.prog 14 #[.slice (some ⟨W.heap.size,0,none⟩) 2 2,.int .u32 60,.int .u8 z] (W.alloc (.cells #[.string ⟨#[97]⟩,.string ⟨#[98]⟩] 9)) fun e w'=>e=.returned (.agg #[.slice (some ⟨W.heap.size,0,none⟩) 2 2,.int .u16 1,.int .u16 1,.int .u32 60,.slice none 0 0,.slice none 0 0,.slice none 0 0,.slice (some ⟨W.heap.size+1+1,0,none⟩) 4 4])/\Hid (Below W.heap.size W w'/\RRd w' ⟨⟨some ⟨W.heap.size,0,none⟩,2,2⟩,⟨⟨none,0,0⟩,⟨none,0,0⟩,⟨none,0,0⟩,⟨some ⟨W.heap.size+1+1,0,none⟩,4,4⟩⟩⟩ (adrR nmXX 60 z)):=by
 have h:=address14 ⟨some ⟨W.heap.size,0,none⟩,2,2⟩ nmXX 60 z (W.alloc (.cells #[.string ⟨#[97]⟩,.string ⟨#[98]⟩] 9)) (new_t W nmXX 2 rfl (by omega) (by intro x hx;simp only[nmXX,List.mem_cons,List.not_mem_nil,or_false] at hx;rcases hx with rfl|rfl <;> decide)) hz
 rw[World.size_alloc] at h
 refine h.mono ?_
 rintro e w' ⟨he,hh⟩
 have hb:=new_below W (.cells #[.string ⟨#[97]⟩,.string ⟨#[98]⟩] 9)
 have h2:=hh.out.1
 rw[<- World.size_alloc W (.cells #[.string ⟨#[97]⟩,.string ⟨#[98]⟩] 9)] at h2
 exact ⟨he,hb.trans (h2.mono hb.size),hh.out.2⟩
theorem lrd_one{W:World}{x:RA}{r:Rec}(h:RRd W x r):LRd (W.alloc (.cells (recCells x r).toArray 50)) ⟨some ⟨W.heap.size,0,none⟩,1,1⟩ [r]:=by
 have:=lrd_new W [(x,r)] 1 rfl (by omega) (by intro p hp;rw[List.mem_singleton] at hp;subst hp;exact h)
 simpa [cellsR] using this
theorem lrd_two{W:World}{x y:RA}{r s:Rec}(h:RRd W x r)(h2:RRd W y s):LRd (W.alloc (.cells (recCells x r++recCells y s).toArray 50)) ⟨some ⟨W.heap.size,0,none⟩,2,2⟩ [r,s]:=by
 have:=lrd_new W [(x,r),(y,s)] 2 rfl (by omega) (by intro p hp;simp only[List.mem_cons,List.not_mem_nil,or_false] at hp;rcases hp with rfl|rfl;exact h;exact h2)
 simpa [cellsR] using this
theorem awake7(w:World)(hE:LayE w)(hL:LayT w):Calls Tryz.prog 7 #[] w fun e w'=>e=.returned (.bool true)/\Hid (Below w.heap.size w w'):=by
 have H:Hid (∀W,Below w.heap.size w W->LayT W/\LayE W):=fun W hW=>⟨hL.below hW,hE.below hW⟩
 have KA:Hid (∀W z,0<=z/\z<=255->Calls Tryz.prog 14 #[.slice (some ⟨W.heap.size,0,none⟩) 2 2,.int .u32 60,.int .u8 z] (W.alloc (.cells #[.string ⟨#[97]⟩,.string ⟨#[98]⟩] 9)) fun e w'=>e=.returned (.agg #[.slice (some ⟨W.heap.size,0,none⟩) 2 2,.int .u16 1,.int .u16 1,.int .u32 60,.slice none 0 0,.slice none 0 0,.slice none 0 0,.slice (some ⟨W.heap.size+1+1,0,none⟩) 4 4])/\Hid (Below W.heap.size W w'/\RRd w' ⟨⟨some ⟨W.heap.size,0,none⟩,2,2⟩,⟨⟨none,0,0⟩,⟨none,0,0⟩,⟨none,0,0⟩,⟨some ⟨W.heap.size+1+1,0,none⟩,4,4⟩⟩⟩ (adrR nmXX 60 z))):=adr_new
 clear hE hL
 go_enter Tryz.func7,Tryz.ntmps7
 go_wp2_with fail
 refine (KA.out w 4 (by omega)).mono ?_
 rintro e w1 ⟨rfl,H1⟩
 have B1:Hid (Below w.heap.size w (w1.alloc (.cells #[.slice (some ⟨w.heap.size,0,none⟩) 2 2,.int .u16 1,.int .u16 1,.int .u32 60,.slice none 0 0,.slice none 0 0,.slice none 0 0,.slice (some ⟨w.heap.size+1+1,0,none⟩) 4 4] 50))):=H1.out.1.trans ((new_below _ _).mono H1.out.1.size)
 have K1:Hid (Calls Tryz.prog 15 #[.string ⟨#[97,32,54,48,32,73,78,32,65,32,49,46,50,46,51,46,52]⟩,.slice (some ⟨w1.heap.size,0,none⟩) 1 1] (w1.alloc (.cells #[.slice (some ⟨w.heap.size,0,none⟩) 2 2,.int .u16 1,.int .u16 1,.int .u32 60,.slice none 0 0,.slice none 0 0,.slice none 0 0,.slice (some ⟨w.heap.size+1+1,0,none⟩) 4 4] 50)) fun e w'=>e=.returned (.bool true)/\Hid (Below (w1.alloc (.cells #[.slice (some ⟨w.heap.size,0,none⟩) 2 2,.int .u16 1,.int .u16 1,.int .u32 60,.slice none 0 0,.slice none 0 0,.slice none 0 0,.slice (some ⟨w.heap.size+1+1,0,none⟩) 4 4] 50)).heap.size (w1.alloc (.cells #[.slice (some ⟨w.heap.size,0,none⟩) 2 2,.int .u16 1,.int .u16 1,.int .u32 60,.slice none 0 0,.slice none 0 0,.slice none 0 0,.slice (some ⟨w.heap.size+1+1,0,none⟩) 4 4] 50)) w')):=reads15 _ ⟨some ⟨w1.heap.size,0,none⟩,1,1⟩ [adrR nmXX 60 4] (w1.alloc (.cells #[.slice (some ⟨w.heap.size,0,none⟩) 2 2,.int .u16 1,.int .u16 1,.int .u32 60,.slice none 0 0,.slice none 0 0,.slice none 0 0,.slice (some ⟨w.heap.size+1+1,0,none⟩) 4 4] 50)) (lrd_one H1.out.2) ex_a1 (H.out _ B1.out).2 (H.out _ B1.out).1
 clear H1
 go_wp2_with fail
 refine K1.out.mono ?_
 rintro e w2 ⟨rfl,H2⟩
 have B2:Hid (Below w.heap.size w w2):=B1.out.trans (H2.out.mono B1.out.size)
 clear H2 B1 K1
 go_wp2_with fail
 refine (KA.out w2 4 (by omega)).mono ?_
 rintro e w3 ⟨rfl,H3⟩
 go_wp2_with fail
 refine (KA.out w3 5 (by omega)).mono ?_
 rintro e w4 ⟨rfl,H4⟩
 have B4:Hid (Below w.heap.size w w4):=B2.out.trans ((H3.out.1.trans (H4.out.1.mono H3.out.1.size)).mono B2.out.size)
 have B5:Hid (Below w.heap.size w (w4.alloc (.cells #[.slice (some ⟨w2.heap.size,0,none⟩) 2 2,.int .u16 1,.int .u16 1,.int .u32 60,.slice none 0 0,.slice none 0 0,.slice none 0 0,.slice (some ⟨w2.heap.size+1+1,0,none⟩) 4 4,.slice (some ⟨w3.heap.size,0,none⟩) 2 2,.int .u16 1,.int .u16 1,.int .u32 60,.slice none 0 0,.slice none 0 0,.slice none 0 0,.slice (some ⟨w3.heap.size+1+1,0,none⟩) 4 4] 50))):=B4.out.trans ((new_below _ _).mono B4.out.size)
 have K2:Hid (Calls Tryz.prog 15 #[.string ⟨#[97,32,73,78,32,54,48,32,65,32,49,46,50,46,51,46,52,10,32,65,32,49,46,50,46,51,46,53]⟩,.slice (some ⟨w4.heap.size,0,none⟩) 2 2] (w4.alloc (.cells #[.slice (some ⟨w2.heap.size,0,none⟩) 2 2,.int .u16 1,.int .u16 1,.int .u32 60,.slice none 0 0,.slice none 0 0,.slice none 0 0,.slice (some ⟨w2.heap.size+1+1,0,none⟩) 4 4,.slice (some ⟨w3.heap.size,0,none⟩) 2 2,.int .u16 1,.int .u16 1,.int .u32 60,.slice none 0 0,.slice none 0 0,.slice none 0 0,.slice (some ⟨w3.heap.size+1+1,0,none⟩) 4 4] 50)) fun e w'=>e=.returned (.bool true)/\Hid (Below (w4.alloc (.cells #[.slice (some ⟨w2.heap.size,0,none⟩) 2 2,.int .u16 1,.int .u16 1,.int .u32 60,.slice none 0 0,.slice none 0 0,.slice none 0 0,.slice (some ⟨w2.heap.size+1+1,0,none⟩) 4 4,.slice (some ⟨w3.heap.size,0,none⟩) 2 2,.int .u16 1,.int .u16 1,.int .u32 60,.slice none 0 0,.slice none 0 0,.slice none 0 0,.slice (some ⟨w3.heap.size+1+1,0,none⟩) 4 4] 50)).heap.size (w4.alloc (.cells #[.slice (some ⟨w2.heap.size,0,none⟩) 2 2,.int .u16 1,.int .u16 1,.int .u32 60,.slice none 0 0,.slice none 0 0,.slice none 0 0,.slice (some ⟨w2.heap.size+1+1,0,none⟩) 4 4,.slice (some ⟨w3.heap.size,0,none⟩) 2 2,.int .u16 1,.int .u16 1,.int .u32 60,.slice none 0 0,.slice none 0 0,.slice none 0 0,.slice (some ⟨w3.heap.size+1+1,0,none⟩) 4 4] 50)) w')):=reads15 _ ⟨some ⟨w4.heap.size,0,none⟩,2,2⟩ [adrR nmXX 60 4,adrR nmXX 60 5] (w4.alloc (.cells #[.slice (some ⟨w2.heap.size,0,none⟩) 2 2,.int .u16 1,.int .u16 1,.int .u32 60,.slice none 0 0,.slice none 0 0,.slice none 0 0,.slice (some ⟨w2.heap.size+1+1,0,none⟩) 4 4,.slice (some ⟨w3.heap.size,0,none⟩) 2 2,.int .u16 1,.int .u16 1,.int .u32 60,.slice none 0 0,.slice none 0 0,.slice none 0 0,.slice (some ⟨w3.heap.size+1+1,0,none⟩) 4 4] 50)) (lrd_two (H3.out.2.below H4.out.1) H4.out.2) ex_a2 (H.out _ B5.out).2 (H.out _ B5.out).1
 clear H3 H4 B4 B2 KA
 go_wp2_with fail
 refine K2.out.mono ?_
 rintro e w6 ⟨rfl,H6⟩
 have B6:Hid (Below w.heap.size w w6):=B5.out.trans (H6.out.mono B5.out.size)
 clear H6 B5 K2 H
 go_wp2_with fail
 go_ret
 exact ⟨rfl,B6.out⟩
theorem ttl_ok{s:ByteArray}{n:Nat}(h:ttlF s=some n)(hs:s.size<=281474976710656)(w:World)(hE:LayE w)(hL:LayT w):Calls Tryz.prog 16 #[.string s] w fun e w'=>e=.returned (.tuple #[.int .u32 (n:Int),.int .i64 0])/\Hid (Below w.heap.size w w'):=by
 have K:=ttl_any s hs w hE hL
 rw[h] at K
 refine K.mono ?_
 rintro e w' ⟨m,er,rfl,h1,h2⟩
 rcases h1.out with ⟨rfl,h3⟩|⟨_,h3,_⟩
 ·cases h3;exact ⟨rfl,h2⟩
 ·cases h3
theorem ttl_no{s:ByteArray}(h:ttlF s=none)(hs:s.size<=281474976710656)(w:World)(hE:LayE w)(hL:LayT w):Calls Tryz.prog 16 #[.string s] w fun e w'=>e=.returned (.tuple #[.int .u32 0,.int .i64 240])/\Hid (Below w.heap.size w w'):=by
 have K:=ttl_any s hs w hE hL
 rw[h] at K
 refine K.mono ?_
 rintro e w' ⟨m,er,rfl,h1,h2⟩
 rcases h1.out with ⟨rfl,h3⟩|⟨rfl,h3,rfl⟩
 ·cases h3
 ·exact ⟨rfl,h2⟩
end Go.Proofs.YtjkljpdolhglcaaGreatDoor
namespace Go.Proofs.YtjkljpdolhglcaaGreatDoor
def shE(k:Nat)(e:En):En:=⟨e.line+k,e.blank,e.ws⟩
structure Shf(k:Nat)(P:List En)(q q':Cf):Prop where
 st:q'.st=q.st
 line:q'.line=q.line+k
 op:q'.op=q.op
 cur:1<=q.st/\q.st<=4->q'.cur=q.cur
 bl:q'.bl=q.bl
 ws:q'.ws=q.ws
 es:q'.es=P++q.es.map (shE k)
 el:q.ws≠[]->q'.el=q.el+k
theorem closeF_shf{k:Nat}{P:List En}{q q':Cf}(h:Shf k P q q'):(closeF q').es=P++(closeF q).es.map (shE k):=by
 unfold closeF
 rw[h.ws,h.es]
 cases hw:q.ws with
 |nil=>simp
 |cons w ws=>
  have:=h.el (by rw[hw];simp)
  simp[shE,this,h.bl]
theorem keep_shf{k:Nat}{P:List En}{q q' p:Cf}{b:Bool}(h:Shf k P q q')(hc:q'.cur=q.cur)(hk:keepF q b=some p):∃p',keepF q' b=some p'/\Shf k P p p':=by
 unfold keepF at hk ⊢
 rw[h.ws]
 split at hk
 ·cases hk
 ·rename_i hn
  cases hk
  rw[if_neg hn]
  refine ⟨_,rfl,?_⟩
  rw[hc]
  refine ⟨h.st,h.line,h.op,fun _=>rfl,h.bl,by simp[addW,h.ws],h.es,fun _=>?_⟩
  simp only[addW,h.ws]
  cases hw:q.ws with
  |nil=>simp[h.line]
  |cons w ws=>simpa using h.el (by rw[hw];simp)
theorem out_shf{k:Nat}{P:List En}{q q' p:Cf}{c:UInt8}{r r':List UInt8}(h:Shf k P q q')(hr:c=10->headB r'=headB r)(ho:outF q c r=some p):∃p',outF q' c r'=some p'/\Shf k P p p':=by
 unfold outF at ho ⊢
 rw[h.op]
 by_cases h1:c=59
 ·subst h1
  simp only[if_true] at ho ⊢
  cases ho
  exact ⟨_,rfl,⟨rfl,h.line,rfl,fun e=>absurd e (by show ¬ (1<=6/\6<=4);omega),h.bl,h.ws,h.es,h.el⟩⟩
 ·by_cases h2:c=40
  ·subst h2
   simp only[h1,if_false,if_true] at ho ⊢
   cases ho
   exact ⟨_,rfl,⟨rfl,h.line,rfl,fun e=>absurd e (by show ¬ (1<=0/\0<=4);omega),h.bl,h.ws,h.es,h.el⟩⟩
  ·by_cases h3:c=41
   ·subst h3
    simp only[h1,h2,if_false,if_true] at ho ⊢
    by_cases h4:q.op=0
    ·simp[h4] at ho
    ·simp only[h4,if_false] at ho ⊢
     cases ho
     exact ⟨_,rfl,⟨rfl,h.line,rfl,fun e=>absurd e (by show ¬ (1<=0/\0<=4);omega),h.bl,h.ws,h.es,h.el⟩⟩
   ·by_cases h5:c=10
    ·subst h5
     simp only[h1,h2,h3,if_false,if_true] at ho ⊢
     by_cases h4:q.op=0
     ·simp only[h4,if_true] at ho ⊢
      cases ho
      refine ⟨_,rfl,⟨rfl,?_,rfl,fun e=>absurd e (by show ¬ (1<=0/\0<=4);omega),hr rfl,rfl,?_,fun e=>absurd rfl e⟩⟩
      ·show q'.line+1=q.line+1+k
       rw[h.line];omega
      ·have:=closeF_shf (P:=P) (q:={ q with st:=0,line:=q.line+1 }) (q':={ q' with st:=0,line:=q'.line+1 }) (k:=k) ⟨rfl,by show q'.line+1=q.line+1+k;rw[h.line];omega,h.op,fun e=>absurd e (by show ¬ (1<=0/\0<=4);omega),h.bl,h.ws,h.es,h.el⟩
       exact this
     ·simp only[h4,if_false] at ho ⊢
      cases ho
      exact ⟨_,rfl,⟨rfl,by show q'.line+1=q.line+1+k;rw[h.line];omega,rfl,fun e=>absurd e (by show ¬ (1<=0/\0<=4);omega),h.bl,h.ws,h.es,h.el⟩⟩
    ·simp only[h1,h2,h3,h5,if_false] at ho ⊢
     cases ho
     exact ⟨_,rfl,⟨rfl,h.line,rfl,fun e=>absurd e (by show ¬ (1<=0/\0<=4);omega),h.bl,h.ws,h.es,h.el⟩⟩
theorem outR_shf{k:Nat}{P:List En}{q q' p:Cf}{c:UInt8}{r r':List UInt8}(h:Shf k P q q')(hr:c=10->headB r'=headB r)(ho:outR q c r=.ok p):∃p',outR q' c r'=.ok p'/\Shf k P p p':=by
 obtain ⟨p',h1,h2⟩:=out_shf h hr (outR_ok ho)
 exact ⟨p',by unfold outR;rw[h1],h2⟩
theorem step_shf{k:Nat}{P:List En}{q q' p:Cf}{c:UInt8}{r r':List UInt8}(h:Shf k P q q')(hr:c=10->headB r'=headB r)(hs:stepF q c r=.ok p):∃p',stepF q' c r'=.ok p'/\Shf k P p p':=by
 unfold stepF at hs ⊢
 rw[h.st]
 split at hs
 ·cases hs
 rename_i h0
 rw[if_neg h0]
 split at hs
 ·rename_i h1
  rw[if_pos h1]
  unfold firstF at hs ⊢
  split at hs
  ·rename_i h2;rw[if_pos h2];exact outR_shf h hr hs
  ·rename_i h2;rw[if_neg h2]
   split at hs
   ·rename_i h3;rw[if_pos h3];cases hs
    exact ⟨_,rfl,⟨rfl,h.line,h.op,fun _=>rfl,h.bl,h.ws,h.es,h.el⟩⟩
   ·rename_i h3;rw[if_neg h3]
    split at hs
    ·rename_i h4;rw[if_pos h4];cases hs
     exact ⟨_,rfl,⟨rfl,h.line,h.op,fun _=>rfl,h.bl,h.ws,h.es,h.el⟩⟩
    ·rename_i h4;rw[if_neg h4];cases hs
     exact ⟨_,rfl,⟨rfl,h.line,h.op,fun _=>rfl,h.bl,h.ws,h.es,h.el⟩⟩
 ·rename_i h1
  rw[if_neg h1]
  split at hs
  ·rename_i h2
   rw[if_pos h2]
   unfold nextF at hs ⊢
   rw[h.cur (by omega)]
   split at hs
   ·rename_i h3;rw[if_pos h3]
    cases hk:keepF q false with
    |none=>rw[hk] at hs;cases hs
    |some p1=>
     rw[hk] at hs
     obtain ⟨p2,e1,e2⟩:=keep_shf h (h.cur (by omega)) hk
     rw[e1]
     exact outR_shf e2 hr hs
   ·rename_i h3;rw[if_neg h3]
    split at hs
    ·cases hs
    ·rename_i h4;rw[if_neg h4]
     split at hs
     ·rename_i h5;rw[if_pos h5];cases hs
      exact ⟨_,rfl,⟨rfl,h.line,h.op,fun _=>rfl,h.bl,h.ws,h.es,h.el⟩⟩
     ·rename_i h5;rw[if_neg h5];cases hs
      exact ⟨_,rfl,⟨rfl,h.line,h.op,fun _=>rfl,h.bl,h.ws,h.es,h.el⟩⟩
  ·rename_i h2
   rw[if_neg h2]
   split at hs
   ·rename_i h3;rw[if_pos h3];cases hs
    exact ⟨_,rfl,⟨rfl,h.line,h.op,fun _=>by show q'.cur++[c]=q.cur++[c];rw[h.cur (by omega)],h.bl,h.ws,h.es,h.el⟩⟩
   ·rename_i h3;rw[if_neg h3]
    split at hs
    ·rename_i h4;rw[if_pos h4]
     unfold quotF at hs ⊢
     rw[h.cur (by omega)]
     split at hs
     ·rename_i h5;rw[if_pos h5]
      cases hk:keepF q true with
      |none=>rw[hk] at hs;cases hs
      |some p1=>
       rw[hk] at hs
       obtain ⟨p2,e1,e2⟩:=keep_shf h (h.cur (by omega)) hk
       rw[e1]
       cases hs
       exact ⟨_,rfl,⟨rfl,e2.line,e2.op,fun e=>absurd e (by show ¬ (1<=5/\5<=4);omega),e2.bl,e2.ws,e2.es,e2.el⟩⟩
     ·rename_i h5;rw[if_neg h5]
      split at hs
      ·rename_i h6;rw[if_pos h6];cases hs
       exact ⟨_,rfl,⟨rfl,h.line,h.op,fun _=>rfl,h.bl,h.ws,h.es,h.el⟩⟩
      ·rename_i h6;rw[if_neg h6];cases hs
       exact ⟨_,rfl,⟨rfl,h.line,h.op,fun _=>rfl,h.bl,h.ws,h.es,h.el⟩⟩
    ·rename_i h4;rw[if_neg h4]
     split at hs
     ·rename_i h5;rw[if_pos h5];cases hs
      exact ⟨_,rfl,⟨rfl,h.line,h.op,fun _=>by show q'.cur++[c]=q.cur++[c];rw[h.cur (by omega)],h.bl,h.ws,h.es,h.el⟩⟩
     ·rename_i h5;rw[if_neg h5]
      split at hs
      ·rename_i h6;rw[if_pos h6]
       split at hs
       ·rename_i h7;rw[if_pos h7];exact outR_shf h hr hs
       ·cases hs
      ·rename_i h6;rw[if_neg h6]
       split at hs
       ·rename_i h7;rw[if_pos h7];exact outR_shf h hr hs
       ·rename_i h7;rw[if_neg h7];cases hs
        exact ⟨_,rfl,h⟩
theorem nl_end{L:Nat}{q:Cf}{es:List En}(hf:finF L q=.ok es)(hst:q.st<=6)(r:List UInt8):∃n cur,stepF q 10 r=.ok (startQ n cur (headB r) es):=by
 have h10:endsW 10=true:=by decide
 have key:∀p:Cf,p.op=0->outR p 10 r=.ok (startQ (p.line+1) p.cur (headB r) (closeF p).es):=by
  intro p hp
  unfold outR outF
  simp only[show ¬ (10:UInt8)=59 from by decide,show ¬ (10:UInt8)=40 from by decide,show ¬ (10:UInt8)=41 from by decide,if_false,if_true,hp]
  simp[beginF,closeF,startQ,hp]
 unfold finF at hf
 split at hf
 ·cases hf
 rename_i h1
 have h2:¬ ((10:UInt8)=10/\(q.st=3∨q.st=2∨q.st=4)):=fun e=>h1 e.2
 split at hf
 ·rename_i h3
  cases hk:keepF q false with
  |none=>rw[hk] at hf;cases hf
  |some p=>
   rw[hk] at hf
   simp only at hf
   split at hf
   ·cases hf
   ·rename_i h4
    cases hf
    refine ⟨p.line+1,p.cur,?_⟩
    unfold stepF nextF
    rw[if_neg h2,if_neg (by omega),if_pos h3,if_pos h10,hk]
    exact key p (by omega)
 ·rename_i h3
  split at hf
  ·cases hf
  ·rename_i h4
   cases hf
   refine ⟨q.line+1,q.cur,?_⟩
   unfold stepF
   rw[if_neg h2]
   by_cases a0:q.st=0
   ·rw[if_pos a0]
    unfold firstF
    rw[if_pos h10]
    exact key q (by omega)
   ·rw[if_neg a0,if_neg h3,if_neg (by omega),if_neg (by omega),if_neg (by omega)]
    by_cases a5:q.st=5
    ·rw[if_pos a5,if_pos h10];exact key q (by omega)
    ·rw[if_neg a5,if_pos rfl];exact key q (by omega)
theorem fin_shf{k L L':Nat}{P:List En}{q q':Cf}{es:List En}(h:Shf k P q q')(hf:finF L q=.ok es):finF L' q'=.ok (P++es.map (shE k)):=by
 unfold finF at hf ⊢
 rw[h.st,h.op]
 split at hf
 ·cases hf
 rename_i h1
 rw[if_neg h1]
 split at hf
 ·rename_i h3
  rw[if_pos h3]
  cases hk:keepF q false with
  |none=>rw[hk] at hf;cases hf
  |some p=>
   obtain ⟨p',e1,e2⟩:=keep_shf h (h.cur (by omega)) hk
   rw[hk] at hf
   rw[e1]
   simp only[e2.op] at hf ⊢
   split at hf
   ·cases hf
   ·rename_i h4
    cases hf
    rw[if_neg h4,closeF_shf e2]
 ·rename_i h3
  rw[if_neg h3]
  split at hf
  ·cases hf
  ·rename_i h4
   cases hf
   rw[if_neg h4,closeF_shf h]
theorem outF_st6{q p:Cf}{c:UInt8}{r:List UInt8}(h:outF q c r=some p):p.st<=6:=by
 unfold outF at h
 split at h
 ·cases h;exact Nat.le_refl _
 ·split at h
  ·cases h;exact Nat.zero_le _
  ·split at h
   ·split at h
    ·cases h
    ·cases h;exact Nat.zero_le _
   ·split at h
    ·split at h
     ·cases h;exact Nat.zero_le _
     ·cases h;exact Nat.zero_le _
    ·cases h;exact Nat.zero_le _
theorem step_st6{q p:Cf}{c:UInt8}{r:List UInt8}(h:stepF q c r=.ok p)(hq:q.st<=6):p.st<=6:=by
 unfold stepF at h
 split at h
 ·cases h
 split at h
 ·unfold firstF at h
  split at h
  ·exact outF_st6 (outR_ok h)
  ·split at h
   ·cases h;simp
   ·split at h <;> cases h <;> simp
 ·split at h
  ·unfold nextF at h
   split at h
   ·split at h
    ·cases h
    ·exact outF_st6 (outR_ok h)
   ·split at h
    ·cases h
    ·split at h <;> cases h <;> simp
  ·split at h
   ·cases h;simp
   ·split at h
    ·unfold quotF at h
     split at h
     ·split at h
      ·cases h
      ·cases h;simp
     ·split at h <;> cases h <;> simp
    ·split at h
     ·cases h;simp
     ·split at h
      ·split at h
       ·exact outF_st6 (outR_ok h)
       ·cases h
      ·split at h
       ·exact outF_st6 (outR_ok h)
       ·cases h;exact hq
theorem go_then{L L' k:Nat}{P:List En}(r:List UInt8):∀(s:List UInt8) {q q':Cf} {es:List En},Shf k P q q'->q.st<=6->goF L q s=.ok es->(s.getLast?=some 10->False)->∃n cur,goF L' q' (s++10::r)=goF L' (startQ n cur (headB r) (P++es.map (shE k))) r
 |[],q,q',es,h,hq,hg,_=>by
  have h1:=fin_shf (L':=L') h hg
  obtain ⟨n,cur,h2⟩:=nl_end h1 (by rw[h.st];exact hq) r
  refine ⟨n,cur,?_⟩
  rw[List.nil_append,goF,h2]
 |c::s,q,q',es,h,hq,hg,hl=>by
  rw[goF] at hg
  cases hs:stepF q c s with
  |er e=>rw[hs] at hg;cases hg
  |ok p=>
   rw[hs] at hg
   simp only at hg
   have hr:c=10->headB (s++10::r)=headB s:=by
    intro hc
    cases s with
    |nil=>exact absurd (by subst hc;rfl) hl
    |cons d s=>rfl
   obtain ⟨p',e1,e2⟩:=step_shf (r':=s++10::r) h hr hs
   obtain ⟨n,cur,h3⟩:=go_then r s e2 (step_st6 hs hq) hg (fun e=>hl (by
    cases s with
    |nil=>cases e
    |cons d s=>rw[List.getLast?_cons_cons];exact e))
   refine ⟨n,cur,?_⟩
   rw[List.cons_append,goF,e1]
   exact h3
theorem go_then10{L L' k:Nat}{P:List En}(r:List UInt8):∀(s:List UInt8) {q q':Cf} {es:List En},Shf k P q q'->q.st<=6->goF L q s=.ok es->s.getLast?=some 10->∃n cur,goF L' q' (s++r)=goF L' (startQ n cur (headB r) (P++es.map (shE k))) r
 |[],q,q',es,h,hq,hg,hl=>by cases hl
 |[c],q,q',es,h,hq,hg,hl=>by
  obtain rfl:c=10:=by simpa using hl
  rw[goF] at hg
  cases hs:stepF q 10 [] with
  |er e=>rw[hs] at hg;cases hg
  |ok p=>
   rw[hs] at hg
   simp only[goF] at hg
   have h0:p.st=0:=(step_line hs).2 rfl
   have hop:p.op=0:=by
    unfold finF at hg
    rw[if_neg (by omega),if_neg (by omega)] at hg
    split at hg
    ·cases hg
    ·omega
   have hfin:(closeF p).es=es:=by
    unfold finF at hg
    rw[if_neg (by omega),if_neg (by omega),if_neg (by omega)] at hg
    cases hg;rfl
   obtain ⟨p',e1,e2⟩:=step_shf (r':=[]) h (fun _=>rfl) hs
   have key:∀(u v:Cf),outR u 10 []=.ok v->v.op=0->∃v',outR u 10 r=.ok v'/\v'=startQ v.line v.cur (headB r) v.es/\v.ws=[]:=by
    intro u v hv ho
    unfold outR outF at hv ⊢
    simp only[show ¬ (10:UInt8)=59 from by decide,show ¬ (10:UInt8)=40 from by decide,show ¬ (10:UInt8)=41 from by decide,if_false,if_true] at hv ⊢
    by_cases hu:u.op=0
    ·simp only[hu,if_true] at hv ⊢
     cases hv
     refine ⟨_,rfl,?_,rfl⟩
     simp[beginF,closeF,startQ,hu]
    ·simp only[hu,if_false] at hv ⊢
     cases hv
     exact absurd ho hu
   have key2:∃v',stepF q' 10 r=.ok v'/\v'=startQ p'.line p'.cur (headB r) p'.es/\p'.ws=[]:=by
    have hop':p'.op=0:=by rw[e2.op];exact hop
    unfold stepF at e1 ⊢
    split at e1
    ·cases e1
    rename_i h1
    rw[if_neg h1]
    split at e1
    ·rename_i h2;rw[if_pos h2]
     unfold firstF at e1 ⊢
     rw[if_pos (by decide)] at e1 ⊢
     exact key _ _ e1 hop'
    ·rename_i h2;rw[if_neg h2]
     split at e1
     ·rename_i h3;rw[if_pos h3]
      unfold nextF at e1 ⊢
      rw[if_pos (by decide)] at e1 ⊢
      split at e1
      ·cases e1
      ·exact key _ _ e1 hop'
     ·rename_i h3;rw[if_neg h3]
      split at e1
      ·rename_i h4;exact absurd ⟨rfl,.inr (.inl h4)⟩ h1
      ·rename_i h4;rw[if_neg h4]
       split at e1
       ·rename_i h5;exact absurd ⟨rfl,.inl h5⟩ h1
       ·rename_i h5;rw[if_neg h5]
        split at e1
        ·rename_i h6;exact absurd ⟨rfl,.inr (.inr h6)⟩ h1
        ·rename_i h6;rw[if_neg h6]
         split at e1
         ·rename_i h7;rw[if_pos h7]
          rw[if_pos (by decide)] at e1 ⊢
          exact key _ _ e1 hop'
         ·rename_i h7;rw[if_neg h7]
          rw[if_pos (by decide)] at e1 ⊢
          exact key _ _ e1 hop'
   obtain ⟨v',h1,h2,h3⟩:=key2
   refine ⟨p'.line,p'.cur,?_⟩
   have hw:p.ws=[]:=by rw[<- e2.ws];exact h3
   have hes:p.es=es:=by rw[<- hfin];unfold closeF;rw[hw];rfl
   rw[List.singleton_append,goF,h1,h2,e2.es,hes]
 |c::d::s,q,q',es,h,hq,hg,hl=>by
  rw[goF] at hg
  cases hs:stepF q c (d::s) with
  |er e=>rw[hs] at hg;cases hg
  |ok p=>
   rw[hs] at hg
   simp only at hg
   obtain ⟨p',e1,e2⟩:=step_shf (r':=d::s++r) h (fun _=>rfl) hs
   obtain ⟨n,cur,h3⟩:=go_then10 r (d::s) e2 (step_st6 hs hq) hg (by rw[List.getLast?_cons_cons] at hl;exact hl)
   refine ⟨n,cur,?_⟩
   rw[List.cons_append,goF,e1]
   exact h3
def endl(s:List UInt8):List UInt8:=if s=[]∨s.getLast?=some 10 then s else s++[10]
theorem shf_start(k:Nat)(P:List En)(n:Nat)(cur cur':List UInt8)(b:Bool):Shf k P (startQ n cur b []) (startQ (n+k) cur' b P):=
 ⟨rfl,rfl,rfl,fun e=>absurd e (by show ¬ (1<=0/\0<=4);omega),rfl,rfl,by simp[startQ],fun h=>absurd rfl h⟩
theorem ents_go{s:List UInt8}{es:List En}(h:entsF s=.ok es):goF (linesF s) (startQ 1 [] (headB s) []) s=.ok es:=by
 unfold entsF at h
 split at h
 ·cases h
 ·exact h
theorem ents_then{s:List UInt8}{es:List En}(h:entsF s=.ok es)(L k:Nat)(P:List En)(cur:List UInt8)(r:List UInt8)(b:Bool)(hb:s≠[]->b=headB s)(hr:s=[]->b=headB r) :
  ∃n cur',goF L (startQ (1+k) cur b P) (endl s++r)=goF L (startQ n cur' (headB r) (P++es.map (shE k))) r:=by
 have hg:=ents_go h
 unfold endl
 by_cases h0:s=[]
 ·subst h0
  rw[if_pos (.inl rfl)]
  have:es=[]:=by simp[goF,finF,startQ,closeF] at hg;exact hg
  subst this
  exact ⟨1+k,cur,by rw[hr rfl];simp⟩
 ·have hbb:=hb h0
  subst hbb
  by_cases h1:s.getLast?=some 10
  ·rw[if_pos (.inr h1)]
   exact go_then10 r s (shf_start k P 1 [] cur (headB s)) (by simp[startQ]) hg h1
  ·rw[if_neg (fun h=>h.elim h0 h1)]
   obtain ⟨n,c,h2⟩:=go_then (L':=L) r s (shf_start k P 1 [] cur (headB s)) (by simp[startQ]) hg h1
   exact ⟨n,c,by rw[List.append_assoc];exact h2⟩
theorem headB_app(s r:List UInt8)(h:s≠[]):headB (s++r)=headB s:=by
 cases s with
 |nil=>exact absurd rfl h
 |cons c s=>rfl
theorem endl_head(s r:List UInt8)(h:s≠[]):headB (endl s++r)=headB s:=by
 unfold endl
 split
 ·exact headB_app s r h
 ·rw[List.append_assoc];exact headB_app s _ h
theorem same14{L L' k:Nat}{P:List En}:∀(s:List UInt8) {q q':Cf} {es:List En},Shf k P q q'->goF L q s=.ok es->goF L' q' s=.ok (P++es.map (shE k))
 |[],q,q',es,h,hg=>fin_shf h hg
 |c::s,q,q',es,h,hg=>by
  rw[goF] at hg
  cases hs:stepF q c s with
  |er e=>rw[hs] at hg;cases hg
  |ok p=>
   rw[hs] at hg
   simp only at hg
   obtain ⟨p',e1,e2⟩:=step_shf (r':=s) h (fun _=>rfl) hs
   rw[goF,e1]
   exact same14 s e2 hg
theorem ents_cons{e:En}{s:List UInt8}{es:List En}(he:okE e)(h:entsF s=.ok es)(L n:Nat)(cur:List UInt8)(P:List En):∃k,goF L (startQ n cur e.blank P) (enTxt e++s)=.ok (P++[⟨n,e.blank,e.ws⟩]++es.map (shE k)):=by
 obtain ⟨cur',h1⟩:=go_entry L e n cur e.blank P s he rfl
 rw[h1]
 cases n with
 |zero=>
  refine ⟨0,?_⟩
  exact same14 s (shf_start 0 _ 1 [] cur' (headB s)) (ents_go h)
 |succ m=>
  refine ⟨m+1,?_⟩
  have:=same14 (L':=L) s (shf_start (m+1) (P++[⟨(m+1:Nat),e.blank,e.ws⟩]) 1 [] cur' (headB s)) (ents_go h)
  rw[show 1+(m+1)=m+1+1 by omega] at this
  exact this
theorem ents_cons1{e:En}{s:List UInt8}{es:List En}(he:okE e)(h:entsF s=.ok es)(hl:(enTxt e++s).length<=65536):∃k,entsF (enTxt e++s)=.ok (⟨1,e.blank,e.ws⟩::es.map (shE k)):=by
 obtain ⟨k,h1⟩:=ents_cons he h (linesF (enTxt e++s)) 1 [] []
 refine ⟨k,?_⟩
 unfold entsF
 rw[if_neg (by omega)]
 show goF _ (startQ 1 [] (headB (enTxt e++s)) []) (enTxt e++s)=_
 rw[enTxt_head he,h1]
 rfl
theorem ents_two{s t:List UInt8}{e:En}{es fs:List En}(he:okE e)(h:entsF s=.ok es)(h2:entsF t=.ok fs)(hl:(endl s++(enTxt e++t)).length<=65536):∃n k,entsF (endl s++(enTxt e++t))=.ok (es.map (shE 0)++⟨n,e.blank,e.ws⟩::fs.map (shE k)):=by
 obtain ⟨n,cur,h3⟩:=ents_then h (linesF (endl s++(enTxt e++t))) 0 [] [] (enTxt e++t) (headB (endl s++(enTxt e++t))) (fun h=>endl_head _ _ h) (fun h=>by subst h;rfl)
 rw[enTxt_head he] at h3
 obtain ⟨k,h4⟩:=ents_cons he h2 (linesF (endl s++(enTxt e++t))) n cur ([]++es.map (shE 0))
 refine ⟨n,k,?_⟩
 unfold entsF
 rw[if_neg (by omega)]
 show goF _ (startQ 1 [] (headB (endl s++(enTxt e++t))) []) _=_
 have h5:goF (linesF (endl s++(enTxt e++t))) (startQ 1 [] (headB (endl s++(enTxt e++t))) []) (endl s++(enTxt e++t))=_:=h3.trans h4
 rw[h5]
 simp
end Go.Proofs.YtjkljpdolhglcaaGreatDoor
namespace Go.Proofs.YtjkljpdolhglcaaGreatDoor
open Go.ChangeShapes Go.WideShapes Go.ChangeAt Go.RowKit
theorem data_txt(s:ByteArray):s.data.toList=txt (nums s):=by
 have:=congrArg (fun b:ByteArray=>b.data.toList) (txt_back s)
 simpa using this.symm
theorem data_of{s:ByteArray}{l:List Int}(h:nums s=l):s.data.toList=txt l:=by rw[data_txt,h]
theorem txt_app(a b:List Int):txt (a++b)=txt a++txt b:=by simp[txt]
theorem bw_tx1n:∀n:Fin 256,bwS false (txt (tx1 (n.val:Int)))=true/\(txt (tx1 (n.val:Int))).length ≥ 1/\(∀c,(txt (tx1 (n.val:Int))).head?=some c->c≠36/\c≠46/\c≠64):=by
 have h:∀n:Fin 256,(bwS false (txt (tx1 (n.val:Int))) && (decide ((txt (tx1 (n.val:Int))).length ≥ 1)) && (match (txt (tx1 (n.val:Int))).head? with|none=>false|some c=>c != 36 && c != 46 && c != 64))=true:=by decide +kernel
 intro n
 have:=h n
 simp only[Bool.and_eq_true,decide_eq_true_eq] at this
 refine ⟨this.1.1,this.1.2,fun c hc=>?_⟩
 have h2:=this.2
 rw[hc] at h2
 simp at h2
 exact ⟨h2.1.1,h2.1.2,h2.2⟩
theorem bw_tx1{c:Int}(h:0<=c/\c<=255):bwS false (txt (tx1 c))=true/\(txt (tx1 c)).length ≥ 1/\(∀x,(txt (tx1 c)).head?=some x->x≠36/\x≠46/\x≠64):=by
 have:=bw_tx1n ⟨c.toNat,by omega⟩
 simp only at this
 rw[show ((c.toNat:Nat):Int)=c by omega] at this
 exact this
theorem bw_tx:∀l:List Int,(∀z∈l,0<=z/\z<=255)->bwS false (txt (tx l))=true
 |[],_=>rfl
 |c::l,h=>by
  have e:txt (tx (c::l))=txt (tx1 c)++txt (tx l):=by simp[tx,txt]
  rw[e,bw_app _ _ _ (bw_tx1 (h c (by simp))).1]
  exact bw_tx l (fun z hz=>h z (by simp[hz]))
theorem bw_flat:∀l:List ByteArray,bwS false (txt (flat l))=true
 |[]=>rfl
 |s::l=>by
  have e:txt (flat (s::l))=txt (tx (nums s))++(46::txt (flat l)):=by simp[flat,txt]
  rw[e,bw_app _ _ _ (bw_tx _ (nums_all s))]
  show bwS false ([46]++txt (flat l))=true
  rw[bw_app [46] _ _ (by decide)]
  exact bw_flat l
def flatR:List ByteArray->List Int
 |[]=>[]
 |[s]=>tx (nums s)
 |s::t::r=>tx (nums s)++(46::flatR (t::r))
theorem flat_flatR:∀l:List ByteArray,l≠[]->flat l=flatR l++[46]
 |[],h=>absurd rfl h
 |[s],_=>by simp[flat,flatR]
 |s::t::r,_=>by
  have:=flat_flatR (t::r) (by simp)
  have e:flat (s::t::r)=tx (nums s)++[46]++flat (t::r):=by simp[flat]
  rw[e,this]
  simp[flatR]
theorem lab_ne{s:ByteArray}(h:chk s.size=0):∃c l,nums s=c::l/\0<=c/\c<=255:=by
 have hs:=chk_ok h
 have hl:=nums_len s
 cases hn:nums s with
 |nil=>rw[hn] at hl;simp at hl;omega
 |cons c l=>exact ⟨c,l,rfl,nums_all s c (by rw[hn];simp)⟩
theorem headT{s:ByteArray}(h:chk s.size=0)(R:List UInt8):∃x r,txt (tx (nums s))++R=x::r/\x≠36/\x≠46/\x≠64:=by
 obtain ⟨c,l,e,hc⟩:=lab_ne h
 have h1:=bw_tx1 hc
 have e1:txt (tx (nums s))=txt (tx1 c)++txt (tx l):=by rw[e];simp[tx,txt]
 cases ht:txt (tx1 c) with
 |nil=>rw[ht] at h1;simp at h1
 |cons x r=>
  have:=h1.2.2 x (by rw[ht];rfl)
  exact ⟨x,r++txt (tx l)++R,by rw[e1,ht];simp,this⟩
theorem flatR_head{l:List ByteArray}(h:l≠[])(hok:labsOk l):∃x r,txt (flatR l)=x::r/\x≠36/\x≠46/\x≠64:=by
 obtain ⟨s,t,rfl⟩:=List.exists_cons_of_ne_nil h
 have hs:=hok s (by simp)
 cases t with
 |nil=>
  have:=headT hs []
  simpa [flatR] using this
 |cons t r=>
  have e:txt (flatR (s::t::r))=txt (tx (nums s))++(46::txt (flatR (t::r))):=by simp[flatR,txt]
  rw[e]
  exact headT hs _
theorem text_err{ss:List ByteArray}(h:(ntext ss).2=0):nck ss=0:=by
 unfold ntext at h
 by_cases h1:nck ss=0
 ·exact h1
 ·rw[if_neg h1] at h;exact absurd h h1
theorem good_text{ss:List ByteArray}(h:nck ss=0):goodW ((ntext ss).1,false)=true:=by
 have hok:=(nck_small h).2
 by_cases h0:ss=[]
 ·subst h0;decide +kernel
 ·have e:(ntext ss).1.data.toList=txt (flat ss):=by
   have:(ntext ss).1=ntxt ss:=by
    unfold ntext
    rw[if_pos h,if_neg (fun e=>h0 (List.eq_nil_of_length_eq_zero e))]
   rw[this,data_of (nums_ntxt ss)]
  unfold goodW
  simp only[Bool.false_eq_true,if_false]
  rw[e,bw_flat,flat_flatR ss h0]
  obtain ⟨x,r,e,_⟩:=flatR_head h0 hok
  rw[txt_app,e]
  rfl
def carE:List En->Cy->List Rec->Option (Cy × List Rec)
 |[],c,rs=>some (c,rs)
 |e::es,c,rs=>match stpE e c rs with
  | .error _=>none
  | .ok (c',rs')=>carE es c' rs'
theorem car_cons(e:En)(es:List En)(c:Cy)(rs:List Rec):carE (e::es) c rs=(match stpE e c rs with
  | .error _=>none
  | .ok (c',rs')=>carE es c' rs'):=rfl
theorem car_ok:∀(es:List En) (c:Cy) (rs out:List Rec),allF es c rs=.ok out↔∃c',carE es c rs=some (c',out)
 |[],c,rs,out=>by simp[allF,carE]
 |e::es,c,rs,out=>by
  unfold allF carE
  cases stpE e c rs with
  |error er=>simp
  |ok p=>exact car_ok es p.1 p.2 out
theorem car_app:∀(es fs:List En) (c:Cy) (rs:List Rec),carE (es++fs) c rs=(carE es c rs).bind fun p=>carE fs p.1 p.2
 |[],fs,c,rs=>rfl
 |e::es,fs,c,rs=>by
  rw[List.cons_append,car_cons,car_cons]
  cases stpE e c rs with
  |error er=>rfl
  |ok p=>exact car_app es fs p.1 p.2
theorem car_lines(k:Nat):∀(es:List En) (c:Cy) (rs:List Rec),carE (es.map (shE k)) c rs=carE es c rs
 |[],c,rs=>rfl
 |e::es,c,rs=>by
  rw[List.map_cons,car_cons,car_cons]
  rw[show stpE (shE k e) c rs=stpE e c rs from rfl]
  cases stpE e c rs with
  |error er=>rfl
  |ok p=>exact car_lines k es p.1 p.2
theorem mst_ok{s:ByteArray}{og:List ByteArray}{out:List Rec}(h:mstF s og=.ok out):nck og=0/\∃es,entsF s.data.toList=.ok es/\allF es (cy0 og) []=.ok out:=by
 unfold mstF at h
 split at h
 ·rename_i h1
  refine ⟨h1,?_⟩
  cases he:entsF s.data.toList with
  |er e l=>rw[he] at h;cases h
  |ok es=>rw[he] at h;exact ⟨es,rfl,h⟩
 ·cases h
theorem mst_of{s:ByteArray}{og:List ByteArray}{es:List En}{out:List Rec}(h1:nck og=0)(h2:entsF s.data.toList=.ok es)(h3:allF es (cy0 og) []=.ok out):mstF s og=.ok out:=by
 unfold mstF
 rw[if_pos h1,h2]
 exact h3
theorem nparse_ok{s:ByteArray}(h:(nparse s).2=0):nck (nparse s).1=0:=by
 unfold nparse at h ⊢
 by_cases h1:s.toList=[46]
 ·rw[if_pos h1];decide
 ·rw[if_neg h1] at h ⊢
  by_cases h2:(lgo (nums s) []).2.2=0
  ·rw[if_pos h2] at h ⊢
   by_cases h3:(lgo (nums s) []).2.1=true
   ·rw[if_pos h3] at h ⊢
    by_cases h4:nck (lgo (nums s) []).1=0
    ·rw[if_pos h4];exact h4
    ·rw[if_neg h4] at h;exact absurd h h4
   ·rw[if_neg h3] at h;exact absurd h (by decide)
  ·rw[if_neg h2] at h;exact absurd h h2
theorem njoin_ok{a b:List ByteArray}(h:(njoin a b).2=0):nck (njoin a b).1=0:=by
 unfold njoin at h ⊢
 by_cases h1:nck a=0
 ·rw[if_pos h1] at h ⊢
  by_cases h2:nck b=0
  ·rw[if_pos h2] at h ⊢
   by_cases h3:nck (a++b)=0
   ·rw[if_pos h3];exact h3
   ·rw[if_neg h3] at h;exact absurd h (by decide)
  ·rw[if_neg h2] at h;exact absurd h h2
 ·rw[if_neg h1] at h;exact absurd h h1
theorem nrel_ok{s:ByteArray}{og:List ByteArray}(h:(nrel s og).2=0):nck (nrel s og).1=0:=by
 unfold nrel at h ⊢
 by_cases h1:nck og=0
 ·rw[if_pos h1] at h ⊢
  by_cases h2:s.toList=[64]
  ·rw[if_pos h2];exact h1
  ·rw[if_neg h2] at h ⊢
   by_cases h3:s.toList=[46]
   ·rw[if_pos h3];decide
   ·rw[if_neg h3] at h ⊢
    by_cases h4:(lgo (nums s) []).2.2=0
    ·rw[if_pos h4] at h ⊢
     by_cases h5:(lgo (nums s) []).2.1=true
     ·rw[if_pos h5] at h ⊢;exact nparse_ok h
     ·rw[if_neg h5] at h ⊢;exact njoin_ok h
    ·rw[if_neg h4] at h;exact absurd h h4
 ·rw[if_neg h1] at h;exact absurd h h1
theorem ent_og{e:En}{c c':Cy}{r:Rec}(h:entF e c=.ok (r,c')):c'.og=c.og:=by
 unfold entF at h
 split at h
 ·cases h
 ·split at h
  ·cases h
  ·split at h
   ·cases h
   ·split at h
    ·cases h
    ·rename_i d hd
     cases ht:tmF _ d c with
     |none=>rw[ht] at h;cases h
     |some p=>
      rw[ht] at h
      cases h
      exact tm_og (c':=p.2) (n:=p.1) ht
theorem stp_nck{e:En}{c c':Cy}{rs rs':List Rec}(hc:nck c.og=0)(h:stpE e c rs=.ok (c',rs')):nck c'.og=0:=by
 unfold stpE at h
 split at h
 ·cases he:entF e c with
  |error er=>rw[he] at h;cases h
  |ok p=>
   rw[he] at h
   simp only at h
   split at h
   ·cases h
   ·cases h
    rw[ent_og (r:=p.1) (c':=p.2) he]
    exact hc
 ·cases he:cmdE (cmdF e) e.ws.tail c with
  |error er=>rw[he] at h;cases h
  |ok p=>
   rw[he] at h
   cases h
   unfold cmdE at he
   split at he
   ·split at he
    ·split at he
     ·rename_i h1
      cases he
      exact nrel_ok h1
     ·cases he
    ·split at he
     ·cases he;exact hc
     ·cases he
   ·cases he
theorem car_nck:∀(es:List En) {c c':Cy} {rs rs':List Rec},nck c.og=0->carE es c rs=some (c',rs')->nck c'.og=0
 |[],c,c',rs,rs',hc,h=>by cases h;exact hc
 |e::es,c,c',rs,rs',hc,h=>by
  unfold carE at h
  cases hs:stpE e c rs with
  |error er=>rw[hs] at h;cases h
  |ok p=>
   rw[hs] at h
   exact car_nck es (stp_nck (rs':=p.2) hc hs) h
def fullE(e:En):Bool:=!e.blank && (match e.ws with
 |w0::w1::w2::_::_=>!w0.2 && !((nums w0.1).head? == some 36) && (ttlF w1.1).isSome && decide (up w2.1=⟨#[73,78]⟩)
 |_=>false)
theorem xdec_hd14(n:Nat):∃c l,xdec n=c::l/\xdig c=true:=by
 induction n using Nat.strongRecOn with
 |ind n ih=>
  by_cases h:n<10
  ·rw[xdec_small h]
   refine ⟨_,_,rfl,?_⟩
   unfold xdig
   simp
   omega
  ·rw[xdec_big h]
   obtain ⟨c,l,e,hc⟩:=ih (n / 10) (by omega)
   rw[e]
   exact ⟨c,_,rfl,hc⟩
theorem num31_head{l:List Int}{n:Nat}(h:num31 l=some n):∃c r,l=c::r/\xdig c=true:=by
 obtain ⟨c,r,e,hc⟩:=xdec_hd14 n
 exact ⟨c,r,by rw[<- e];exact (xnum_some h).1,hc⟩
theorem ttl_isT{s:ByteArray}{n:Nat}(h:ttlF s=some n):isT s=true:=by
 have key:∃c r,nums s=c::r/\xdig c=true:=by
  unfold ttlF at h
  cases h1:num31 (nums s) with
  |some m=>exact num31_head h1
  |none=>
   rw[h1] at h
   simp only at h
   cases h2:sumF 6 (nums (foldL s)) 0 0 with
   |none=>rw[h2] at h;cases h
   |some p=>
    rw[h2] at h
    rw[nums_foldL] at h2
    cases hn:nums s with
    |nil=>
     rw[hn] at h2
     simp only[List.map_nil,sumF] at h2
     cases h2
     simp at h
    |cons a t=>
     rw[hn,List.map_cons] at h2
     unfold sumF at h2
     cases h3:num31 (dgsD (fz a::t.map fz)) with
     |none=>rw[h3] at h2;cases h2
     |some m=>
      obtain ⟨c,r,e,hc⟩:=num31_head h3
      refine ⟨a,t,rfl,?_⟩
      unfold dgsD at e
      rw[List.takeWhile_cons] at e
      split at e
      ·rename_i h4
       unfold xdig fz at h4
       unfold xdig
       split at h4
       ·simp at h4;omega
       ·exact h4
      ·cases e
 obtain ⟨c,r,e,hc⟩:=key
 unfold isT
 rw[e]
 exact hc
theorem up_IN{s:ByteArray}(h:up s=⟨#[73,78]⟩):isT s=false/\clF s=some 1/\tyF s=none:=by
 refine ⟨?_,?_,?_⟩
 ·have h1:(nums s).map uz=[73,78]:=by
   have e:=congrArg nums h
   have:nums (up s)=(nums s).map uz:=by
    unfold up
    refine nums_txt _ fun z hz=>?_
    obtain ⟨y,hy,rfl⟩:=List.mem_map.1 hz
    exact uz_bd y (nums_bds s y hy)
   rw[this] at e
   exact e
  unfold isT
  cases hn:nums s with
  |nil=>rfl
  |cons c l=>
   rw[hn] at h1
   simp only[List.map_cons,List.cons.injEq] at h1
   have h2:=h1.1
   show xdig c=false
   unfold uz at h2
   unfold xdig
   split at h2
   ·have:c=105:=by omega
    subst this;rfl
   ·subst h2;rfl
 ·unfold clF;rw[h];decide +kernel
 ·unfold tyF;rw[h];decide +kernel
theorem tk_keep{y y':Say}{w:Wd}(h:tkF y w=.ok y')(h1:y.ht=true)(h2:y.hc=true):y'.ht=true/\y'.hc=true:=by
 unfold tkF at h
 split at h
 ·cases h
 ·split at h
  ·cases h
  ·split at h
   ·cases h
   ·split at h
    ·split at h
     ·cases h;exact ⟨rfl,h2⟩
     ·cases h
    ·split at h
     ·split at h
      ·cases h;exact ⟨h1,rfl⟩
      ·cases h
     ·split at h
      ·split at h
       ·cases h;exact ⟨h1,h2⟩
       ·cases h
      ·cases h
theorem says_keep:∀(ws:List Wd) {y y':Say} {r:List Wd},saysF y ws=.ok (y',r)->y.ht=true->y.hc=true->y'.ht=true/\y'.hc=true
 |[],y,y',r,h,_,_=>by cases h
 |w::ws,y,y',r,h,h1,h2=>by
  unfold saysF at h
  cases ht:tkF y w with
  |error er=>rw[ht] at h;cases h
  |ok z=>
   rw[ht] at h
   simp only at h
   have hz:=tk_keep ht h1 h2
   split at h
   ·cases h;exact hz
   ·exact says_keep ws h hz.1 hz.2
theorem says_full{w1 w2:Wd}{ws r:List Wd}{y:Say}(h1:(ttlF w1.1).isSome=true)(h2:up w2.1=⟨#[73,78]⟩)(h:saysF say0 (w1::w2::ws)=.ok (y,r)):y.ht=true/\y.hc=true:=by
 obtain ⟨n,hn⟩:=Option.isSome_iff_exists.1 h1
 have t1:=ttl_isT hn
 obtain ⟨t2,t3,t4⟩:=up_IN h2
 have hC:isC w2.1=true:=by unfold isC;rw[t3,t4];rfl
 unfold saysF at h
 have e1:tkF say0 w1=.error 240∨tkF say0 w1=.ok ⟨0,0,n,false,false,true⟩:=by
  unfold tkF
  by_cases hq:w1.2=true
  ·rw[if_pos hq];exact .inl rfl
  ·rw[if_neg hq]
   right
   simp only[say0,Bool.false_and,Bool.false_eq_true,if_false,t1,if_true,hn]
 rcases e1 with e1|e1
 ·rw[e1] at h;cases h
 ·rw[e1] at h
  simp only[Bool.false_eq_true,if_false] at h
  unfold saysF at h
  have e2:tkF ⟨0,0,n,false,false,true⟩ w2=.error 240∨tkF ⟨0,0,n,false,false,true⟩ w2=.ok ⟨0,1,n,false,true,true⟩:=by
   unfold tkF
   by_cases hq:w2.2=true
   ·rw[if_pos hq];exact .inl rfl
   ·rw[if_neg hq]
    right
    simp only[Bool.true_and,Bool.false_and,Bool.false_eq_true,if_false,t2,hC,if_true,t3]
  rcases e2 with e2|e2
  ·rw[e2] at h;cases h
  ·rw[e2] at h
   simp only[Bool.false_eq_true,if_false] at h
   exact says_keep ws h rfl rfl
theorem full_parts{e:En}(h:fullE e=true):e.blank=false/\∃w0 w1 w2 w3 ws,e.ws=w0::w1::w2::w3::ws/\w0.2=false/\(nums w0.1).head?≠some 36/\(ttlF w1.1).isSome=true/\up w2.1=⟨#[73,78]⟩:=by
 unfold fullE at h
 simp only[Bool.and_eq_true,Bool.not_eq_true'] at h
 refine ⟨h.1,?_⟩
 have h2:=h.2
 split at h2
 ·rename_i w0 w1 w2 w3 ws e1
  simp only[Bool.and_eq_true,Bool.not_eq_true',decide_eq_true_eq,beq_eq_false_iff_ne] at h2
  exact ⟨w0,w1,w2,w3,ws,e1,h2.1.1.1,h2.1.1.2,h2.1.2,h2.2⟩
 ·cases h2
theorem fold_no{s:ByteArray}(h:(nums s).head?≠some 36):foldL s≠cOrigin/\foldL s≠cTTL:=by
 have key:∀b:ByteArray,(nums b).head?=some 36->foldL s≠b:=by
  intro b hb e
  rw[<- e,nums_foldL] at hb
  cases hn:nums s with
  |nil=>rw[hn] at hb;cases hb
  |cons c l=>
   rw[hn] at hb h
   simp only[List.map_cons,List.head?_cons,Option.some.injEq] at hb
   apply h
   simp only[List.head?_cons,Option.some.injEq]
   unfold fz at hb
   split at hb <;> omega
 exact ⟨key _ (by decide),key _ (by decide)⟩
theorem ent_full{e:En}{c1 c2 c1':Cy}{r:Rec}(hf:fullE e=true)(hg:c2.og=c1.og)(h:entF e c1=.ok (r,c1')):∃c2',entF e c2=.ok (r,c2')/\c2'.og=c1'.og:=by
 obtain ⟨hb,w0,w1,w2,w3,ws,he,hq,hd,ht,hi⟩:=full_parts hf
 have ho:∀c:Cy,ownF e c=((nrel w0.1 c.og).1,w1::w2::w3::ws,(nrel w0.1 c.og).2):=by
  intro c
  unfold ownF
  obtain ⟨t0,q0⟩:=w0
  simp only at hq
  subst hq
  rw[hb,he]
  rfl
 unfold entF at h ⊢
 rw[ho c1] at h
 rw[ho c2,hg]
 split at h
 ·cases h
 rename_i h1
 rw[if_neg h1]
 split at h
 ·cases h
 rename_i h2
 rw[if_neg h2]
 simp only at h ⊢
 cases hs:saysF say0 (w1::w2::w3::ws) with
 |error er=>rw[hs] at h;cases h
 |ok p=>
  obtain ⟨y,q⟩:=p
  rw[hs] at h
  simp only at h ⊢
  obtain ⟨k1,k2⟩:=says_full (ws:=w3::ws) ht hi hs
  cases hp:prsF y.k c1.og q with
  |none=>rw[hp] at h;cases h
  |some d=>
   rw[hp] at h
   simp only at h ⊢
   have e1:∀c:Cy,tmF y d c=some (y.t,{ c with tt:=y.t,ht:=true }):=fun c=>by unfold tmF;rw[if_pos k1]
   have e2:∀c:Cy,csF y c=y.c:=fun c=>by unfold csF;rw[if_pos k2]
   rw[e1] at h
   rw[e1]
   simp only[e2] at h ⊢
   cases h
   exact ⟨_,rfl,hg⟩
theorem full_cmd{e:En}(hf:fullE e=true):cmdF e=0:=by
 obtain ⟨hb,w0,w1,w2,w3,ws,he,hq,hd,ht,hi⟩:=full_parts hf
 have h1:opnF e=w0.1:=by
  unfold opnF
  obtain ⟨t0,q0⟩:=w0
  simp only at hq
  subst hq
  rw[hb,he]
  rfl
 unfold cmdF
 rw[h1,if_neg (fold_no hd).1,if_neg (fold_no hd).2]
theorem car_full:∀(fs:List En) {c1 c1':Cy} {r1 out:List Rec},(∀e∈fs,fullE e=true)->carE fs c1 r1=some (c1',out)->∃b,out=r1++b/\∀c2 r2,c2.og=c1.og->r2.length+b.length<=2048->∃c2',carE fs c2 r2=some (c2',r2++b)
 |[],c1,c1',r1,out,_,h=>by
  cases h
  exact ⟨[],by simp,fun c2 r2 _ _=>⟨c2,by simp[carE]⟩⟩
 |e::fs,c1,c1',r1,out,hf,h=>by
  have he:=hf e (by simp)
  unfold carE at h
  cases hs:stpE e c1 r1 with
  |error er=>rw[hs] at h;cases h
  |ok p=>
   rw[hs] at h
   simp only at h
   unfold stpE at hs
   rw[if_pos (full_cmd he)] at hs
   cases hn:entF e c1 with
   |error er=>rw[hn] at hs;cases hs
   |ok q=>
    obtain ⟨r,c3⟩:=q
    rw[hn] at hs
    simp only at hs
    split at hs
    ·cases hs
    ·rename_i hlen
     cases hs
     obtain ⟨b,hb,hk⟩:=car_full fs (fun x hx=>hf x (by simp[hx])) h
     refine ⟨r::b,by rw[hb];simp,fun c2 r2 hg hl=>?_⟩
     obtain ⟨c4,h4,h5⟩:=ent_full he hg hn
     simp only[List.length_cons] at hl
     obtain ⟨c5,h6⟩:=hk c4 (r2++[r]) h5 (by simp;omega)
     refine ⟨c5,?_⟩
     unfold carE
     have:stpE e c2 r2=.ok (c4,r2++[r]):=by
      unfold stpE
      rw[if_pos (full_cmd he),h4]
      simp only
      rw[if_neg (by omega)]
     rw[this]
     simp only
     rw[h6]
     simp
def orgE(o:ByteArray)(own:List ByteArray):En:=⟨1,false,[(o,false),((ntext own).1,false)]⟩
theorem org_stp{o:ByteArray}(ho:foldL o=cOrigin){own:List ByteArray}{c:Cy}(rs:List Rec)(l:Int)(h:nck own=0)(hc:nck c.og=0):stpE ⟨l,false,(orgE o own).ws⟩ c rs=.ok ({ c with og:=own },rs):=by
 have h1:cmdF ⟨l,false,(orgE o own).ws⟩=1:=by
  show (if foldL o=cOrigin then 1 else if foldL o=cTTL then 2 else 0)=1
  rw[if_pos ho]
 unfold stpE
 rw[h1,if_neg (by decide)]
 show (match cmdE 1 [((ntext own).1,false)] c with | .error er=>_ | .ok c'=>_)=_
 have h2:cmdE 1 [((ntext own).1,false)] c=.ok { c with og:=own }:=by
  unfold cmdE
  simp only[if_true,rel_text own c.og h hc]
 rw[h2]
theorem org_ok{o:ByteArray}(ho:goodW (o,false)=true){own:List ByteArray}(h:nck own=0):okE (orgE o own):=
 ⟨by simp[orgE],by simp[orgE],fun w hw=>by
  rcases List.mem_cons.1 hw with rfl|hw
  ·exact ho
  ·rw[List.mem_singleton] at hw
   subst hw
   exact good_text h⟩
theorem mst_joins{s t second all:ByteArray}{og own:List ByteArray}{a b:List Rec}{fs:List En}{o:ByteArray}(ho:foldL o=cOrigin)(hog:goodW (o,false)=true)(ha:mstF s og=.ok a)(hown:nck own=0)(ht:entsF t.data.toList=.ok fs)(hf:∀e∈fs,fullE e=true)(hs:second.data.toList=enTxt (orgE o own)++t.data.toList)(hb:mstF second og=.ok b)(hall:all.data.toList=endl s.data.toList++second.data.toList)(hl:all.size<=65536)(hn:a.length+b.length<=2048):mstF all og=.ok (a++b):=by
 obtain ⟨h1,es,h2,h3⟩:=mst_ok ha
 obtain ⟨_,gs,h4,h5⟩:=mst_ok hb
 have hok:=org_ok hog hown
 have hl1:(endl s.data.toList++(enTxt (orgE o own)++t.data.toList)).length<=65536:=by
  rw[<- hs,<- hall];simpa using hl
 obtain ⟨k0,h6⟩:=ents_cons1 hok ht (by rw[List.length_append] at hl1;omega)
 rw[hs,h6] at h4
 cases h4
 obtain ⟨n,k,h7⟩:=ents_two hok h2 ht hl1
 refine mst_of h1 (es:=es.map (shE 0)++⟨n,false,(orgE o own).ws⟩::fs.map (shE k)) (by rw[hall,hs];exact h7) ?_
 obtain ⟨c1,h8⟩:=(car_ok _ _ _ _).1 h3
 obtain ⟨c2,h9⟩:=(car_ok _ _ _ _).1 h5
 have e1:carE (⟨1,false,(orgE o own).ws⟩::fs.map (shE k0)) (cy0 og) []=carE fs { cy0 og with og:=own } []:=by
  rw[<- car_lines k0 fs]
  show (match stpE ⟨1,false,(orgE o own).ws⟩ (cy0 og) [] with | .error _=>none | .ok (c',rs')=>carE (fs.map (shE k0)) c' rs')=_
  rw[org_stp ho [] 1 hown h1]
 have h9':carE (⟨1,false,(orgE o own).ws⟩::fs.map (shE k0)) (cy0 og) []=some (c2,b):=h9
 rw[e1] at h9'
 obtain ⟨b',hb',hk⟩:=car_full fs hf h9'
 rw[List.nil_append] at hb'
 subst hb'
 rw[car_ok,car_app,car_lines,h8]
 simp only[Option.bind_some]
 have hc1:=car_nck es h1 h8
 have e2:carE (⟨n,false,(orgE o own).ws⟩::fs.map (shE k)) c1 a=carE fs { c1 with og:=own } a:=by
  rw[<- car_lines k fs]
  show (match stpE ⟨n,false,(orgE o own).ws⟩ c1 a with | .error _=>none | .ok (c',rs')=>carE (fs.map (shE k)) c' rs')=_
  rw[org_stp ho a n hown hc1]
 rw[e2]
 exact hk { c1 with og:=own } a rfl hn
theorem org_txt(o:ByteArray)(own:List ByteArray):enTxt (orgE o own)=o.data.toList++(32::((ntext own).1.data.toList++[10])):=by
 unfold enTxt orgE
 simp only[Bool.false_eq_true,if_false,List.nil_append]
 show (wtxt (o,false)++32::wtxt ((ntext own).1,false))++[10]=_
 simp[wtxt]
theorem head_data{s:ByteArray}{x:UInt8}{r:List UInt8}(h:s.data.toList=x::r)(hx:x≠36):(nums s).head?≠some 36:=by
 unfold nums
 rw[h]
 simp only[List.map_cons,List.head?_cons,ne_eq,Option.some.injEq]
 intro e
 apply hx
 apply UInt8.toNat_inj.1
 show x.toNat=36
 omega
theorem text_size{ss:List ByteArray}(h:nck ss=0):(ntext ss).1.size<=1020:=by
 unfold ntext
 rw[if_pos h]
 split
 ·decide
 ·have h1:=ntxt_size ss ss.length (Nat.le_refl _)
  rw[List.take_length] at h1
  have:=(nck_small h).1
  show (ntxt ss).size<=1020
  omega
theorem dec_ascii:∀n:Nat,∀b∈Lib.decDigits n,b.toNat<128:=by
 intro n
 induction n using Nat.strongRecOn with
 |ind n ih=>
  intro b hb
  rw[Lib.decDigits] at hb
  split at hb
  ·rename_i h
   simp only[List.mem_singleton] at hb
   subst hb
   simp
   omega
  ·rcases List.mem_append.1 hb with hb|hb
   ·exact ih (n / 10) (by omega) b hb
   ·simp only[List.mem_singleton] at hb
    subst hb
    simp
    omega
theorem read_ascii{ps:Own4}{pre:List UInt8}{below n:Nat}{l:List UInt8}(hp:∀p∈ps,∀b∈p.1,b.toNat<128)(hpre:∀b∈pre,b.toNat<128)(h:readC ps pre below l=some n):∀b∈l,b.toNat<128:=by
 unfold readC at h
 obtain ⟨d,h1,h2⟩:=Option.bind_eq_some_iff.1 h
 unfold digF at h1
 split at h1
 ·rename_i p hf
  have h3:=List.find?_some hf
  have h4:=List.mem_of_find?_eq_some hf
  have:p.1=l:=by simpa using h3
  rw[<- this]
  exact hp p h4
 ·split at h1
  ·rename_i hx
   injection h1 with h1
   have h5:=(numF_some h2).1
   have h6:=List.isPrefixOf_iff_prefix.1 hx
   obtain ⟨t,ht⟩:=h6
   rw[<- ht,List.drop_left] at h1
   rw[<- ht]
   intro b hb
   rcases List.mem_append.1 hb with hb|hb
   ·exact hpre b hb
   ·rw[h1,h5] at hb
    exact dec_ascii _ b hb
  ·cases h1
theorem up_byte:∀n:Fin 256,UInt8.ofNat (uz (n.val:Int)).toNat=Lib.upperB (UInt8.ofNat n.val):=by decide +kernel
theorem up_data(s:ByteArray):(up s).data.toList=Lib.toUpperA s.data.toList:=by
 show txt ((nums s).map uz)=_
 unfold txt Lib.toUpperA nums
 rw[List.map_map,List.map_map]
 apply List.map_congr_left
 intro b _
 have h:=up_byte ⟨b.toNat,b.toNat_lt⟩
 simp only at h
 show UInt8.ofNat (uz (b.toNat:Int)).toNat=_
 rw[h]
 simp
theorem upB_big{b:UInt8}(h:¬ b.toNat<128):Lib.upperB b=b:=by
 unfold Lib.upperB
 rw[if_neg]
 intro e
 unfold Lib.isLowerB at e
 simp at e
 have:=e.2
 have h2:b.toNat<=122:=by simpa using UInt8.le_iff_toNat_le.1 this
 omega
theorem typesA:(∀p∈typesW,∀b∈p.1,b.toNat<128)/\(∀b∈typesP.data.toList,b.toNat<128):=by decide +kernel
theorem classesA:(∀p∈classesW,∀b∈p.1,b.toNat<128)/\(∀b∈classesP.data.toList,b.toNat<128):=by decide +kernel
theorem tyF_ascii{s:ByteArray}{n:Nat}(h:tyF s=some n):∀b∈s.data.toList,b.toNat<128:=by
 intro b hb
 have h1:=read_ascii typesA.1 typesA.2 h
 rw[up_data] at h1
 by_cases h2:b.toNat<128
 ·exact h2
 ·have:=h1 (Lib.upperB b) (List.mem_map.2 ⟨b,hb,rfl⟩)
  rw[upB_big h2] at this
  exact this
theorem clF_ascii{s:ByteArray}{n:Nat}(h:clF s=some n):∀b∈s.data.toList,b.toNat<128:=by
 intro b hb
 have h1:=read_ascii classesA.1 classesA.2 h
 rw[up_data] at h1
 by_cases h2:b.toNat<128
 ·exact h2
 ·have:=h1 (Lib.upperB b) (List.mem_map.2 ⟨b,hb,rfl⟩)
  rw[upB_big h2] at this
  exact this
theorem up_of{s:ByteArray}(h:Lib.toUpperD s.data.toList=[73,78]):up s=⟨#[73,78]⟩∨(clF s=none/\tyF s=none):=by
 by_cases ha:∀b∈s.data.toList,b.toNat<128
 ·left
  rw[Lib.toUpperD_ascii _ ha,<- up_data] at h
  apply ba_inj
  rw[ba_toList,ba_toList,h]
 ·right
  constructor
  ·cases hc:clF s with
   |none=>rfl
   |some n=>exact absurd (clF_ascii hc) ha
  ·cases hc:tyF s with
   |none=>rfl
   |some n=>exact absurd (tyF_ascii hc) ha
def fullU(e:En):Bool:=!e.blank && (match e.ws with
 |w0::w1::w2::_::_=>!w0.2 && !(Lib.hasPrefix w0.1.data.toList [36]) && (ttlF w1.1).isSome && decide (Lib.toUpperD w2.1.data.toList=[73,78])
 |_=>false)
theorem fullU_parts{e:En}(h:fullU e=true):e.blank=false/\∃w0 w1 w2 w3 ws,e.ws=w0::w1::w2::w3::ws/\w0.2=false/\(nums w0.1).head?≠some 36/\(ttlF w1.1).isSome=true/\Lib.toUpperD w2.1.data.toList=[73,78]:=by
 unfold fullU at h
 simp only[Bool.and_eq_true,Bool.not_eq_true'] at h
 refine ⟨h.1,?_⟩
 have h2:=h.2
 split at h2
 ·rename_i w0 w1 w2 w3 ws e1
  simp only[Bool.and_eq_true,Bool.not_eq_true',decide_eq_true_eq] at h2
  refine ⟨w0,w1,w2,w3,ws,e1,h2.1.1.1,?_,h2.1.2,h2.2⟩
  have h3:=h2.1.1.2
  cases hd:w0.1.data.toList with
  |nil=>unfold nums;rw[hd];simp
  |cons c r=>
   refine head_data hd ?_
   intro e
   rw[hd] at h3
   subst e
   simp[Lib.hasPrefix,List.isPrefixOf] at h3
 ·cases h2
theorem fullU_cmd{e:En}(hf:fullU e=true):cmdF e=0:=by
 obtain ⟨hb,w0,w1,w2,w3,ws,he,hq,hd,ht,hi⟩:=fullU_parts hf
 have h1:opnF e=w0.1:=by
  unfold opnF
  obtain ⟨t0,q0⟩:=w0
  simp only at hq
  subst hq
  rw[hb,he]
  rfl
 unfold cmdF
 rw[h1,if_neg (fold_no hd).1,if_neg (fold_no hd).2]
theorem fullU_E{e:En}{c c':Cy}{rs rs':List Rec}(hf:fullU e=true)(h:stpE e c rs=.ok (c',rs')):fullE e=true:=by
 obtain ⟨hb,w0,w1,w2,w3,ws,he,hq,hd,ht,hi⟩:=fullU_parts hf
 have hup:up w2.1=⟨#[73,78]⟩:=by
  rcases up_of hi with h1|⟨h1,h2⟩
  ·exact h1
  ·exfalso
   obtain ⟨n,hn⟩:=Option.isSome_iff_exists.1 ht
   have t1:=ttl_isT hn
   unfold stpE at h
   rw[if_pos (fullU_cmd hf)] at h
   cases hent:entF e c with
   |error er=>rw[hent] at h;cases h
   |ok p=>
    have ho:ownF e c=((nrel w0.1 c.og).1,w1::w2::w3::ws,(nrel w0.1 c.og).2):=by
     unfold ownF
     obtain ⟨t0,q0⟩:=w0
     simp only at hq
     subst hq
     rw[hb,he]
     rfl
    unfold entF at hent
    rw[ho] at hent
    split at hent
    ·cases hent
    split at hent
    ·cases hent
    simp only at hent
    cases hs:saysF say0 (w1::w2::w3::ws) with
    |error er=>rw[hs] at hent;cases hent
    |ok q=>
     unfold saysF at hs
     have e1:tkF say0 w1=.error 240∨tkF say0 w1=.ok ⟨0,0,n,false,false,true⟩:=by
      unfold tkF
      by_cases hq:w1.2=true
      ·rw[if_pos hq];exact .inl rfl
      ·rw[if_neg hq]
       right
       simp only[say0,Bool.false_and,Bool.false_eq_true,if_false,t1,if_true,hn]
     rcases e1 with e1|e1
     ·rw[e1] at hs;cases hs
     ·rw[e1] at hs
      simp only[Bool.false_eq_true,if_false] at hs
      unfold saysF at hs
      have e2:∃x,tkF ⟨0,0,n,false,false,true⟩ w2=.error x:=by
       have hC:isC w2.1=false:=by unfold isC;rw[h1];rfl
       unfold tkF
       by_cases hq:w2.2=true
       ·rw[if_pos hq];exact ⟨_,rfl⟩
       ·rw[if_neg hq]
        by_cases hT:isT w2.1=true
        ·simp only[hT,Bool.true_and,if_true];exact ⟨_,rfl⟩
        ·have hT':isT w2.1=false:=by simpa using hT
         simp only[hT',hC,Bool.and_false,Bool.false_and,Bool.false_eq_true,if_false,h2]
         exact ⟨_,rfl⟩
      obtain ⟨x,e2⟩:=e2
      rw[e2] at hs
      cases hs
 unfold fullE
 rw[hb,he]
 simp only[Bool.not_false,Bool.true_and,hq,ht,hup,decide_true,Bool.and_true,Bool.not_eq_true',beq_eq_false_iff_ne]
 exact hd
theorem car_all:∀(es:List En) {c c':Cy} {rs rs':List Rec},carE es c rs=some (c',rs')->∀e∈es,∃c1 c2 r1 r2,stpE e c1 r1=.ok (c2,r2)
 |[],c,c',rs,rs',_,e,he=>by cases he
 |x::es,c,c',rs,rs',h,e,he=>by
  rw[car_cons] at h
  cases hs:stpE x c rs with
  |error er=>rw[hs] at h;cases h
  |ok p=>
   rw[hs] at h
   rcases List.mem_cons.1 he with rfl|he
   ·exact ⟨c,p.1,rs,p.2,hs⟩
   ·exact car_all es h e he
theorem mst_joinsU{s t second all:ByteArray}{og own:List ByteArray}{a b:List Rec}{fs:List En}{o:ByteArray}(ho:foldL o=cOrigin)(hog:goodW (o,false)=true)(ha:mstF s og=.ok a)(hown:nck own=0)(ht:entsF t.data.toList=.ok fs)(hf:∀e∈fs,fullU e=true)(hs:second.data.toList=enTxt (orgE o own)++t.data.toList)(hb:mstF second og=.ok b)(hall:all.data.toList=endl s.data.toList++second.data.toList)(hl:all.size<=65536)(hn:a.length+b.length<=2048):mstF all og=.ok (a++b):=by
 refine mst_joins ho hog ha hown ht (fun e he=>?_) hs hb hall hl hn
 obtain ⟨h1,gs,h4,h5⟩:=mst_ok hb
 have hok:=org_ok hog hown
 have hl1:(endl s.data.toList++(enTxt (orgE o own)++t.data.toList)).length<=65536:=by
  rw[<- hs,<- hall];simpa using hl
 obtain ⟨k0,h6⟩:=ents_cons1 hok ht (by rw[List.length_append] at hl1;omega)
 rw[hs,h6] at h4
 cases h4
 obtain ⟨c2,h9⟩:=(car_ok _ _ _ _).1 h5
 obtain ⟨c1,c3,r1,r2,h10⟩:=car_all _ h9 (shE k0 e) (List.mem_cons_of_mem _ (List.mem_map.2 ⟨e,he,rfl⟩))
 exact fullU_E (hf e he) (show stpE e c1 r1=.ok (c3,r2) from h10)
theorem d_own:ownKnob Tryz.prog.godebug=none:=by kernel_rfl
theorem tPow:(Tryz.prog.globals[8]?).map (·.type)=some 264:=by kernel_rfl
theorem tLen:(Tryz.prog.globals[1]?).map (·.type)=some 134:=by kernel_rfl
theorem tSp:(Tryz.prog.globals[7]?).map (·.type)=some 174:=by kernel_rfl
theorem tSyn:(Tryz.prog.globals[5]?).map (·.type)=some 68:=by kernel_rfl
theorem tRng:(Tryz.prog.globals[6]?).map (·.type)=some 68:=by kernel_rfl
theorem c5:Tryz.prog.cellsOf 5=1:=by kernel_rfl
theorem c174:Tryz.prog.cellsOf 174=256:=by kernel_rfl
theorem c130:Tryz.prog.cellsOf 130=1:=by kernel_rfl
theorem c264:Tryz.prog.cellsOf 264=20:=by kernel_rfl
theorem c134:Tryz.prog.cellsOf 134=5:=by kernel_rfl
theorem c229:Tryz.prog.cellsOf 229=1:=by kernel_rfl
theorem c9:Tryz.prog.cellsOf 9=1:=by kernel_rfl
theorem d_star : "*" ++ "errors.errorString" = "*errors.errorString" := by decide
theorem row227 (u : TypeId) (h : Tryz.prog.typeName? 3 u = some "*errors.errorString") : u = 227 :=
  typeName_ptr_named (nm := "errors.errorString") (by rw [d_star]; kernel_rfl) (by kernel_rfl) (by decide) u (by rw [d_star]; exact h)
theorem powD:(Rows.laid_internal_strconv_uint64pow10:DataW Unit)=Lib.tabData .u64 Lib.pow10Tab:=by kernel_rfl
theorem lenD:(Rows.laid_nomenclator_master_lengths:DataW Unit)=Lib.tabData .u64 lenTab:=by kernel_rfl
theorem spD:(Rows.laid_strings_asciiSpace:DataW Unit)=Lib.tabData .u8 Lib.asciiSpaceTab:=by kernel_rfl
theorem met_pow {r : List (String × DataW Unit)} {W : World} (h : laidMet Tryz.prog (("internal/strconv.uint64pow10", Rows.laid_internal_strconv_uint64pow10) :: r) W) : Lib.TabIs Tryz.prog W "internal/strconv.uint64pow10" .u64 Lib.pow10Tab := by
  rw [powD] at h
  exact Lib.tabIs_of_head gPow tPow Tryz.underlying264 Tryz.underlying130 c130 c264 h
theorem met_len {r : List (String × DataW Unit)} {W : World} (h : laidMet Tryz.prog (("nomenclator/master.lengths", Rows.laid_nomenclator_master_lengths) :: r) W) : Lib.TabIs Tryz.prog W "nomenclator/master.lengths" .u64 lenTab := by
  rw [lenD] at h
  exact Lib.tabIs_of_head gLen tLen Tryz.underlying134 Tryz.underlying130 c130 c134 h
theorem met_sp {r : List (String × DataW Unit)} {W : World} (h : laidMet Tryz.prog (("strings.asciiSpace", Rows.laid_strings_asciiSpace) :: r) W) : Lib.TabIs Tryz.prog W "strings.asciiSpace" .u8 Lib.asciiSpaceTab := by
  rw [spD] at h
  exact Lib.tabIs_of_head gSp tSp Tryz.underlying174 Tryz.underlying5 c5 c174 h
theorem met_rng {r : List (String × DataW Unit)} {W : World} (h : laidMet Tryz.prog (("strconv.ErrRange", Rows.laid_strconv_ErrRange) :: r) W) : ∃ tp p, W.var? Tryz.prog "strconv.ErrRange" = some #[.iface tp p] := by
  obtain ⟨a, s, hv, -, -, -⟩ := laid_sentinel h gRng tRng Tryz.underlying68 row227 Tryz.underlying227 Tryz.underlying229 rfl rfl Tryz.underlying9 c229 c9
  exact ⟨_, _, hv⟩
theorem met_syn {r : List (String × DataW Unit)} {W : World} (h : laidMet Tryz.prog (("strconv.ErrSyntax", Rows.laid_strconv_ErrSyntax) :: r) W) : ∃ tp p, W.var? Tryz.prog "strconv.ErrSyntax" = some #[.iface tp p] := by
  obtain ⟨a, s, hv, -, -, -⟩ := laid_sentinel h gSyn tSyn Tryz.underlying68 row227 Tryz.underlying227 Tryz.underlying229 rfl rfl Tryz.underlying9 c229 c9
  exact ⟨_, _, hv⟩
theorem met_max{W:World}(h:W.ShapedOpen Tryz.prog):0<W.heap.size/\∃m,W.cell? ⟨0,0,none⟩=some (.int .i64 m):=by
 have h0:((begin Tryz.prog (fun _ _=>0) default).world.heap[0]?).bind Obj.row?=some (#[.int .i64 0],3):=by kernel_rfl
 have hb:Tryz.prog.buildable 3=true:=by kernel_rfl
 have hc:Tryz.prog.cellTypes Tryz.prog.depth 3=some [3]:=by kernel_rfl
 have hg:0<Tryz.prog.globals.size:=of_decide_eq_true (by kernel_rfl)
 obtain ⟨cs,hh,hs,hr⟩:=h.1 0 #[.int .i64 0] 3 hg h0
 refine ⟨(Array.getElem?_eq_some_iff.1 hh).1,?_⟩
 obtain ⟨ts,hts,hlen,hall⟩:=hr hb
 rw[hc] at hts
 cases hts
 have h1:0<cs.size:=by rw[hs];decide
 obtain ⟨u,hu',hok⟩:=hall 0 cs[0] (by simp[h1])
 have hu:u=3:=(Option.some.inj hu').symm
 have hcell:W.cell? ⟨0,0,none⟩=some cs[0]:=by simp[World.cell?,hh,h1]
 rw[hcell]
 unfold Cell.ok at hok
 rw[hu,Tryz.underlying3] at hok
 cases hv:cs[0] <;> rw[hv] at hok <;> first|simp at hok;done|skip
 all_goals (simp at hok;obtain ⟨rfl,_⟩:=hok;exact ⟨_,rfl⟩)
abbrev laid11 : List (String × DataW Unit) := [("math/bits.deBruijn32tab", Rows.laid_math_bits_deBruijn32tab), ("math/bits.deBruijn64tab", Rows.laid_math_bits_deBruijn64tab), ("internal/strconv.uint64pow10", Rows.laid_internal_strconv_uint64pow10), ("unicode/utf8.acceptRanges", Rows.laid_unicode_utf8_acceptRanges), ("strconv.ErrRange", Rows.laid_strconv_ErrRange), ("strconv.ErrSyntax", Rows.laid_strconv_ErrSyntax), ("unicode.White_Space", Rows.laid_unicode_White_Space), ("strings.asciiSpace", Rows.laid_strings_asciiSpace), ("nomenclator/master.lengths", Rows.laid_nomenclator_master_lengths), ("unicode.CaseRanges", Rows.laid_unicode_CaseRanges), ("unicode/utf8.first", Rows.laid_unicode_utf8_first)]
theorem plain11:(laid11.all fun x=>x.2.handleName?.isNone)=true:=by kernel_rfl
theorem lay11{W:World}(h:laidMetH Tryz.prog laid11 W)(hs:W.ShapedOpen Tryz.prog):LayT W/\LayE W:=by
 rw[MakeChecks.laidMetH_plain _ _ _ plain11] at h
 exact ⟨⟨met_pow h.tail.tail,met_sp h.tail.tail.tail.tail.tail.tail.tail,met_len h.tail.tail.tail.tail.tail.tail.tail.tail⟩,met_syn h.tail.tail.tail.tail.tail,met_rng h.tail.tail.tail.tail,met_max hs⟩
theorem all_met11(os:Os)(args:Array Value):laidMetH Tryz.prog laid11 ((World.laidAll Tryz.prog os laid11).forCall (fun _ _=>0) ⟨#[],args,[]⟩).memory:=by
 rw[MakeChecks.laidMetH_plain _ _ _ plain11]
 exact laidMet_laidAll args (by kernel_rfl) (by kernel_rfl)
end Go.Proofs.YtjkljpdolhglcaaGreatDoor
