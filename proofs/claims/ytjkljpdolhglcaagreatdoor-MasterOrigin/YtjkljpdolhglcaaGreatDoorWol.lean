/- Texts laid together, in parts: Mp Mq Mr Vw Jk Jz Ja Jb Jd Jc Nab Nac Nad. -/
import Derived.Test.YtjkljpdolhglcaaGreatDoorWok
import Derived.Deep.RegionHeld3
import Derived.Lib.Hide
set_option maxRecDepth 100000
set_option maxHeartbeats 8000000
set_option linter.unusedVariables false
set_option linter.unusedSimpArgs false
namespace Go.Proofs.YtjkljpdolhglcaaGreatDoor
open Go.ChangeShapes Go.WideShapes Go.ChangeAt Go.RowKit
theorem nck_nsz6{l:List ByteArray}(h:nck l=0):nsz l<=1000000000000:=by
 unfold nck at h
 split at h
 ·split at h
  ·cases h
  ·omega
 ·cases h
theorem cmd_keep{k:Nat}{ws:List Wd}{c c':Cy}(h:cmdE k ws c=.ok c')(hk:nck c.og=0):c'.ow=c.ow/\nck c'.og=0:=by
 unfold cmdE at h
 split at h
 ·split at h
  ·split at h
   ·injection h with h;subst h;exact ⟨rfl,nrel_ok6 _ _⟩
   ·cases h
  ·split at h
   ·injection h with h;subst h;exact ⟨rfl,hk⟩
   ·cases h
 ·cases h
theorem own_nck(e:En)(c:Cy)(h:nck c.ow=0):nck (ownF e c).1=0:=by
 unfold ownF
 split
 ·split
  ·exact h
  ·exact nck_nil6
 ·split
  ·exact nrel_ok6 _ _
  ·exact nck_nil6
theorem tm_og{y:Say}{d:Dat}{c c':Cy}{n:Nat}(h:tmF y d c=some (n,c')):c'.og=c.og:=by
 unfold tmF at h
 split at h
 ·injection h with h;injection h with h1 h2;rw[<- h2]
 split at h
 ·injection h with h;injection h with h1 h2;rw[<- h2]
 split at h
 ·injection h with h;injection h with h1 h2;rw[<- h2]
 split at h
 ·injection h with h;injection h with h1 h2;rw[<- h2]
 ·cases h
theorem ent_keep{e:En}{c c':Cy}{r:Rec}(h:entF e c=.ok (r,c'))(hk:nck c.ow=0):c'.og=c.og/\c'.ow=r.ow/\nck r.ow=0:=by
 unfold entF at h
 split at h
 ·cases h
 split at h
 ·cases h
 split at h
 ·cases h
 split at h
 ·cases h
 split at h
 ·cases h
 ·rename_i n c1 ht
  injection h with h
  injection h with h1 h2
  rw[<- h1,<- h2]
  have ho:=tm_og ht
  exact ⟨ho,rfl,own_nck e c hk⟩
theorem cmd_word(e:En):cmdN (foldL (opnF e))=cmdF e:=rfl
theorem cmd_cons{e:En}(h:cmdF e≠0):∃p r,e.ws=p::r:=by
 obtain ⟨ln,bl,ws⟩:=e
 cases ws with
 |cons p r=>exact ⟨p,r,rfl⟩
 |nil=>
  exfalso
  apply h
  cases bl <;> rfl
theorem stp_put{e:En}{c:Cy}{rs:List Rec}(h:cmdF e=0):stpE e c rs=putF (entF e c) rs:=by
 unfold stpE putF
 rw[if_pos h]
 cases entF e c with
 |error er=>rfl
 |ok p=>obtain ⟨r,c'⟩:=p;rfl
theorem stp_cmd{e:En}{c:Cy}{rs:List Rec}(h:cmdF e≠0):stpE e c rs=match cmdE (cmdF e) e.ws.tail c with
  | .error er=>.error er
  | .ok c'=>.ok (c',rs):=by
 unfold stpE
 rw[if_neg h]
 cases cmdE (cmdF e) e.ws.tail c <;> rfl
theorem all_cons(e:En)(es:List En)(c:Cy)(rs:List Rec):allF (e::es) c rs=match stpE e c rs with
  | .error er=>.er er e.line
  | .ok (c',rs')=>allF es c' rs':=rfl
theorem ownsMap_blk{w w':World}{m n:Nat}{D:DataW Unit}(h:w.ownsMap Tryz.prog 9 fnR m n D)(hb:w'.heap[m]?=w.heap[m]?):w'.ownsMap Tryz.prog 9 fnR m n D:=by
 obtain ⟨es,clock,h1,h2⟩:=h
 exact ⟨es,clock,hb.trans h1,h2⟩
theorem OwR.keep2{B:Nat}{w w':World}{v:Value}{rs:List Rec}(h:OwR B w v rs)(hs:w.heap.size<=w'.heap.size)(ho:w'.os=w.os/\w'.tape=w.tape/\w'.output=w.output)(hb:∀j,B<=j->j<w.heap.size->w'.heap[j]?=w.heap[j]?)(g:Nat)(hg:g<B)(hb2:∀j,j<w.heap.size->j≠g->w'.heap[j]?=w.heap[j]?):OwR B w' v rs:=by
 obtain ⟨ps,h1,h2,h3⟩:=h
 have hlt:=h2.lt
 refine ⟨ps,h1,h2.kept (row:=some g) ⟨ho.1,ho.2.1,ho.2.2,hs,fun j hj hne=>hb2 j hj (fun e=>hne (by rw[e]))⟩ ?_,fun p hp=>(h3 p hp).go hs (fun j e1 e2 _=>hb j e2 e1) (fun j _ h=>h)⟩
 cases hv:v.ownBlock with
 |none=>exact .inl rfl
 |some j=>exact .inr (by intro e;injection e with e;have:=(hlt j hv).1;omega)
theorem OwR.own{B:Nat}{w:World}{v:Value}{rs:List Rec}(h:OwR B w v rs):∀j,v.ownBlock=some j->B<=j/\j<w.heap.size:=by
 obtain ⟨ps,h1,h2,h3⟩:=h
 exact h2.lt
structure LpS(w wr:World)(m:Nat)(v:Value)(rs:List Rec)(a:CA)(c:Cy):Prop where
 cy:CyB wr w.heap.size a c
 ft:wr.heap[w.heap.size+1]?=some (.cells #[.int .i64 0,.int .i64 0] 28 (0,0))
 mp:wr.ownsMap Tryz.prog 9 fnR m 2 cmdD
 mne:v.ownBlock≠some m
 mge:w.heap.size+2<=m
 rr:OwR (w.heap.size+2) wr v rs
 cr:∀W',wr.heap.size<=W'.heap.size->(∀j,j<wr.heap.size->some j≠v.ownBlock->(j<w.heap.size∨w.heap.size+2<=j)->W'.heap[j]?=wr.heap[j]?)->CRd W' a c
 bel:Below w.heap.size w wr
 kw:nck c.ow=0
theorem LpS.rd{w wr:World}{m:Nat}{v:Value}{rs:List Rec}{a:CA}{c:Cy}(h:LpS w wr m v rs a c):CRd wr a c:=h.cr wr (Nat.le_refl _) fun _ _ _ _=>rfl
theorem LpS.below{w wr W:World}{m:Nat}{v:Value}{rs:List Rec}{a:CA}{c:Cy}(h:LpS w wr m v rs a c)(hb:Below wr.heap.size wr W):LpS w W m v rs a c:=
 ⟨h.cy.below hb,(hb.block _ (Array.getElem?_eq_some_iff.1 h.ft).1).trans h.ft,ownsMap_blk h.mp (hb.block _ h.mp.lt),h.mne,h.mge,h.rr.stays hb,fun W' h1 h2=>h.cr W' (Nat.le_trans hb.size h1) (fun j e1 e2 e3=>(h2 j (Nat.lt_of_lt_of_le e1 hb.size) e2 e3).trans (hb.block j e1)),h.bel.trans (hb.mono h.bel.size),h.kw⟩
theorem lp_cmd{w wr W2:World}{m B1:Nat}{v:Value}{rs:List Rec}{a:CA}{c:Cy}{a':CA}{c':Cy}(h:LpS w wr m v rs a c)(hb:Below wr.heap.size wr W2)(ho:a'.o=a.o)(hg:(a'.g=a.g/\c'.og=c.og)∨Own1 B1 W2 a'.g c'.og)(hB:wr.heap.size<=B1)(hw:c'.ow=c.ow)(hk:nck c'.og=0):LpS w (((((((((W2.setCell ⟨w.heap.size,0,none⟩ (.slice a'.g.a a'.g.n a'.g.c)).setCell ⟨w.heap.size,1,none⟩ (.slice a'.o.a a'.o.n a'.o.c)).setCell ⟨w.heap.size,2,none⟩ (.int .u16 (c'.cl:Int))).setCell ⟨w.heap.size,3,none⟩ (.int .u32 (c'.df:Int))).setCell ⟨w.heap.size,4,none⟩ (.int .u32 (c'.tt:Int))).setCell ⟨w.heap.size,5,none⟩ (.bool c'.ho)).setCell ⟨w.heap.size,6,none⟩ (.bool c'.hc)).setCell ⟨w.heap.size,7,none⟩ (.bool c'.ht)).setCell ⟨w.heap.size,8,none⟩ (.bool c'.sd)) m v rs a' c':=by
 have h2:=h.below hb
 have hown:=h.rr.own
 have h1:CyB (((((((((W2.setCell ⟨w.heap.size,0,none⟩ (.slice a'.g.a a'.g.n a'.g.c)).setCell ⟨w.heap.size,1,none⟩ (.slice a'.o.a a'.o.n a'.o.c)).setCell ⟨w.heap.size,2,none⟩ (.int .u16 (c'.cl:Int))).setCell ⟨w.heap.size,3,none⟩ (.int .u32 (c'.df:Int))).setCell ⟨w.heap.size,4,none⟩ (.int .u32 (c'.tt:Int))).setCell ⟨w.heap.size,5,none⟩ (.bool c'.ho)).setCell ⟨w.heap.size,6,none⟩ (.bool c'.hc)).setCell ⟨w.heap.size,7,none⟩ (.bool c'.ht)).setCell ⟨w.heap.size,8,none⟩ (.bool c'.sd)) w.heap.size a' c':=h2.cy.all a' c'
 have hh:∀j,j≠w.heap.size->((((((((((W2.setCell ⟨w.heap.size,0,none⟩ (.slice a'.g.a a'.g.n a'.g.c)).setCell ⟨w.heap.size,1,none⟩ (.slice a'.o.a a'.o.n a'.o.c)).setCell ⟨w.heap.size,2,none⟩ (.int .u16 (c'.cl:Int))).setCell ⟨w.heap.size,3,none⟩ (.int .u32 (c'.df:Int))).setCell ⟨w.heap.size,4,none⟩ (.int .u32 (c'.tt:Int))).setCell ⟨w.heap.size,5,none⟩ (.bool c'.ho)).setCell ⟨w.heap.size,6,none⟩ (.bool c'.hc)).setCell ⟨w.heap.size,7,none⟩ (.bool c'.ht)).setCell ⟨w.heap.size,8,none⟩ (.bool c'.sd))).heap[j]?=W2.heap[j]?:=fun j hj=>nine_heap W2 w.heap.size _ _ _ _ _ _ _ _ _ j hj
 have hz:((((((((((W2.setCell ⟨w.heap.size,0,none⟩ (.slice a'.g.a a'.g.n a'.g.c)).setCell ⟨w.heap.size,1,none⟩ (.slice a'.o.a a'.o.n a'.o.c)).setCell ⟨w.heap.size,2,none⟩ (.int .u16 (c'.cl:Int))).setCell ⟨w.heap.size,3,none⟩ (.int .u32 (c'.df:Int))).setCell ⟨w.heap.size,4,none⟩ (.int .u32 (c'.tt:Int))).setCell ⟨w.heap.size,5,none⟩ (.bool c'.ho)).setCell ⟨w.heap.size,6,none⟩ (.bool c'.hc)).setCell ⟨w.heap.size,7,none⟩ (.bool c'.ht)).setCell ⟨w.heap.size,8,none⟩ (.bool c'.sd))).heap.size=W2.heap.size:=nine_size _ _ _ _ _ _ _ _ _ _ _
 have hbn:=below_nine (Below.refl 0 W2) (b:=w.heap.size) (Nat.zero_le _) (.slice a'.g.a a'.g.n a'.g.c) (.slice a'.o.a a'.o.n a'.o.c) (.int .u16 (c'.cl:Int)) (.int .u32 (c'.df:Int)) (.int .u32 (c'.tt:Int)) (.bool c'.ho) (.bool c'.hc) (.bool c'.ht) (.bool c'.sd)
 have h3:=below_nine h2.bel (b:=w.heap.size) (Nat.le_refl _) (.slice a'.g.a a'.g.n a'.g.c) (.slice a'.o.a a'.o.n a'.o.c) (.int .u16 (c'.cl:Int)) (.int .u32 (c'.df:Int)) (.int .u32 (c'.tt:Int)) (.bool c'.ho) (.bool c'.hc) (.bool c'.ht) (.bool c'.sd)
 generalize (((((((((W2.setCell ⟨w.heap.size,0,none⟩ (.slice a'.g.a a'.g.n a'.g.c)).setCell ⟨w.heap.size,1,none⟩ (.slice a'.o.a a'.o.n a'.o.c)).setCell ⟨w.heap.size,2,none⟩ (.int .u16 (c'.cl:Int))).setCell ⟨w.heap.size,3,none⟩ (.int .u32 (c'.df:Int))).setCell ⟨w.heap.size,4,none⟩ (.int .u32 (c'.tt:Int))).setCell ⟨w.heap.size,5,none⟩ (.bool c'.ho)).setCell ⟨w.heap.size,6,none⟩ (.bool c'.hc)).setCell ⟨w.heap.size,7,none⟩ (.bool c'.ht)).setCell ⟨w.heap.size,8,none⟩ (.bool c'.sd))=V at*
 have hmlt:=h2.mp.lt
 have hws:=h2.bel.size
 have hmge:=h.mge
 refine ⟨h1,(hh _ (by omega)).trans h2.ft,ownsMap_blk h2.mp (hh m (by omega)),h.mne,h.mge,h2.rr.keep2 (by omega) ⟨hbn.os,hbn.tape,hbn.output⟩ (fun j e1 e2=>hh j (by omega)) w.heap.size (by omega) (fun j e1 e2=>hh j e2),fun W' e1 e2=>?_,h3,by rw[hw];exact h.kw⟩
 have hW:∀j,j<W2.heap.size->some j≠v.ownBlock->(j<w.heap.size∨w.heap.size+2<=j)->W'.heap[j]?=W2.heap[j]?:=fun j q1 q2 q3=>(e2 j (by omega) q2 q3).trans (hh j (by omega))
 have hold:=h2.cr W' (by omega) hW
 refine ⟨?_,by rw[ho,hw];exact hold.o,hk⟩
 rcases hg with ⟨g1,g2⟩|g1
 ·rw[g1,g2];exact hold.g
 ·have hwr:=h.bel.size
  have hmwr:=h.mp.lt
  have:=(g1.keep (w':=W') (fun j q1 q2 _=>hW j q2 (fun e=>by have:=(hown j e.symm).2;omega) (.inr (by omega)))).rd
  exact ⟨this.rd,this.len,nck_nsz6 hk⟩
theorem lp_put{w wr W1 W2:World}{m:Nat}{v v':Value}{rs:List Rec}{a:CA}{c:Cy}{a':CA}{c':Cy}{rc:Rec}{x:RA}(h:LpS w wr m v rs a c)(hb:Below wr.heap.size wr W1)(hgr:W1.grownBy W2 v.ownBlock)(hr:OwR (w.heap.size+2) W2 v' (rs++[rc]))(hg:a'.g=a.g)(ho:a'.o=x.o)(hx:RfR (w.heap.size+2) W2 v'.ownBlock x rc)(hv:v'.ownBlock=v.ownBlock∨∃H,v'.ownBlock=some H/\W1.heap.size<=H)(hog:c'.og=c.og)(how:c'.ow=rc.ow)(hk:nck rc.ow=0):LpS w (((((((((W2.setCell ⟨w.heap.size,0,none⟩ (.slice a'.g.a a'.g.n a'.g.c)).setCell ⟨w.heap.size,1,none⟩ (.slice a'.o.a a'.o.n a'.o.c)).setCell ⟨w.heap.size,2,none⟩ (.int .u16 (c'.cl:Int))).setCell ⟨w.heap.size,3,none⟩ (.int .u32 (c'.df:Int))).setCell ⟨w.heap.size,4,none⟩ (.int .u32 (c'.tt:Int))).setCell ⟨w.heap.size,5,none⟩ (.bool c'.ho)).setCell ⟨w.heap.size,6,none⟩ (.bool c'.hc)).setCell ⟨w.heap.size,7,none⟩ (.bool c'.ht)).setCell ⟨w.heap.size,8,none⟩ (.bool c'.sd)) m v' (rs++[rc]) a' c':=by
 have h2:=h.below hb
 have hown:=h2.rr.own
 have hc2:CyB W2 w.heap.size a c:=(hgr.block _ h2.cy.lt (fun e=>by have:=(hown _ e.symm).1;omega)).trans h2.cy
 have h1:CyB (((((((((W2.setCell ⟨w.heap.size,0,none⟩ (.slice a'.g.a a'.g.n a'.g.c)).setCell ⟨w.heap.size,1,none⟩ (.slice a'.o.a a'.o.n a'.o.c)).setCell ⟨w.heap.size,2,none⟩ (.int .u16 (c'.cl:Int))).setCell ⟨w.heap.size,3,none⟩ (.int .u32 (c'.df:Int))).setCell ⟨w.heap.size,4,none⟩ (.int .u32 (c'.tt:Int))).setCell ⟨w.heap.size,5,none⟩ (.bool c'.ho)).setCell ⟨w.heap.size,6,none⟩ (.bool c'.hc)).setCell ⟨w.heap.size,7,none⟩ (.bool c'.ht)).setCell ⟨w.heap.size,8,none⟩ (.bool c'.sd)) w.heap.size a' c':=hc2.all a' c'
 have hh:∀j,j≠w.heap.size->((((((((((W2.setCell ⟨w.heap.size,0,none⟩ (.slice a'.g.a a'.g.n a'.g.c)).setCell ⟨w.heap.size,1,none⟩ (.slice a'.o.a a'.o.n a'.o.c)).setCell ⟨w.heap.size,2,none⟩ (.int .u16 (c'.cl:Int))).setCell ⟨w.heap.size,3,none⟩ (.int .u32 (c'.df:Int))).setCell ⟨w.heap.size,4,none⟩ (.int .u32 (c'.tt:Int))).setCell ⟨w.heap.size,5,none⟩ (.bool c'.ho)).setCell ⟨w.heap.size,6,none⟩ (.bool c'.hc)).setCell ⟨w.heap.size,7,none⟩ (.bool c'.ht)).setCell ⟨w.heap.size,8,none⟩ (.bool c'.sd))).heap[j]?=W2.heap[j]?:=fun j hj=>nine_heap W2 w.heap.size _ _ _ _ _ _ _ _ _ j hj
 have hz:((((((((((W2.setCell ⟨w.heap.size,0,none⟩ (.slice a'.g.a a'.g.n a'.g.c)).setCell ⟨w.heap.size,1,none⟩ (.slice a'.o.a a'.o.n a'.o.c)).setCell ⟨w.heap.size,2,none⟩ (.int .u16 (c'.cl:Int))).setCell ⟨w.heap.size,3,none⟩ (.int .u32 (c'.df:Int))).setCell ⟨w.heap.size,4,none⟩ (.int .u32 (c'.tt:Int))).setCell ⟨w.heap.size,5,none⟩ (.bool c'.ho)).setCell ⟨w.heap.size,6,none⟩ (.bool c'.hc)).setCell ⟨w.heap.size,7,none⟩ (.bool c'.ht)).setCell ⟨w.heap.size,8,none⟩ (.bool c'.sd))).heap.size=W2.heap.size:=nine_size _ _ _ _ _ _ _ _ _ _ _
 have hbn:=below_nine (Below.refl 0 W2) (b:=w.heap.size) (Nat.zero_le _) (.slice a'.g.a a'.g.n a'.g.c) (.slice a'.o.a a'.o.n a'.o.c) (.int .u16 (c'.cl:Int)) (.int .u32 (c'.df:Int)) (.int .u32 (c'.tt:Int)) (.bool c'.ho) (.bool c'.hc) (.bool c'.ht) (.bool c'.sd)
 have hbel2:Below w.heap.size w W2:=⟨hgr.os.trans h2.bel.os,hgr.tape.trans h2.bel.tape,hgr.output.trans h2.bel.output,Nat.le_trans h2.bel.size hgr.size,fun j hj=>(hgr.block j (Nat.lt_of_lt_of_le hj h2.bel.size) (fun e=>by have:=(hown _ e.symm).1;omega)).trans (h2.bel.block j hj)⟩
 have h3:=below_nine hbel2 (b:=w.heap.size) (Nat.le_refl _) (.slice a'.g.a a'.g.n a'.g.c) (.slice a'.o.a a'.o.n a'.o.c) (.int .u16 (c'.cl:Int)) (.int .u32 (c'.df:Int)) (.int .u32 (c'.tt:Int)) (.bool c'.ho) (.bool c'.hc) (.bool c'.ht) (.bool c'.sd)
 generalize (((((((((W2.setCell ⟨w.heap.size,0,none⟩ (.slice a'.g.a a'.g.n a'.g.c)).setCell ⟨w.heap.size,1,none⟩ (.slice a'.o.a a'.o.n a'.o.c)).setCell ⟨w.heap.size,2,none⟩ (.int .u16 (c'.cl:Int))).setCell ⟨w.heap.size,3,none⟩ (.int .u32 (c'.df:Int))).setCell ⟨w.heap.size,4,none⟩ (.int .u32 (c'.tt:Int))).setCell ⟨w.heap.size,5,none⟩ (.bool c'.ho)).setCell ⟨w.heap.size,6,none⟩ (.bool c'.hc)).setCell ⟨w.heap.size,7,none⟩ (.bool c'.ht)).setCell ⟨w.heap.size,8,none⟩ (.bool c'.sd))=V at*
 have hmlt:=h2.mp.lt
 have hws:=h2.bel.size
 have hmge:=h.mge
 have hgs:=hgr.size
 have hft:=(Array.getElem?_eq_some_iff.1 h2.ft).1
 refine ⟨h1,(hh _ (by omega)).trans ((hgr.block _ hft (fun e=>by have:=(hown _ e.symm).1;omega)).trans h2.ft),ownsMap_blk h2.mp ((hh m (by omega)).trans (hgr.block m hmlt (fun e=>h.mne e.symm))),?_,h.mge,hr.keep2 (by omega) ⟨hbn.os,hbn.tape,hbn.output⟩ (fun j e1 e2=>hh j (by omega)) w.heap.size (by omega) (fun j e1 e2=>hh j e2),fun W' e1 e2=>?_,h3,by rw[how];exact hk⟩
 ·rcases hv with hv|⟨H,hv,hH⟩
  ·rw[hv];exact h.mne
  ·rw[hv];intro e;injection e with e;omega
 ·have hW:∀j,j<W2.heap.size->some j≠v'.ownBlock->(j<w.heap.size∨w.heap.size+2<=j)->W'.heap[j]?=W2.heap[j]?:=fun j q1 q2 q3=>(e2 j (by omega) q2 q3).trans (hh j (by omega))
  have hold:=h2.cr W' (by omega) (fun j q1 q2 q3=>(hW j (by omega) (by
   rcases hv with hv|⟨H,hv,hH⟩
   ·rw[hv];exact q2
   ·rw[hv];intro e;injection e with e;omega) q3).trans (hgr.block j q1 q2))
  have hnew:=(hx W' (by omega) (fun j q1 q2 q3=>hW j q1 q3 (.inr q2))).1
  refine ⟨by rw[hg,hog];exact hold.g,?_,by rw[hog];exact hold.k⟩
  rw[ho,how]
  exact ⟨hnew.rd,hnew.len,nck_nsz6 hk⟩
theorem Nm.blocks{w w':World}{a:Option Addr}{n:Nat}{ss:List ByteArray}(h:Nm w a n ss)(hs:w.heap.size<=w'.heap.size)(hb:∀j,j<w.heap.size->w'.heap[j]?=w.heap[j]?):Nm w' a n ss:=by
 refine ⟨?_,h.len,h.sz⟩
 have hr:RdV w a (tv ss):=h.rd
 show RdV w' a (tv ss)
 rcases hr with h1|⟨b,o,rfl,hlt,h2⟩
 ·exact .inl h1
 ·exact RdV.of_blocks (.inr ⟨b,o,rfl,hlt,h2⟩) hs (fun b' o' e=>by cases e;exact hb b hlt)
theorem rdw_z{w:World}{a:Option Addr}{ws:List Wd}(h:RdWZ w a ws):RdW w a ws:=by
 rcases h with h|⟨b,o,h1,h2,h3⟩
 ·exact .inl h
 ·exact .inr ⟨b,o,h1,h2,fun i hi=>by rw[Nat.mul_comm];exact h3 i hi⟩
theorem ws_z{w:World}{x:Sl}{ws:List Wd}(h:WRd w x ws)(hb:WB ws):Ws w x ws:=⟨h.1,h.2.1,h.2.2.1,rdw_z h.2.2.2,hb⟩
theorem OwR.nil(B:Nat)(w:World):OwR B w (.slice none 0 0) []:=⟨[],rfl,⟨rfl,.inl ⟨rfl,rfl⟩⟩,by simp⟩
theorem lp_new{w Wm:World}{m:Nat}{a:CA}{c:Cy}(hc:CRd w a c)(hk:nck c.ow=0)(h1:((w.alloc (.cells #[.slice a.g.a a.g.n a.g.c,.slice a.o.a a.o.n a.o.c,.int .u16 (c.cl:Int),.int .u32 (c.df:Int),.int .u32 (c.tt:Int),.bool c.ho,.bool c.hc,.bool c.ht,.bool c.sd] 63)).alloc (.cells #[.int .i64 0,.int .i64 0] 28)).heap.size<=m)(h2:Wm.ownsMap Tryz.prog 9 fnR m 2 cmdD)(h3:Below ((w.alloc (.cells #[.slice a.g.a a.g.n a.g.c,.slice a.o.a a.o.n a.o.c,.int .u16 (c.cl:Int),.int .u32 (c.df:Int),.int .u32 (c.tt:Int),.bool c.ho,.bool c.hc,.bool c.ht,.bool c.sd] 63)).alloc (.cells #[.int .i64 0,.int .i64 0] 28)).heap.size ((w.alloc (.cells #[.slice a.g.a a.g.n a.g.c,.slice a.o.a a.o.n a.o.c,.int .u16 (c.cl:Int),.int .u32 (c.df:Int),.int .u32 (c.tt:Int),.bool c.ho,.bool c.hc,.bool c.ht,.bool c.sd] 63)).alloc (.cells #[.int .i64 0,.int .i64 0] 28)) Wm):LpS w Wm m (.slice none 0 0) [] a c:=by
 have l1:=new_below w (.cells #[.slice a.g.a a.g.n a.g.c,.slice a.o.a a.o.n a.o.c,.int .u16 (c.cl:Int),.int .u32 (c.df:Int),.int .u32 (c.tt:Int),.bool c.ho,.bool c.hc,.bool c.ht,.bool c.sd] 63)
 have q1:CyB (w.alloc (.cells #[.slice a.g.a a.g.n a.g.c,.slice a.o.a a.o.n a.o.c,.int .u16 (c.cl:Int),.int .u32 (c.df:Int),.int .u32 (c.tt:Int),.bool c.ho,.bool c.hc,.bool c.ht,.bool c.sd] 63)) w.heap.size a c:=CyB.new w a c
 generalize hw1:w.alloc (.cells #[.slice a.g.a a.g.n a.g.c,.slice a.o.a a.o.n a.o.c,.int .u16 (c.cl:Int),.int .u32 (c.df:Int),.int .u32 (c.tt:Int),.bool c.ho,.bool c.hc,.bool c.ht,.bool c.sd] 63)=w1 at*
 have n1:w1.heap.size=w.heap.size+1:=by rw[<- hw1];simp
 have l2:=new_below w1 (.cells #[.int .i64 0,.int .i64 0] 28)
 have q2:=heap_alloc_new w1 (.cells #[.int .i64 0,.int .i64 0] 28)
 generalize hw2:w1.alloc (.cells #[.int .i64 0,.int .i64 0] 28)=w2 at*
 have n2:w2.heap.size=w1.heap.size+1:=by rw[<- hw2];simp
 rw[n1] at q2
 have hbel:Below w.heap.size w Wm:=l1.trans ((l2.mono (by omega)).trans (h3.mono (by omega)))
 have hs:=h3.size
 refine ⟨(h3.block _ (by omega)).trans ((l2.block _ (by omega)).trans q1),(h3.block _ (by omega)).trans q2,h2,by simp[Value.ownBlock],by omega,OwR.nil _ _,fun W' e1 e2=>?_,hbel,hk⟩
 have hW:∀j,j<w.heap.size->W'.heap[j]?=w.heap[j]?:=fun j hj=>(e2 j (by omega) (by simp[Value.ownBlock]) (.inl hj)).trans (hbel.block j hj)
 exact ⟨hc.g.blocks (by omega) hW,hc.o.blocks (by omega) hW,hc.k⟩
theorem box_fz{w:World}{b:Nat}{cur:Array Value}{t:TypeId}(h:w.heap[b]?=some (.cells cur t (0,0)))(i:Nat):w.frozen? ⟨b,i,none⟩=false:=by
 have h2:=h
 simp[World.frozen?,h2]
theorem box_cell{w:World}{b:Nat}{cur:Array Value}{t:TypeId}{fr:Nat × Nat}(h:w.heap[b]?=some (.cells cur t fr))(i:Nat)(v:Value)(hv:cur[i]?=some v):w.cell? ⟨b,i,none⟩=some v:=by unfold World.cell?;rw[h];exact hv
theorem fin_cells{w V:World}{er ln e0 l0:Int}(hf:V.heap[w.heap.size+1]?=some (.cells #[.int .i64 e0,.int .i64 l0] 28 (0,0)))(hb:Below w.heap.size w V):((V.setCell ⟨w.heap.size+1,0,none⟩ (.int .i64 er)).setCell ⟨w.heap.size+1,1,none⟩ (.int .i64 ln)).drew.cell? ⟨w.heap.size+1,0,none⟩=some (.int .i64 er)/\((V.setCell ⟨w.heap.size+1,0,none⟩ (.int .i64 er)).setCell ⟨w.heap.size+1,1,none⟩ (.int .i64 ln)).drew.cell? ⟨w.heap.size+1,1,none⟩=some (.int .i64 ln)/\Below w.heap.size w ((V.setCell ⟨w.heap.size+1,0,none⟩ (.int .i64 er)).setCell ⟨w.heap.size+1,1,none⟩ (.int .i64 ln)).drew:=by
 have h1:=heap_set hf 0 (.int .i64 er)
 have h2:=heap_set h1 1 (.int .i64 ln)
 have h3:((V.setCell ⟨w.heap.size+1,0,none⟩ (.int .i64 er)).setCell ⟨w.heap.size+1,1,none⟩ (.int .i64 ln)).heap[w.heap.size+1]?=some (.cells #[.int .i64 er,.int .i64 ln] 28 (0,0)):=h2
 refine ⟨box_cell (show ((V.setCell ⟨w.heap.size+1,0,none⟩ (.int .i64 er)).setCell ⟨w.heap.size+1,1,none⟩ (.int .i64 ln)).drew.heap[w.heap.size+1]?=_ from h3) 0 _ rfl,box_cell (show ((V.setCell ⟨w.heap.size+1,0,none⟩ (.int .i64 er)).setCell ⟨w.heap.size+1,1,none⟩ (.int .i64 ln)).drew.heap[w.heap.size+1]?=_ from h3) 1 _ rfl,?_⟩
 exact ((hb.setCell (p:=⟨w.heap.size+1,0,none⟩) (Nat.le_succ _) _).setCell (p:=⟨w.heap.size+1,1,none⟩) (Nat.le_succ _) _).drew
theorem fin_end{w V:World}{e0 l0:Int}{v:Value}{rs:List Rec}(hf:V.heap[w.heap.size+1]?=some (.cells #[.int .i64 e0,.int .i64 l0] 28 (0,0)))(hb:Below w.heap.size w V)(hr:OwR (w.heap.size+2) V v rs):((V.setCell ⟨w.heap.size+1,0,none⟩ (.int .i64 0)).setCell ⟨w.heap.size+1,1,none⟩ (.int .i64 0)).cell? ⟨w.heap.size+1,0,none⟩=some (.int .i64 0)/\((V.setCell ⟨w.heap.size+1,0,none⟩ (.int .i64 0)).setCell ⟨w.heap.size+1,1,none⟩ (.int .i64 0)).cell? ⟨w.heap.size+1,1,none⟩=some (.int .i64 0)/\Below w.heap.size w ((V.setCell ⟨w.heap.size+1,0,none⟩ (.int .i64 0)).setCell ⟨w.heap.size+1,1,none⟩ (.int .i64 0))/\OwR w.heap.size ((V.setCell ⟨w.heap.size+1,0,none⟩ (.int .i64 0)).setCell ⟨w.heap.size+1,1,none⟩ (.int .i64 0)) v rs:=by
 have h1:=heap_set hf 0 (.int .i64 0)
 have h2:=heap_set h1 1 (.int .i64 0)
 have h3:((V.setCell ⟨w.heap.size+1,0,none⟩ (.int .i64 0)).setCell ⟨w.heap.size+1,1,none⟩ (.int .i64 0)).heap[w.heap.size+1]?=some (.cells #[.int .i64 0,.int .i64 0] 28 (0,0)):=h2
 have h4:=(hb.setCell (p:=⟨w.heap.size+1,0,none⟩) (Nat.le_succ _) (.int .i64 0)).setCell (p:=⟨w.heap.size+1,1,none⟩) (Nat.le_succ _) (.int .i64 0)
 have h0:=((Below.refl 0 V).setCell (p:=⟨w.heap.size+1,0,none⟩) (Nat.zero_le _) (.int .i64 0)).setCell (p:=⟨w.heap.size+1,1,none⟩) (Nat.zero_le _) (.int .i64 0)
 have hh:∀j,j≠w.heap.size+1->((V.setCell ⟨w.heap.size+1,0,none⟩ (.int .i64 0)).setCell ⟨w.heap.size+1,1,none⟩ (.int .i64 0)).heap[j]?=V.heap[j]?:=fun j hj=>(Below.heap_setCell _ _ _ j (by show j≠w.heap.size+1;exact hj)).trans (Below.heap_setCell _ _ _ j (by show j≠w.heap.size+1;exact hj))
 exact ⟨box_cell h3 0 _ rfl,box_cell h3 1 _ rfl,h4,(hr.keep2 h0.size ⟨h0.os,h0.tape,h0.output⟩ (fun j e1 e2=>hh j (by omega)) (w.heap.size+1) (by omega) (fun j e1 e2=>hh j e2)).mono (by omega)⟩
def AlP(r:Ra)(w:World)(e:Ending)(w':World):Prop:=
 ∃(s':Sl) (er ln:Int),e=.returned (.tuple #[.slice s'.a s'.n s'.c,.agg #[.int .i64 er,.int .i64 ln]])/\Hid (Below w.heap.size w w')/\Hid (match r with
  | .ok rs=>er=0/\ln=0/\OwR w.heap.size w' (.slice s'.a s'.n s'.c) rs/\rs.length<=2048
  | .er e1 l1=>er=e1/\ln=l1/\s'=⟨none,0,0⟩)
theorem cmd_three(e:En):cmdF e=0∨cmdF e=1∨cmdF e=2:=by
 unfold cmdF
 split
 ·exact .inr (.inl rfl)
 ·split
  ·exact .inr (.inr rfl)
  ·exact .inl rfl
theorem fold_size(e:En)(h:WB e.ws):(foldL (opnF e)).size<=maxLen:=by
 have:=opn_size e h
 rw[foldL_size]
 simp only[maxLen]
 omega
theorem readall_any(xs:Sl)(es:List En)(a:CA)(c:Cy)(w:World)(hx:RdE w xs.a es)(hn:xs.n=es.length)(hcap:xs.n<=xs.c)(h63:xs.c<=9223372036854775807)(hwb:∀e∈es,WB e.ws)(hc:CRd w a c)(hk:nck c.ow=0)(hE:LayE w)(hL:LayT w):Calls Tryz.prog 19 #[.slice xs.a xs.n xs.c,caV a c] w (AlP (allF es c []) w):=by
 obtain ⟨xa,n,xc⟩:=xs
 have HX:Hid (RdE w xa es):=hx
 have HN:Hid (n=es.length):=hn
 have HWB:Hid (∀e∈es,WB e.ws):=hwb
 have HE:Hid (∀W,Below w.heap.size w W->LayT W/\LayE W):=fun W hW=>⟨hL.below hW,hE.below hW⟩
 have HA:Hid (es=[]∨∃b o,xa=some ⟨b,o,none⟩):=by
  rcases hx with h|⟨b,o,e,-,-⟩
  ·exact .inl h
  ·exact .inr ⟨b,o,e⟩
 simp only at hcap h63
 have KC:=Lib.hid (commands_any ((w.alloc (.cells #[.slice a.g.a a.g.n a.g.c,.slice a.o.a a.o.n a.o.c,.int .u16 (c.cl:Int),.int .u32 (c.df:Int),.int .u32 (c.tt:Int),.bool c.ho,.bool c.hc,.bool c.ht,.bool c.sd] 63)).alloc (.cells #[.int .i64 0,.int .i64 0] 28)))
 have HLP:Hid (∀Wm m,((w.alloc (.cells #[.slice a.g.a a.g.n a.g.c,.slice a.o.a a.o.n a.o.c,.int .u16 (c.cl:Int),.int .u32 (c.df:Int),.int .u32 (c.tt:Int),.bool c.ho,.bool c.hc,.bool c.ht,.bool c.sd] 63)).alloc (.cells #[.int .i64 0,.int .i64 0] 28)).heap.size<=m->Wm.ownsMap Tryz.prog 9 fnR m 2 cmdD->Below ((w.alloc (.cells #[.slice a.g.a a.g.n a.g.c,.slice a.o.a a.o.n a.o.c,.int .u16 (c.cl:Int),.int .u32 (c.df:Int),.int .u32 (c.tt:Int),.bool c.ho,.bool c.hc,.bool c.ht,.bool c.sd] 63)).alloc (.cells #[.int .i64 0,.int .i64 0] 28)).heap.size ((w.alloc (.cells #[.slice a.g.a a.g.n a.g.c,.slice a.o.a a.o.n a.o.c,.int .u16 (c.cl:Int),.int .u32 (c.df:Int),.int .u32 (c.tt:Int),.bool c.ho,.bool c.hc,.bool c.ht,.bool c.sd] 63)).alloc (.cells #[.int .i64 0,.int .i64 0] 28)) Wm->LpS w Wm m (.slice none 0 0) [] a c):=fun Wm m h1 h2 h3=>lp_new hc hk h1 h2 h3
 clear hx hn hwb hc hk hE hL
 go_enter Tryz.func19,Tryz.ntmps19
 go_wp2_with fail
 refine KC.out.mono ?_
 rintro r Wm ⟨m,rfl,HM⟩
 have HL0:=Lib.hid (HLP.out Wm m HM.out.1 HM.out.2.1 HM.out.2.2)
 clear HLP HM KC
 go_wp2_with fail
 go_loopw [16,7] (fun vk vv wr=>∃(k:Nat) (s:Sl),k<=n/\vk=.int .i64 (k:Int)/\vv=.slice s.a s.n s.c/\Hid (∃rs c' a',LpS w wr m (.slice s.a s.n s.c) rs a' c'/\allF es c []=allF (es.drop k) c' rs/\rs.length<=2048)) (fun vk _ _=>n - (intOf vk).toNat)
 case atStart=>exact ⟨0,⟨none,0,0⟩,Nat.zero_le _,rfl,rfl,[],c,a,HL0.out,rfl,by simp⟩
 case round=>
  obtain ⟨k,s,hk,rfl,rfl,HW⟩:=hrel
  obtain ⟨rs,c1,a1,hlp,hall,hrs⟩:=HW.out
  clear HW
  have HLP:=Lib.hid hlp
  have HRS:=Lib.hid hrs
  by_cases hlt:k<n
  ·have hlt':(k:Int)<(n:Int):=by omega
   have hke:k<es.length:=by have:=HN.out;omega
   obtain ⟨b,o,rfl⟩:∃b o,xa=some ⟨b,o,none⟩:=by
    rcases HA.out with h|h
    ·rw[h] at hke;simp at hke
    ·exact h
   obtain ⟨x,hb,p1,p2,p3,hwd⟩:∃x:Sl,b<w.heap.size/\w.cell? ⟨b,o+k*3,none⟩=some (.int .i64 es[k].line)/\w.cell? ⟨b,o+k*3+1,none⟩=some (.bool es[k].blank)/\w.cell? ⟨b,o+k*3+2,none⟩=some (.slice x.a x.n x.c)/\WRd w x es[k].ws:=by
    rcases HX.out with h|⟨b',o',e0,hb,hcells⟩
    ·rw[h] at hke;simp at hke
    ·cases e0
     obtain ⟨x,h1⟩:=hcells k hke
     exact ⟨x,hb,h1⟩
   have P1:=(hlp.bel.cell (p:=⟨b,o+k*3,none⟩) hb).trans p1
   have P2:=(hlp.bel.cell (p:=⟨b,o+k*3+1,none⟩) hb).trans p2
   have P3:=(hlp.bel.cell (p:=⟨b,o+k*3+2,none⟩) hb).trans p3
   have hwb:=HWB.out es[k] (List.getElem_mem hke)
   have hdrop:es.drop k=es[k]::es.drop (k+1):=List.drop_eq_getElem_cons hke
   rw[hdrop,all_cons] at hall
   have HALL:=Lib.hid hall
   have HSE:Hid (allF es c []=allF es c []):=rfl
   clear p1 p2 p3 hdrop hall hlp hrs
   generalize allF es c []=RR at*
   generalize es[k]=en at*
   obtain ⟨ln,bl,ws⟩:=en
   simp only at P1 P2 P3 hwd hwb
   have HWE:=Lib.hid (HLP.out.below (new_below wr (.cells #[.int .i64 ln,.bool bl,.slice x.a x.n x.c] 75)))
   have HE0:Hid ((wr.alloc (.cells #[.int .i64 ln,.bool bl,.slice x.a x.n x.c] 75)).heap[wr.heap.size]?=some (.cells #[.int .i64 ln,.bool bl,.slice x.a x.n x.c] 75 (0,0))):=heap_alloc_new _ _
   have HWS:=Lib.hid ((ws_z hwd hwb).below HWE.out.bel)
   have KW:=Lib.hid (cmdword_any x ⟨ln,bl,ws⟩ (wr.alloc (.cells #[.int .i64 ln,.bool bl,.slice x.a x.n x.c] 75)) HWS.out)
   have HKEY:=Lib.hid (key9 _ (fold_size ⟨ln,bl,ws⟩ hwb))
   have HCH:=Lib.hid (cmd_has (foldL (opnF ⟨ln,bl,ws⟩)))
   rw[cmd_word] at HCH
   have HBIG:Hid (w.heap.size+2<=wr.heap.size):=by have:=HLP.out.mge;have:=HLP.out.mp.lt;show _<=_;omega
   have HWBB:=Lib.hid hwb
   have HOWN:Hid (∀j,(Value.slice s.a s.n s.c).ownBlock=some j->w.heap.size+2<=j/\j<wr.heap.size):=HLP.out.rr.own
   clear HLP hwd hwb HSE
   have hnw0:¬ wr.heap.size=w.heap.size:=by have:_<=_:=HBIG.out;omega
   have hnw1:¬ w.heap.size=wr.heap.size:=fun e=>hnw0 e.symm
   have hnw2:¬ wr.heap.size=w.heap.size+1:=by have:_<=_:=HBIG.out;omega
   have hnw3:¬ w.heap.size+1=wr.heap.size:=fun e=>hnw2 e.symm
   go_wp2_with fail
   refine KW.out.mono ?_
   rintro r W1 ⟨rfl,HB1⟩
   have HL1:=Lib.hid (HWE.out.below HB1.out)
   have HE1:Hid (W1.heap[wr.heap.size]?=some (.cells #[.int .i64 ln,.bool bl,.slice x.a x.n x.c] 75 (0,0))):=(HB1.out.block _ (by simp)).trans HE0.out
   have HWS1:=Lib.hid (HWS.out.below HB1.out)
   have HBA:=Lib.hid ((new_below wr (.cells #[.int .i64 ln,.bool bl,.slice x.a x.n x.c] 75)).trans (HB1.out.mono (by simp)))
   have HSZ1:Hid (wr.heap.size<W1.heap.size):=(Array.getElem?_eq_some_iff.1 HE1.out).1
   have HMP:=Lib.hid HL1.out.mp
   clear KW HE0 HWS HB1
   generalize foldL (opnF ⟨ln,bl,ws⟩)=WD at*
   have e0:=box_cell HE1.out 0 _ rfl
   have e1:=box_cell HE1.out 1 _ rfl
   have e2:=box_cell HE1.out 2 _ rfl
   have r0:=HL1.out.cy.c0
   have r1:=HL1.out.cy.c1
   have r2:=HL1.out.cy.c2
   have r3:=HL1.out.cy.c3
   have r4:=HL1.out.cy.c4
   have r5:=HL1.out.cy.c5
   have r6:=HL1.out.cy.c6
   have r7:=HL1.out.cy.c7
   have r8:=HL1.out.cy.c8
   rcases cmd_three ⟨ln,bl,ws⟩ with h0|h0|h0
   ·rw[h0] at HCH
    have HH:Hid (Maps.has cmdD (.string WD.data.toList)=false):=HCH.out.1
    have HAT:=Lib.hid HCH.out.2
    have HCF:=Lib.hid h0
    clear HCH h0
    go_wp2_with (first
     |(refine wpList_lookup_own_ok _ rfl _ _ 90 rfl 9 93 keyed9 Tryz.underlying90 fnR (zero93 _) (.lit (.int .i64 0)) [] rfl m 2 cmdD rfl HMP.out _ _ rfl HKEY.out ?_;intro u pu hu;rw[HAT.out] at hu;obtain rfl:=(fnR_inv (k:=0) hu).1 rfl;clear hu;rw[HH.out])
     |fail)
    have KPU:=Lib.hid (put_any (w.heap.size+2) (.slice s.a s.n s.c) rs x ⟨ln,bl,ws⟩ a1 c1 W1 HL1.out.rr (by have:_<=_:=HBIG.out;have:_<_:=HSZ1.out;omega) HRS.out HWS1.out HL1.out.rd (HE.out _ HL1.out.bel).2 (HE.out _ HL1.out.bel).1)
    have HEK:=Lib.hid (fun rc c' (h:entF ⟨ln,bl,ws⟩ c1=.ok (rc,c'))=>ent_keep h HL1.out.kw)
    have HST:=Lib.hid (stp_put (c:=c1) (rs:=rs) HCF.out)
    generalize entF ⟨ln,bl,ws⟩ c1=EF at*
    clear P1 P2 P3 e0 e1 e2 r0 r1 r2 r3 r4 r5 r6 r7 r8 HAT HH HKEY HMP
    refine KPU.out.mono ?_
    rintro r W2 ⟨s2,a2,c2,er,rfl,HGW,HQ⟩
    have HCY2:Hid (CyB W2 w.heap.size a1 c1):=(HGW.out.block _ HL1.out.cy.lt (fun e=>by have:=(HOWN.out _ e.symm).1;omega)).trans HL1.out.cy
    have HFT2:Hid (W2.heap[w.heap.size+1]?=some (.cells #[.int .i64 0,.int .i64 0] 28 (0,0))):=(HGW.out.block _ (Array.getElem?_eq_some_iff.1 HL1.out.ft).1 (fun e=>by have:=(HOWN.out _ e.symm).1;omega)).trans HL1.out.ft
    have HE2:Hid (W2.heap[wr.heap.size]?=some (.cells #[.int .i64 ln,.bool bl,.slice x.a x.n x.c] 75 (0,0))):=(HGW.out.block _ HSZ1.out (fun e=>by have:=(HOWN.out _ e.symm).2;omega)).trans HE1.out
    have HBW2:Hid (Below w.heap.size w W2):=⟨HGW.out.os.trans HL1.out.bel.os,HGW.out.tape.trans HL1.out.bel.tape,HGW.out.output.trans HL1.out.bel.output,Nat.le_trans HL1.out.bel.size HGW.out.size,fun j hj=>(HGW.out.block j (Nat.lt_of_lt_of_le hj HL1.out.bel.size) (fun e=>by have:=(HOWN.out _ e.symm).1;omega)).trans (HL1.out.bel.block j hj)⟩
    have r0:=HCY2.out.c0
    have r1:=HCY2.out.c1
    have r2:=HCY2.out.c2
    have r3:=HCY2.out.c3
    have r4:=HCY2.out.c4
    have r5:=HCY2.out.c5
    have r6:=HCY2.out.c6
    have r7:=HCY2.out.c7
    have r8:=HCY2.out.c8
    have rf0:=HCY2.out.fz 0
    have rf1:=HCY2.out.fz 1
    have rf2:=HCY2.out.fz 2
    have rf3:=HCY2.out.fz 3
    have rf4:=HCY2.out.fz 4
    have rf5:=HCY2.out.fz 5
    have rf6:=HCY2.out.fz 6
    have rf7:=HCY2.out.fz 7
    have rf8:=HCY2.out.fz 8
    have rl:=HCY2.out.lt
    rcases HQ.out with ⟨rfl,rc,xr,hef,hnf,hor,hg,ho,hrf,hrow⟩|⟨hne,herr⟩
    ·have HLN:=Lib.hid (lp_put HL1.out (Below.refl _ _) HGW.out hor hg ho hrf hrow (HEK.out _ _ hef).1 (HEK.out _ _ hef).2.1 (HEK.out _ _ hef).2.2)
     have HNEXT:Hid (RR=allF (es.drop (k+1)) c2 (rs++[rc])):=by
      have hp:putF EF rs=.ok (c2,rs++[rc]):=by
       rw[hef]
       show (if rs.length=2048 then (.error 3:Except Int (Cy × List Rec)) else .ok (c2,rs++[rc]))=_
       rw[if_neg hnf]
      show _=_
      rw[HALL.out,HST.out,hp]
     have HLEN:Hid ((rs++[rc]).length<=2048):=by have:=HRS.out;show _<=_;simp;omega
     clear KPU HALL HST HEK HQ HL1 hef hnf hor hg ho hrf hrow HCY2 HFT2 HE2 HBW2 HGW
     go_wp2_with fail
     exact ⟨⟨k+1,s2,by omega,by go_num,rfl,rs++[rc],c2,a2,HLN.out,HNEXT.out,HLEN.out⟩,by simp[intOf];omega⟩
    ·have hne3:(er != 0)=true:=by simpa using hne
     have HEE:Hid (stpE ⟨ln,bl,ws⟩ c1 rs=.error er):=by show _=_;rw[HST.out];exact herr
     have HFT:Hid (((((((((((W2.setCell ⟨w.heap.size,0,none⟩ (.slice a2.g.a a2.g.n a2.g.c)).setCell ⟨w.heap.size,1,none⟩ (.slice a2.o.a a2.o.n a2.o.c)).setCell ⟨w.heap.size,2,none⟩ (.int .u16 (c2.cl:Int))).setCell ⟨w.heap.size,3,none⟩ (.int .u32 (c2.df:Int))).setCell ⟨w.heap.size,4,none⟩ (.int .u32 (c2.tt:Int))).setCell ⟨w.heap.size,5,none⟩ (.bool c2.ho)).setCell ⟨w.heap.size,6,none⟩ (.bool c2.hc)).setCell ⟨w.heap.size,7,none⟩ (.bool c2.ht)).setCell ⟨w.heap.size,8,none⟩ (.bool c2.sd))).heap[w.heap.size+1]?=some (.cells #[.int .i64 0,.int .i64 0] 28 (0,0))):=(nine_heap W2 w.heap.size _ _ _ _ _ _ _ _ _ _ (by omega)).trans HFT2.out
     have HBN:Hid (Below w.heap.size w (((((((((W2.setCell ⟨w.heap.size,0,none⟩ (.slice a2.g.a a2.g.n a2.g.c)).setCell ⟨w.heap.size,1,none⟩ (.slice a2.o.a a2.o.n a2.o.c)).setCell ⟨w.heap.size,2,none⟩ (.int .u16 (c2.cl:Int))).setCell ⟨w.heap.size,3,none⟩ (.int .u32 (c2.df:Int))).setCell ⟨w.heap.size,4,none⟩ (.int .u32 (c2.tt:Int))).setCell ⟨w.heap.size,5,none⟩ (.bool c2.ho)).setCell ⟨w.heap.size,6,none⟩ (.bool c2.hc)).setCell ⟨w.heap.size,7,none⟩ (.bool c2.ht)).setCell ⟨w.heap.size,8,none⟩ (.bool c2.sd))):=below_nine HBW2.out (Nat.le_refl _) _ _ _ _ _ _ _ _ _
     have y0:=box_cell HE2.out 0 (.int .i64 ln) rfl
     have f0:=box_cell HFT2.out 0 (.int .i64 0) rfl
     have f1:=box_cell HFT2.out 1 (.int .i64 0) rfl
     have ff0:=box_fz HFT2.out 0
     have ff1:=box_fz HFT2.out 1
     have fl:=(Array.getElem?_eq_some_iff.1 HFT2.out).1
     clear KPU HST HEK HQ HL1 HCY2 HFT2 HE2 HBW2 HGW hne herr
     go_wp2_with fail
     go_region_law (fail)
     all_goals
      go_wp2_with fail
      have HZ:=Lib.hid (fin_cells (er:=er) (ln:=ln) HFT.out HBN.out)
      generalize (((((((((((W2.setCell ⟨w.heap.size,0,none⟩ (.slice a2.g.a a2.g.n a2.g.c)).setCell ⟨w.heap.size,1,none⟩ (.slice a2.o.a a2.o.n a2.o.c)).setCell ⟨w.heap.size,2,none⟩ (.int .u16 (c2.cl:Int))).setCell ⟨w.heap.size,3,none⟩ (.int .u32 (c2.df:Int))).setCell ⟨w.heap.size,4,none⟩ (.int .u32 (c2.tt:Int))).setCell ⟨w.heap.size,5,none⟩ (.bool c2.ho)).setCell ⟨w.heap.size,6,none⟩ (.bool c2.hc)).setCell ⟨w.heap.size,7,none⟩ (.bool c2.ht)).setCell ⟨w.heap.size,8,none⟩ (.bool c2.sd)).setCell ⟨w.heap.size+1,0,none⟩ (.int .i64 er)).setCell ⟨w.heap.size+1,1,none⟩ (.int .i64 ln)).drew=W9 at*
      have z0:=HZ.out.1
      have z1:=HZ.out.2.1
      exact bodyPost_ret (v:=.tuple #[.slice none 0 0,.agg #[.int .i64 er,.int .i64 ln]]) (by simp[results,Tryz.results19,go_sem,z0,z1]) rfl ⟨⟨none,0,0⟩,er,ln,rfl,HZ.out.2.2,by
       rw[HALL.out,HEE.out]
       exact ⟨rfl,rfl,rfl⟩⟩
   ·obtain ⟨p,wt,hcons⟩:=cmd_cons (e:=⟨ln,bl,ws⟩) (by rw[h0];decide)
    simp only at hcons
    subst hcons
    rw[h0] at HCH
    have HH:Hid (Maps.has cmdD (.string WD.data.toList)=true):=HCH.out.1
    have HAT:=Lib.hid HCH.out.2
    have HST:Hid (stpE ⟨ln,bl,p::wt⟩ c1 rs=match cmdE 1 wt c1 with
      | .error er=>.error er
      | .ok c'=>.ok (c',rs)):=by
     have:=stp_cmd (c:=c1) (rs:=rs) (e:=⟨ln,bl,p::wt⟩) (by rw[h0];decide)
     rw[h0] at this
     exact this
    obtain ⟨xwa,xwn,xwc⟩:=x
    obtain ⟨b5,o5,e5,-⟩:=HWS1.out.rd.head
    simp only at e5
    subst e5
    have htl:=ws_tail HWS1.out
    have hxn:=htl.1
    subst hxn
    have hxc:wt.length+1<=xwc:=HWS1.out.c
    have hx63:xwc<=9223372036854775807:=HWS1.out.c63
    have HTL:=Lib.hid htl.2
    have HKOB:Hid (∀x2:Sl,Ws W1 x2 wt->∀W,Below W1.heap.size W1 W->Calls Tryz.prog 37 #[.func (.func 61) #[] #[],.slice x2.a x2.n x2.c,caV a1 c1] W (CmP (cmdE 1 wt c1) a1 c1 W)):=fun x2 hx2 W hW=>obey61_any x2 wt a1 c1 W (hx2.below hW) (fun W' s hs h'=>origin_any s hs a1 c1 W' (HL1.out.rd.below (hW.trans (h'.mono hW.size))))
    have HCK:=Lib.hid (fun c' (h:cmdE 1 wt c1=.ok c')=>cmd_keep h HL1.out.rd.k)
    have HKK:Hid (nck c1.og=0):=HL1.out.rd.k
    generalize cmdE 1 wt c1=CE at*
    generalize wt.length=L at*
    clear HCH h0 P1 P2 P3 htl
    have hone:(1:Int)<=(L:Int)+1:=by omega
    obtain ⟨x2,hxs,hx2⟩:∃x2:Sl,(xwc=1->x2=⟨some ⟨b5,o5,none⟩,0,0⟩)/\Ws W1 x2 wt/\(xwc≠1->x2=⟨some ⟨b5,o5+2,none⟩,L,xwc - 1⟩):=by
     by_cases h1:xwc=1
     ·exact ⟨⟨some ⟨b5,o5,none⟩,0,0⟩,fun _=>rfl,HTL.out.2 h1 _,fun h=>absurd h1 h⟩
     ·exact ⟨⟨some ⟨b5,o5+2,none⟩,L,xwc - 1⟩,fun h=>absurd h h1,HTL.out.1 _ (by omega) (by omega),fun _=>rfl⟩
    have KOB:=Lib.hid (HKOB.out x2 hx2.1)
    have HWX:Hid (xwc≠1->x2=⟨some ⟨b5,o5+2,none⟩,L,xwc - 1⟩):=hx2.2
    clear HKOB hx2 HTL
    by_cases hc1:xwc=1
    ·have:=hxs hc1
     subst this
     clear hxs HWX
     have hL0:L=0:=by omega
     subst hc1
     subst hL0
     go_wp2_with (first
      |(refine wpList_lookup_own_ok _ rfl _ _ 90 rfl 9 93 keyed9 Tryz.underlying90 fnR (zero93 _) (.lit (.int .i64 0)) [] rfl m 2 cmdD rfl HMP.out _ _ rfl HKEY.out ?_;intro u pu hu;rw[HAT.out] at hu;obtain rfl:=(fnR_inv (k:=1) hu).2.1 rfl;clear hu;rw[HH.out])
      |fail)
     go_region_with (first
      |(go_at_call 37;refine (KOB.out _ (by first|exact Below.refl _ _|exact (Below.refl _ _).drew)).mono ?_;rintro r W2 ⟨a2,c2,er,rfl,HB2,HQ⟩;have HBW:Hid (Below W1.heap.size W1 W2):=(by first|exact HB2.out|exact (Below.refl _ _).drew.trans HB2.out);have HLW:=Lib.hid (HL1.out.below HBW.out);have HE2:=Lib.hid ((HBW.out.block _ HSZ1.out).trans HE1.out);have t0:=HLW.out.cy.c0;have t1:=HLW.out.cy.c1;have t2:=HLW.out.cy.c2;have t3:=HLW.out.cy.c3;have t4:=HLW.out.cy.c4;have t5:=HLW.out.cy.c5;have t6:=HLW.out.cy.c6;have t7:=HLW.out.cy.c7;have t8:=HLW.out.cy.c8;have tf0:=HLW.out.cy.fz 0;have tf1:=HLW.out.cy.fz 1;have tf2:=HLW.out.cy.fz 2;have tf3:=HLW.out.cy.fz 3;have tf4:=HLW.out.cy.fz 4;have tf5:=HLW.out.cy.fz 5;have tf6:=HLW.out.cy.fz 6;have tf7:=HLW.out.cy.fz 7;have tf8:=HLW.out.cy.fz 8;have tl:=HLW.out.cy.lt;have y0:=box_cell HE2.out 0 (.int .i64 ln) rfl;have f0:=box_cell HLW.out.ft 0 (.int .i64 0) rfl;have f1:=box_cell HLW.out.ft 1 (.int .i64 0) rfl;have ff0:=box_fz HLW.out.ft 0;have ff1:=box_fz HLW.out.ft 1;have fl:=(Array.getElem?_eq_some_iff.1 HLW.out.ft).1)
      |fail)
     all_goals
      clear e0 e1 e2 r0 r1 r2 r3 r4 r5 r6 r7 r8 HAT HH HKEY HMP KOB
      rcases HQ.out with ⟨rfl,hce,ho,hg⟩|⟨hne,hce⟩
      ·have HLN:=Lib.hid (lp_cmd HL1.out HBW.out ho hg (by first|exact Nat.le_refl _|(simp)) (HCK.out _ hce).1 (HCK.out _ hce).2)
       have HNEXT:Hid (RR=allF (es.drop (k+1)) c2 rs):=by
        show _=_
        rw[HALL.out,HST.out,hce]
       clear HALL HST HQ HL1 HB2 HBW HLW HE2 hce ho hg HCK
       go_wp2_with fail
       exact ⟨⟨k+1,s,by omega,by go_num,rfl,rs,c2,a2,HLN.out,HNEXT.out,HRS.out⟩,by simp[intOf];omega⟩
      ·have hne3:(er != 0)=true:=by simpa using hne
       have HEE:Hid (stpE ⟨ln,bl,p::wt⟩ c1 rs=.error er):=by show _=_;rw[HST.out,hce]
       have HFT:Hid (((((((((((W2.setCell ⟨w.heap.size,0,none⟩ (.slice a2.g.a a2.g.n a2.g.c)).setCell ⟨w.heap.size,1,none⟩ (.slice a2.o.a a2.o.n a2.o.c)).setCell ⟨w.heap.size,2,none⟩ (.int .u16 (c2.cl:Int))).setCell ⟨w.heap.size,3,none⟩ (.int .u32 (c2.df:Int))).setCell ⟨w.heap.size,4,none⟩ (.int .u32 (c2.tt:Int))).setCell ⟨w.heap.size,5,none⟩ (.bool c2.ho)).setCell ⟨w.heap.size,6,none⟩ (.bool c2.hc)).setCell ⟨w.heap.size,7,none⟩ (.bool c2.ht)).setCell ⟨w.heap.size,8,none⟩ (.bool c2.sd))).heap[w.heap.size+1]?=some (.cells #[.int .i64 0,.int .i64 0] 28 (0,0))):=(nine_heap W2 w.heap.size _ _ _ _ _ _ _ _ _ _ (by omega)).trans HLW.out.ft
       have HBN:Hid (Below w.heap.size w (((((((((W2.setCell ⟨w.heap.size,0,none⟩ (.slice a2.g.a a2.g.n a2.g.c)).setCell ⟨w.heap.size,1,none⟩ (.slice a2.o.a a2.o.n a2.o.c)).setCell ⟨w.heap.size,2,none⟩ (.int .u16 (c2.cl:Int))).setCell ⟨w.heap.size,3,none⟩ (.int .u32 (c2.df:Int))).setCell ⟨w.heap.size,4,none⟩ (.int .u32 (c2.tt:Int))).setCell ⟨w.heap.size,5,none⟩ (.bool c2.ho)).setCell ⟨w.heap.size,6,none⟩ (.bool c2.hc)).setCell ⟨w.heap.size,7,none⟩ (.bool c2.ht)).setCell ⟨w.heap.size,8,none⟩ (.bool c2.sd))):=below_nine HLW.out.bel (Nat.le_refl _) _ _ _ _ _ _ _ _ _
       clear HST HQ HL1 HB2 HBW HLW HE2 hne hce HCK
       go_wp2_with fail
       go_region_law (fail)
       all_goals
        go_wp2_with fail
        have HZ:=Lib.hid (fin_cells (er:=er) (ln:=ln) HFT.out HBN.out)
        generalize (((((((((((W2.setCell ⟨w.heap.size,0,none⟩ (.slice a2.g.a a2.g.n a2.g.c)).setCell ⟨w.heap.size,1,none⟩ (.slice a2.o.a a2.o.n a2.o.c)).setCell ⟨w.heap.size,2,none⟩ (.int .u16 (c2.cl:Int))).setCell ⟨w.heap.size,3,none⟩ (.int .u32 (c2.df:Int))).setCell ⟨w.heap.size,4,none⟩ (.int .u32 (c2.tt:Int))).setCell ⟨w.heap.size,5,none⟩ (.bool c2.ho)).setCell ⟨w.heap.size,6,none⟩ (.bool c2.hc)).setCell ⟨w.heap.size,7,none⟩ (.bool c2.ht)).setCell ⟨w.heap.size,8,none⟩ (.bool c2.sd)).setCell ⟨w.heap.size+1,0,none⟩ (.int .i64 er)).setCell ⟨w.heap.size+1,1,none⟩ (.int .i64 ln)).drew=W9 at*
        have z0:=HZ.out.1
        have z1:=HZ.out.2.1
        exact bodyPost_ret (v:=.tuple #[.slice none 0 0,.agg #[.int .i64 er,.int .i64 ln]]) (by simp[results,Tryz.results19,go_sem,z0,z1]) rfl ⟨⟨none,0,0⟩,er,ln,rfl,HZ.out.2.2,by
         rw[HALL.out,HEE.out]
         exact ⟨rfl,rfl,rfl⟩⟩
    ·have:=HWX.out hc1
     subst this
     clear hxs HWX
     have hx4:¬ xwc<=1:=by omega
     have hx5:¬ xwc - 1=0:=by omega
     have hx6:1<xwc:=by omega
     go_wp2_with (first
      |(refine wpList_lookup_own_ok _ rfl _ _ 90 rfl 9 93 keyed9 Tryz.underlying90 fnR (zero93 _) (.lit (.int .i64 0)) [] rfl m 2 cmdD rfl HMP.out _ _ rfl HKEY.out ?_;intro u pu hu;rw[HAT.out] at hu;obtain rfl:=(fnR_inv (k:=1) hu).2.1 rfl;clear hu;rw[HH.out])
      |fail)
     go_region_with (first
      |(go_at_call 37;refine (KOB.out _ (by first|exact Below.refl _ _|exact (Below.refl _ _).drew)).mono ?_;rintro r W2 ⟨a2,c2,er,rfl,HB2,HQ⟩;have HBW:Hid (Below W1.heap.size W1 W2):=(by first|exact HB2.out|exact (Below.refl _ _).drew.trans HB2.out);have HLW:=Lib.hid (HL1.out.below HBW.out);have HE2:=Lib.hid ((HBW.out.block _ HSZ1.out).trans HE1.out);have t0:=HLW.out.cy.c0;have t1:=HLW.out.cy.c1;have t2:=HLW.out.cy.c2;have t3:=HLW.out.cy.c3;have t4:=HLW.out.cy.c4;have t5:=HLW.out.cy.c5;have t6:=HLW.out.cy.c6;have t7:=HLW.out.cy.c7;have t8:=HLW.out.cy.c8;have tf0:=HLW.out.cy.fz 0;have tf1:=HLW.out.cy.fz 1;have tf2:=HLW.out.cy.fz 2;have tf3:=HLW.out.cy.fz 3;have tf4:=HLW.out.cy.fz 4;have tf5:=HLW.out.cy.fz 5;have tf6:=HLW.out.cy.fz 6;have tf7:=HLW.out.cy.fz 7;have tf8:=HLW.out.cy.fz 8;have tl:=HLW.out.cy.lt;have y0:=box_cell HE2.out 0 (.int .i64 ln) rfl;have f0:=box_cell HLW.out.ft 0 (.int .i64 0) rfl;have f1:=box_cell HLW.out.ft 1 (.int .i64 0) rfl;have ff0:=box_fz HLW.out.ft 0;have ff1:=box_fz HLW.out.ft 1;have fl:=(Array.getElem?_eq_some_iff.1 HLW.out.ft).1)
      |fail)
     all_goals
      clear e0 e1 e2 r0 r1 r2 r3 r4 r5 r6 r7 r8 HAT HH HKEY HMP KOB
      rcases HQ.out with ⟨rfl,hce,ho,hg⟩|⟨hne,hce⟩
      ·have HLN:=Lib.hid (lp_cmd HL1.out HBW.out ho hg (by first|exact Nat.le_refl _|(simp)) (HCK.out _ hce).1 (HCK.out _ hce).2)
       have HNEXT:Hid (RR=allF (es.drop (k+1)) c2 rs):=by
        show _=_
        rw[HALL.out,HST.out,hce]
       clear HALL HST HQ HL1 HB2 HBW HLW HE2 hce ho hg HCK
       go_wp2_with fail
       exact ⟨⟨k+1,s,by omega,by go_num,rfl,rs,c2,a2,HLN.out,HNEXT.out,HRS.out⟩,by simp[intOf];omega⟩
      ·have hne3:(er != 0)=true:=by simpa using hne
       have HEE:Hid (stpE ⟨ln,bl,p::wt⟩ c1 rs=.error er):=by show _=_;rw[HST.out,hce]
       have HFT:Hid (((((((((((W2.setCell ⟨w.heap.size,0,none⟩ (.slice a2.g.a a2.g.n a2.g.c)).setCell ⟨w.heap.size,1,none⟩ (.slice a2.o.a a2.o.n a2.o.c)).setCell ⟨w.heap.size,2,none⟩ (.int .u16 (c2.cl:Int))).setCell ⟨w.heap.size,3,none⟩ (.int .u32 (c2.df:Int))).setCell ⟨w.heap.size,4,none⟩ (.int .u32 (c2.tt:Int))).setCell ⟨w.heap.size,5,none⟩ (.bool c2.ho)).setCell ⟨w.heap.size,6,none⟩ (.bool c2.hc)).setCell ⟨w.heap.size,7,none⟩ (.bool c2.ht)).setCell ⟨w.heap.size,8,none⟩ (.bool c2.sd))).heap[w.heap.size+1]?=some (.cells #[.int .i64 0,.int .i64 0] 28 (0,0))):=(nine_heap W2 w.heap.size _ _ _ _ _ _ _ _ _ _ (by omega)).trans HLW.out.ft
       have HBN:Hid (Below w.heap.size w (((((((((W2.setCell ⟨w.heap.size,0,none⟩ (.slice a2.g.a a2.g.n a2.g.c)).setCell ⟨w.heap.size,1,none⟩ (.slice a2.o.a a2.o.n a2.o.c)).setCell ⟨w.heap.size,2,none⟩ (.int .u16 (c2.cl:Int))).setCell ⟨w.heap.size,3,none⟩ (.int .u32 (c2.df:Int))).setCell ⟨w.heap.size,4,none⟩ (.int .u32 (c2.tt:Int))).setCell ⟨w.heap.size,5,none⟩ (.bool c2.ho)).setCell ⟨w.heap.size,6,none⟩ (.bool c2.hc)).setCell ⟨w.heap.size,7,none⟩ (.bool c2.ht)).setCell ⟨w.heap.size,8,none⟩ (.bool c2.sd))):=below_nine HLW.out.bel (Nat.le_refl _) _ _ _ _ _ _ _ _ _
       clear HST HQ HL1 HB2 HBW HLW HE2 hne hce HCK
       go_wp2_with fail
       go_region_law (fail)
       all_goals
        go_wp2_with fail
        have HZ:=Lib.hid (fin_cells (er:=er) (ln:=ln) HFT.out HBN.out)
        generalize (((((((((((W2.setCell ⟨w.heap.size,0,none⟩ (.slice a2.g.a a2.g.n a2.g.c)).setCell ⟨w.heap.size,1,none⟩ (.slice a2.o.a a2.o.n a2.o.c)).setCell ⟨w.heap.size,2,none⟩ (.int .u16 (c2.cl:Int))).setCell ⟨w.heap.size,3,none⟩ (.int .u32 (c2.df:Int))).setCell ⟨w.heap.size,4,none⟩ (.int .u32 (c2.tt:Int))).setCell ⟨w.heap.size,5,none⟩ (.bool c2.ho)).setCell ⟨w.heap.size,6,none⟩ (.bool c2.hc)).setCell ⟨w.heap.size,7,none⟩ (.bool c2.ht)).setCell ⟨w.heap.size,8,none⟩ (.bool c2.sd)).setCell ⟨w.heap.size+1,0,none⟩ (.int .i64 er)).setCell ⟨w.heap.size+1,1,none⟩ (.int .i64 ln)).drew=W9 at*
        have z0:=HZ.out.1
        have z1:=HZ.out.2.1
        exact bodyPost_ret (v:=.tuple #[.slice none 0 0,.agg #[.int .i64 er,.int .i64 ln]]) (by simp[results,Tryz.results19,go_sem,z0,z1]) rfl ⟨⟨none,0,0⟩,er,ln,rfl,HZ.out.2.2,by
         rw[HALL.out,HEE.out]
         exact ⟨rfl,rfl,rfl⟩⟩
   ·obtain ⟨p,wt,hcons⟩:=cmd_cons (e:=⟨ln,bl,ws⟩) (by rw[h0];decide)
    simp only at hcons
    subst hcons
    rw[h0] at HCH
    have HH:Hid (Maps.has cmdD (.string WD.data.toList)=true):=HCH.out.1
    have HAT:=Lib.hid HCH.out.2
    have HST:Hid (stpE ⟨ln,bl,p::wt⟩ c1 rs=match cmdE 2 wt c1 with
      | .error er=>.error er
      | .ok c'=>.ok (c',rs)):=by
     have:=stp_cmd (c:=c1) (rs:=rs) (e:=⟨ln,bl,p::wt⟩) (by rw[h0];decide)
     rw[h0] at this
     exact this
    obtain ⟨xwa,xwn,xwc⟩:=x
    obtain ⟨b5,o5,e5,-⟩:=HWS1.out.rd.head
    simp only at e5
    subst e5
    have htl:=ws_tail HWS1.out
    have hxn:=htl.1
    subst hxn
    have hxc:wt.length+1<=xwc:=HWS1.out.c
    have hx63:xwc<=9223372036854775807:=HWS1.out.c63
    have HTL:=Lib.hid htl.2
    have HKOB:Hid (∀x2:Sl,Ws W1 x2 wt->∀W,Below W1.heap.size W1 W->Calls Tryz.prog 37 #[.func (.func 62) #[] #[],.slice x2.a x2.n x2.c,caV a1 c1] W (CmP (cmdE 2 wt c1) a1 c1 W)):=fun x2 hx2 W hW=>obey62_any x2 wt a1 c1 W (hx2.below hW) (fun W' s hs h'=>default_any s hs a1 c1 W' ((HE.out _ (HL1.out.bel.trans ((hW.trans (h'.mono hW.size)).mono HL1.out.bel.size))).2) ((HE.out _ (HL1.out.bel.trans ((hW.trans (h'.mono hW.size)).mono HL1.out.bel.size))).1))
    have HCK:=Lib.hid (fun c' (h:cmdE 2 wt c1=.ok c')=>cmd_keep h HL1.out.rd.k)
    have HKK:Hid (nck c1.og=0):=HL1.out.rd.k
    generalize cmdE 2 wt c1=CE at*
    generalize wt.length=L at*
    clear HCH h0 P1 P2 P3 htl
    have hone:(1:Int)<=(L:Int)+1:=by omega
    obtain ⟨x2,hxs,hx2⟩:∃x2:Sl,(xwc=1->x2=⟨some ⟨b5,o5,none⟩,0,0⟩)/\Ws W1 x2 wt/\(xwc≠1->x2=⟨some ⟨b5,o5+2,none⟩,L,xwc - 1⟩):=by
     by_cases h1:xwc=1
     ·exact ⟨⟨some ⟨b5,o5,none⟩,0,0⟩,fun _=>rfl,HTL.out.2 h1 _,fun h=>absurd h1 h⟩
     ·exact ⟨⟨some ⟨b5,o5+2,none⟩,L,xwc - 1⟩,fun h=>absurd h h1,HTL.out.1 _ (by omega) (by omega),fun _=>rfl⟩
    have KOB:=Lib.hid (HKOB.out x2 hx2.1)
    have HWX:Hid (xwc≠1->x2=⟨some ⟨b5,o5+2,none⟩,L,xwc - 1⟩):=hx2.2
    clear HKOB hx2 HTL
    by_cases hc1:xwc=1
    ·have:=hxs hc1
     subst this
     clear hxs HWX
     have hL0:L=0:=by omega
     subst hc1
     subst hL0
     go_wp2_with (first
      |(refine wpList_lookup_own_ok _ rfl _ _ 90 rfl 9 93 keyed9 Tryz.underlying90 fnR (zero93 _) (.lit (.int .i64 0)) [] rfl m 2 cmdD rfl HMP.out _ _ rfl HKEY.out ?_;intro u pu hu;rw[HAT.out] at hu;obtain rfl:=(fnR_inv (k:=2) hu).2.2 rfl;clear hu;rw[HH.out])
      |fail)
     go_region_with (first
      |(go_at_call 37;refine (KOB.out _ (by first|exact Below.refl _ _|exact (Below.refl _ _).drew)).mono ?_;rintro r W2 ⟨a2,c2,er,rfl,HB2,HQ⟩;have HBW:Hid (Below W1.heap.size W1 W2):=(by first|exact HB2.out|exact (Below.refl _ _).drew.trans HB2.out);have HLW:=Lib.hid (HL1.out.below HBW.out);have HE2:=Lib.hid ((HBW.out.block _ HSZ1.out).trans HE1.out);have t0:=HLW.out.cy.c0;have t1:=HLW.out.cy.c1;have t2:=HLW.out.cy.c2;have t3:=HLW.out.cy.c3;have t4:=HLW.out.cy.c4;have t5:=HLW.out.cy.c5;have t6:=HLW.out.cy.c6;have t7:=HLW.out.cy.c7;have t8:=HLW.out.cy.c8;have tf0:=HLW.out.cy.fz 0;have tf1:=HLW.out.cy.fz 1;have tf2:=HLW.out.cy.fz 2;have tf3:=HLW.out.cy.fz 3;have tf4:=HLW.out.cy.fz 4;have tf5:=HLW.out.cy.fz 5;have tf6:=HLW.out.cy.fz 6;have tf7:=HLW.out.cy.fz 7;have tf8:=HLW.out.cy.fz 8;have tl:=HLW.out.cy.lt;have y0:=box_cell HE2.out 0 (.int .i64 ln) rfl;have f0:=box_cell HLW.out.ft 0 (.int .i64 0) rfl;have f1:=box_cell HLW.out.ft 1 (.int .i64 0) rfl;have ff0:=box_fz HLW.out.ft 0;have ff1:=box_fz HLW.out.ft 1;have fl:=(Array.getElem?_eq_some_iff.1 HLW.out.ft).1)
      |fail)
     all_goals
      clear e0 e1 e2 r0 r1 r2 r3 r4 r5 r6 r7 r8 HAT HH HKEY HMP KOB
      rcases HQ.out with ⟨rfl,hce,ho,hg⟩|⟨hne,hce⟩
      ·have HLN:=Lib.hid (lp_cmd HL1.out HBW.out ho hg (by first|exact Nat.le_refl _|(simp)) (HCK.out _ hce).1 (HCK.out _ hce).2)
       have HNEXT:Hid (RR=allF (es.drop (k+1)) c2 rs):=by
        show _=_
        rw[HALL.out,HST.out,hce]
       clear HALL HST HQ HL1 HB2 HBW HLW HE2 hce ho hg HCK
       go_wp2_with fail
       exact ⟨⟨k+1,s,by omega,by go_num,rfl,rs,c2,a2,HLN.out,HNEXT.out,HRS.out⟩,by simp[intOf];omega⟩
      ·have hne3:(er != 0)=true:=by simpa using hne
       have HEE:Hid (stpE ⟨ln,bl,p::wt⟩ c1 rs=.error er):=by show _=_;rw[HST.out,hce]
       have HFT:Hid (((((((((((W2.setCell ⟨w.heap.size,0,none⟩ (.slice a2.g.a a2.g.n a2.g.c)).setCell ⟨w.heap.size,1,none⟩ (.slice a2.o.a a2.o.n a2.o.c)).setCell ⟨w.heap.size,2,none⟩ (.int .u16 (c2.cl:Int))).setCell ⟨w.heap.size,3,none⟩ (.int .u32 (c2.df:Int))).setCell ⟨w.heap.size,4,none⟩ (.int .u32 (c2.tt:Int))).setCell ⟨w.heap.size,5,none⟩ (.bool c2.ho)).setCell ⟨w.heap.size,6,none⟩ (.bool c2.hc)).setCell ⟨w.heap.size,7,none⟩ (.bool c2.ht)).setCell ⟨w.heap.size,8,none⟩ (.bool c2.sd))).heap[w.heap.size+1]?=some (.cells #[.int .i64 0,.int .i64 0] 28 (0,0))):=(nine_heap W2 w.heap.size _ _ _ _ _ _ _ _ _ _ (by omega)).trans HLW.out.ft
       have HBN:Hid (Below w.heap.size w (((((((((W2.setCell ⟨w.heap.size,0,none⟩ (.slice a2.g.a a2.g.n a2.g.c)).setCell ⟨w.heap.size,1,none⟩ (.slice a2.o.a a2.o.n a2.o.c)).setCell ⟨w.heap.size,2,none⟩ (.int .u16 (c2.cl:Int))).setCell ⟨w.heap.size,3,none⟩ (.int .u32 (c2.df:Int))).setCell ⟨w.heap.size,4,none⟩ (.int .u32 (c2.tt:Int))).setCell ⟨w.heap.size,5,none⟩ (.bool c2.ho)).setCell ⟨w.heap.size,6,none⟩ (.bool c2.hc)).setCell ⟨w.heap.size,7,none⟩ (.bool c2.ht)).setCell ⟨w.heap.size,8,none⟩ (.bool c2.sd))):=below_nine HLW.out.bel (Nat.le_refl _) _ _ _ _ _ _ _ _ _
       clear HST HQ HL1 HB2 HBW HLW HE2 hne hce HCK
       go_wp2_with fail
       go_region_law (fail)
       all_goals
        go_wp2_with fail
        have HZ:=Lib.hid (fin_cells (er:=er) (ln:=ln) HFT.out HBN.out)
        generalize (((((((((((W2.setCell ⟨w.heap.size,0,none⟩ (.slice a2.g.a a2.g.n a2.g.c)).setCell ⟨w.heap.size,1,none⟩ (.slice a2.o.a a2.o.n a2.o.c)).setCell ⟨w.heap.size,2,none⟩ (.int .u16 (c2.cl:Int))).setCell ⟨w.heap.size,3,none⟩ (.int .u32 (c2.df:Int))).setCell ⟨w.heap.size,4,none⟩ (.int .u32 (c2.tt:Int))).setCell ⟨w.heap.size,5,none⟩ (.bool c2.ho)).setCell ⟨w.heap.size,6,none⟩ (.bool c2.hc)).setCell ⟨w.heap.size,7,none⟩ (.bool c2.ht)).setCell ⟨w.heap.size,8,none⟩ (.bool c2.sd)).setCell ⟨w.heap.size+1,0,none⟩ (.int .i64 er)).setCell ⟨w.heap.size+1,1,none⟩ (.int .i64 ln)).drew=W9 at*
        have z0:=HZ.out.1
        have z1:=HZ.out.2.1
        exact bodyPost_ret (v:=.tuple #[.slice none 0 0,.agg #[.int .i64 er,.int .i64 ln]]) (by simp[results,Tryz.results19,go_sem,z0,z1]) rfl ⟨⟨none,0,0⟩,er,ln,rfl,HZ.out.2.2,by
         rw[HALL.out,HEE.out]
         exact ⟨rfl,rfl,rfl⟩⟩
    ·have:=HWX.out hc1
     subst this
     clear hxs HWX
     have hx4:¬ xwc<=1:=by omega
     have hx5:¬ xwc - 1=0:=by omega
     have hx6:1<xwc:=by omega
     go_wp2_with (first
      |(refine wpList_lookup_own_ok _ rfl _ _ 90 rfl 9 93 keyed9 Tryz.underlying90 fnR (zero93 _) (.lit (.int .i64 0)) [] rfl m 2 cmdD rfl HMP.out _ _ rfl HKEY.out ?_;intro u pu hu;rw[HAT.out] at hu;obtain rfl:=(fnR_inv (k:=2) hu).2.2 rfl;clear hu;rw[HH.out])
      |fail)
     go_region_with (first
      |(go_at_call 37;refine (KOB.out _ (by first|exact Below.refl _ _|exact (Below.refl _ _).drew)).mono ?_;rintro r W2 ⟨a2,c2,er,rfl,HB2,HQ⟩;have HBW:Hid (Below W1.heap.size W1 W2):=(by first|exact HB2.out|exact (Below.refl _ _).drew.trans HB2.out);have HLW:=Lib.hid (HL1.out.below HBW.out);have HE2:=Lib.hid ((HBW.out.block _ HSZ1.out).trans HE1.out);have t0:=HLW.out.cy.c0;have t1:=HLW.out.cy.c1;have t2:=HLW.out.cy.c2;have t3:=HLW.out.cy.c3;have t4:=HLW.out.cy.c4;have t5:=HLW.out.cy.c5;have t6:=HLW.out.cy.c6;have t7:=HLW.out.cy.c7;have t8:=HLW.out.cy.c8;have tf0:=HLW.out.cy.fz 0;have tf1:=HLW.out.cy.fz 1;have tf2:=HLW.out.cy.fz 2;have tf3:=HLW.out.cy.fz 3;have tf4:=HLW.out.cy.fz 4;have tf5:=HLW.out.cy.fz 5;have tf6:=HLW.out.cy.fz 6;have tf7:=HLW.out.cy.fz 7;have tf8:=HLW.out.cy.fz 8;have tl:=HLW.out.cy.lt;have y0:=box_cell HE2.out 0 (.int .i64 ln) rfl;have f0:=box_cell HLW.out.ft 0 (.int .i64 0) rfl;have f1:=box_cell HLW.out.ft 1 (.int .i64 0) rfl;have ff0:=box_fz HLW.out.ft 0;have ff1:=box_fz HLW.out.ft 1;have fl:=(Array.getElem?_eq_some_iff.1 HLW.out.ft).1)
      |fail)
     all_goals
      clear e0 e1 e2 r0 r1 r2 r3 r4 r5 r6 r7 r8 HAT HH HKEY HMP KOB
      rcases HQ.out with ⟨rfl,hce,ho,hg⟩|⟨hne,hce⟩
      ·have HLN:=Lib.hid (lp_cmd HL1.out HBW.out ho hg (by first|exact Nat.le_refl _|(simp)) (HCK.out _ hce).1 (HCK.out _ hce).2)
       have HNEXT:Hid (RR=allF (es.drop (k+1)) c2 rs):=by
        show _=_
        rw[HALL.out,HST.out,hce]
       clear HALL HST HQ HL1 HB2 HBW HLW HE2 hce ho hg HCK
       go_wp2_with fail
       exact ⟨⟨k+1,s,by omega,by go_num,rfl,rs,c2,a2,HLN.out,HNEXT.out,HRS.out⟩,by simp[intOf];omega⟩
      ·have hne3:(er != 0)=true:=by simpa using hne
       have HEE:Hid (stpE ⟨ln,bl,p::wt⟩ c1 rs=.error er):=by show _=_;rw[HST.out,hce]
       have HFT:Hid (((((((((((W2.setCell ⟨w.heap.size,0,none⟩ (.slice a2.g.a a2.g.n a2.g.c)).setCell ⟨w.heap.size,1,none⟩ (.slice a2.o.a a2.o.n a2.o.c)).setCell ⟨w.heap.size,2,none⟩ (.int .u16 (c2.cl:Int))).setCell ⟨w.heap.size,3,none⟩ (.int .u32 (c2.df:Int))).setCell ⟨w.heap.size,4,none⟩ (.int .u32 (c2.tt:Int))).setCell ⟨w.heap.size,5,none⟩ (.bool c2.ho)).setCell ⟨w.heap.size,6,none⟩ (.bool c2.hc)).setCell ⟨w.heap.size,7,none⟩ (.bool c2.ht)).setCell ⟨w.heap.size,8,none⟩ (.bool c2.sd))).heap[w.heap.size+1]?=some (.cells #[.int .i64 0,.int .i64 0] 28 (0,0))):=(nine_heap W2 w.heap.size _ _ _ _ _ _ _ _ _ _ (by omega)).trans HLW.out.ft
       have HBN:Hid (Below w.heap.size w (((((((((W2.setCell ⟨w.heap.size,0,none⟩ (.slice a2.g.a a2.g.n a2.g.c)).setCell ⟨w.heap.size,1,none⟩ (.slice a2.o.a a2.o.n a2.o.c)).setCell ⟨w.heap.size,2,none⟩ (.int .u16 (c2.cl:Int))).setCell ⟨w.heap.size,3,none⟩ (.int .u32 (c2.df:Int))).setCell ⟨w.heap.size,4,none⟩ (.int .u32 (c2.tt:Int))).setCell ⟨w.heap.size,5,none⟩ (.bool c2.ho)).setCell ⟨w.heap.size,6,none⟩ (.bool c2.hc)).setCell ⟨w.heap.size,7,none⟩ (.bool c2.ht)).setCell ⟨w.heap.size,8,none⟩ (.bool c2.sd))):=below_nine HLW.out.bel (Nat.le_refl _) _ _ _ _ _ _ _ _ _
       clear HST HQ HL1 HB2 HBW HLW HE2 hne hce HCK
       go_wp2_with fail
       go_region_law (fail)
       all_goals
        go_wp2_with fail
        have HZ:=Lib.hid (fin_cells (er:=er) (ln:=ln) HFT.out HBN.out)
        generalize (((((((((((W2.setCell ⟨w.heap.size,0,none⟩ (.slice a2.g.a a2.g.n a2.g.c)).setCell ⟨w.heap.size,1,none⟩ (.slice a2.o.a a2.o.n a2.o.c)).setCell ⟨w.heap.size,2,none⟩ (.int .u16 (c2.cl:Int))).setCell ⟨w.heap.size,3,none⟩ (.int .u32 (c2.df:Int))).setCell ⟨w.heap.size,4,none⟩ (.int .u32 (c2.tt:Int))).setCell ⟨w.heap.size,5,none⟩ (.bool c2.ho)).setCell ⟨w.heap.size,6,none⟩ (.bool c2.hc)).setCell ⟨w.heap.size,7,none⟩ (.bool c2.ht)).setCell ⟨w.heap.size,8,none⟩ (.bool c2.sd)).setCell ⟨w.heap.size+1,0,none⟩ (.int .i64 er)).setCell ⟨w.heap.size+1,1,none⟩ (.int .i64 ln)).drew=W9 at*
        have z0:=HZ.out.1
        have z1:=HZ.out.2.1
        exact bodyPost_ret (v:=.tuple #[.slice none 0 0,.agg #[.int .i64 er,.int .i64 ln]]) (by simp[results,Tryz.results19,go_sem,z0,z1]) rfl ⟨⟨none,0,0⟩,er,ln,rfl,HZ.out.2.2,by
         rw[HALL.out,HEE.out]
         exact ⟨rfl,rfl,rfl⟩⟩
  ·have hkn:k=n:=by omega
   subst hkn
   have HFT:=Lib.hid hlp.ft
   have HBN:=Lib.hid hlp.bel
   have HRR:Hid (OwR w.heap.size wr (.slice s.a s.n s.c) rs):=hlp.rr.mono (by omega)
   have HALL:Hid (allF es c []=.ok rs):=by
    show _=_
    rw[hall,List.drop_eq_nil_of_le (by have:=HN.out;omega)]
    rfl
   have f0:=box_cell HFT.out 0 (.int .i64 0) rfl
   have f1:=box_cell HFT.out 1 (.int .i64 0) rfl
   have ff0:=box_fz HFT.out 0
   have ff1:=box_fz HFT.out 1
   have fl:=(Array.getElem?_eq_some_iff.1 HFT.out).1
   have HZ:=Lib.hid (fin_end HFT.out HBN.out hlp.rr)
   clear hlp hall hrs HLP HRR
   go_wp2_with fail
   rw[HALL.out]
   generalize ((wr.setCell ⟨w.heap.size+1,0,none⟩ (.int .i64 0)).setCell ⟨w.heap.size+1,1,none⟩ (.int .i64 0))=W9 at*
   have z0:=HZ.out.1
   have z1:=HZ.out.2.1
   exact bodyPost_ret (v:=.tuple #[.slice s.a s.n s.c,.agg #[.int .i64 0,.int .i64 0]]) (by simp[results,Tryz.results19,go_sem,z0,z1]) rfl ⟨s,0,0,rfl,HZ.out.2.2.1,⟨rfl,rfl,HZ.out.2.2.2,HRS.out⟩⟩
theorem wtxt_ge(p:Wd):p.1.size<=(wtxt p).length:=by
 obtain ⟨s,q⟩:=p
 cases q <;> simp[wtxt] <;> omega
theorem mem_sum_le:∀(l:List Nat) (x:Nat),x∈l->x<=l.sum
 |[],x,h=>by cases h
 |a::l,x,h=>by
  rcases List.mem_cons.1 h with h|h
  ·subst h;simp
  ·have:=mem_sum_le l x h;simp;omega
theorem ents_wb{s:List UInt8}{es:List En}(h:entsF s=.ok es):∀e∈es,WB e.ws:=by
 intro e he
 have h1:=ents_ok h
 have h2:s.length<=65536:=by
  unfold entsF at h
  split at h
  ·cases h
  ·omega
 refine ⟨by have:=(h1.1 e he).2.1;omega,fun p hp=>?_⟩
 have a1:=wtxt_ge p
 have a2:(wtxt p).length<=wsum e.ws:=mem_sum_le _ _ (List.mem_map.2 ⟨p,hp,rfl⟩)
 have a3:wsum e.ws<=esum es:=mem_sum_le _ _ (List.mem_map.2 ⟨e,he,rfl⟩)
 omega
theorem ents_er0{s:List UInt8}{e l:Nat}(h:entsF s=.er e l):e≠0:=by
 by_cases hl:s.length<=65536
 ·rcases (ents_er hl h).1 with h|h <;> omega
 ·unfold entsF at h
  rw[if_pos (by omega)] at h
  cases h
  decide
theorem par_end{w V:World}{er ln e0 l0:Int}(hf:V.heap[w.heap.size]?=some (.cells #[.int .i64 e0,.int .i64 l0] 28 (0,0)))(hb:Below w.heap.size w V):((V.setCell ⟨w.heap.size,0,none⟩ (.int .i64 er)).setCell ⟨w.heap.size,1,none⟩ (.int .i64 ln)).cell? ⟨w.heap.size,0,none⟩=some (.int .i64 er)/\((V.setCell ⟨w.heap.size,0,none⟩ (.int .i64 er)).setCell ⟨w.heap.size,1,none⟩ (.int .i64 ln)).cell? ⟨w.heap.size,1,none⟩=some (.int .i64 ln)/\Below w.heap.size w ((V.setCell ⟨w.heap.size,0,none⟩ (.int .i64 er)).setCell ⟨w.heap.size,1,none⟩ (.int .i64 ln))/\(∀B v rs,w.heap.size<B->OwR B V v rs->OwR w.heap.size ((V.setCell ⟨w.heap.size,0,none⟩ (.int .i64 er)).setCell ⟨w.heap.size,1,none⟩ (.int .i64 ln)) v rs):=by
 have h1:=heap_set hf 0 (.int .i64 er)
 have h2:=heap_set h1 1 (.int .i64 ln)
 have h3:((V.setCell ⟨w.heap.size,0,none⟩ (.int .i64 er)).setCell ⟨w.heap.size,1,none⟩ (.int .i64 ln)).heap[w.heap.size]?=some (.cells #[.int .i64 er,.int .i64 ln] 28 (0,0)):=h2
 have h4:=(hb.setCell (p:=⟨w.heap.size,0,none⟩) (Nat.le_refl _) (.int .i64 er)).setCell (p:=⟨w.heap.size,1,none⟩) (Nat.le_refl _) (.int .i64 ln)
 have h0:=((Below.refl 0 V).setCell (p:=⟨w.heap.size,0,none⟩) (Nat.zero_le _) (.int .i64 er)).setCell (p:=⟨w.heap.size,1,none⟩) (Nat.zero_le _) (.int .i64 ln)
 have hh:∀j,j≠w.heap.size->((V.setCell ⟨w.heap.size,0,none⟩ (.int .i64 er)).setCell ⟨w.heap.size,1,none⟩ (.int .i64 ln)).heap[j]?=V.heap[j]?:=fun j hj=>(Below.heap_setCell _ _ _ j (by show j≠w.heap.size;exact hj)).trans (Below.heap_setCell _ _ _ j (by show j≠w.heap.size;exact hj))
 exact ⟨box_cell h3 0 _ rfl,box_cell h3 1 _ rfl,h4,fun B v rs hB hr=>(hr.keep2 h0.size ⟨h0.os,h0.tape,h0.output⟩ (fun j e1 e2=>hh j (by omega)) w.heap.size hB (fun j e1 e2=>hh j e2)).mono (by omega)⟩
theorem parse_any8(t:ByteArray)(oa:Option Addr)(on oc:Nat)(og:List ByteArray)(w:World)(ho:Nm w oa on og)(hE:LayE w)(hL:LayT w):Calls Tryz.prog 8 #[.string t,.slice oa on oc] w (AlP (mstF t og) w):=by
 have KN:=Lib.hid (fun W (hW:Below w.heap.size w W)=>pm_check oc (ho.below hW))
 have HE:Hid (∀W,Below w.heap.size w W->LayT W/\LayE W/\Nm W oa on og):=fun W hW=>⟨hL.below hW,hE.below hW,ho.below hW⟩
 have HW1:Hid (Below w.heap.size w (w.alloc (.cells #[.int .i64 0,.int .i64 0] 28))/\(w.alloc (.cells #[.int .i64 0,.int .i64 0] 28)).heap[w.heap.size]?=some (.cells #[.int .i64 0,.int .i64 0] 28 (0,0))):=⟨new_below _ _,heap_alloc_new _ _⟩
 have KN1:=Lib.hid (KN.out _ HW1.out.1)
 clear ho hE hL KN
 by_cases hk:nck og=0
 ·rw[hk] at KN1
  have KE:=Lib.hid (entries12 t (w.alloc (.cells #[.int .i64 0,.int .i64 0] 28)))
  have HM:Hid (mstF t og=match entsF t.data.toList with
   | .er e l=>.er e l
   | .ok es=>allF es (cy0 og) []):=by
   show _=_
   unfold mstF
   rw[if_pos hk]
   cases entsF t.data.toList <;> rfl
  have HERE:Hid (∀e l,entsF t.data.toList=.er e l->e≠0):=fun e l h=>ents_er0 h
  have HWBE:Hid (∀es,entsF t.data.toList=.ok es->∀e∈es,WB e.ws):=fun es h=>ents_wb h
  have HKK:=Lib.hid hk
  generalize mstF t og=R at*
  generalize entsF t.data.toList=RE at*
  clear hk
  go_enter Tryz.func8,Tryz.ntmps8
  go_wp2_with fail
  refine KN1.out.mono ?_
  rintro r w1 ⟨rfl,rfl⟩
  go_wp2_with fail
  refine KE.out.mono ?_
  rintro r W2 ⟨v,ea,eb,rfl,HQ⟩
  clear KN1 KE
  cases RE with
  |er e1 l1=>
   obtain ⟨hv,ha,hb,hbel⟩:v=.slice none 0 0/\ea=e1/\eb=l1/\Below (w.alloc (.cells #[.int .i64 0,.int .i64 0] 28)).heap.size (w.alloc (.cells #[.int .i64 0,.int .i64 0] 28)) W2:=HQ.out
   subst hv
   subst ha
   subst hb
   have HB2:=Lib.hid hbel
   have hne:=HERE.out ea eb rfl
   have hne1:¬ (ea:Int)=0:=by omega
   have hne2:((ea:Int) != 0)=true:=by simpa using hne1
   have gl:w.heap.size<W2.heap.size:=by have:=HB2.out.size;simp at this;omega
   have HFT:Hid (W2.heap[w.heap.size]?=some (.cells #[.int .i64 0,.int .i64 0] 28 (0,0))):=(HB2.out.block _ (by simp)).trans HW1.out.2
   have HBN:Hid (Below w.heap.size w W2):=HW1.out.1.trans (HB2.out.mono HW1.out.1.size)
   have HP:=Lib.hid (par_end (er:=(ea:Int)) (ln:=(eb:Int)) HFT.out HBN.out)
   have HMM:=Lib.hid HM.out
   have gne:¬ w.heap.size=W2.heap.size:=by omega
   have gne2:¬ W2.heap.size=w.heap.size:=by omega
   have HU:Hid (w.heap.size<((W2.setCell ⟨w.heap.size,0,none⟩ (.int .i64 (ea:Int))).setCell ⟨w.heap.size,1,none⟩ (.int .i64 (eb:Int))).heap.size):=by have:=HP.out.2.2.1.size;show _<_;simp[World.setCell];exact gl
   clear HQ hbel HW1 HWBE HERE HM HE HKK HB2
   have f0:=box_cell HFT.out 0 (.int .i64 0) rfl
   have f1:=box_cell HFT.out 1 (.int .i64 0) rfl
   have ff0:=box_fz HFT.out 0
   have ff1:=box_fz HFT.out 1
   go_wp2_with fail
   go_region_law (fail)
   all_goals
    go_wp2_with fail
    generalize ((W2.setCell ⟨w.heap.size,0,none⟩ (.int .i64 (ea:Int))).setCell ⟨w.heap.size,1,none⟩ (.int .i64 (eb:Int)))=U at*
    have z0:=((new_below U (.cells #[.int .i64 (ea:Int),.int .i64 (eb:Int)] 28)).cell (p:=⟨w.heap.size,0,none⟩) HU.out).trans HP.out.1
    have z1:=((new_below U (.cells #[.int .i64 (ea:Int),.int .i64 (eb:Int)] 28)).cell (p:=⟨w.heap.size,1,none⟩) HU.out).trans HP.out.2.1
    have HBF:Hid (Below w.heap.size w (U.alloc (.cells #[.int .i64 (ea:Int),.int .i64 (eb:Int)] 28)).drew):=(HP.out.2.2.1.trans ((new_below U _).mono HP.out.2.2.1.size)).drew
    exact bodyPost_ret (v:=.tuple #[.slice none 0 0,.agg #[.int .i64 (ea:Int),.int .i64 (eb:Int)]]) (by simp[results,Tryz.results8,go_sem,z0,z1]) rfl ⟨⟨none,0,0⟩,ea,eb,rfl,HBF.out,by
     rw[HMM.out]
     exact ⟨rfl,rfl,rfl⟩⟩
  |ok es=>
   obtain ⟨ha,hb,how,hbel⟩:ea=0/\eb=0/\OwE (w.alloc (.cells #[.int .i64 0,.int .i64 0] 28)).heap.size W2 v es/\Below (w.alloc (.cells #[.int .i64 0,.int .i64 0] 28)).heap.size (w.alloc (.cells #[.int .i64 0,.int .i64 0] 28)) W2:=HQ.out
   subst ha
   subst hb
   obtain ⟨xa,xc,rfl,hrd,hc1,hc2⟩:=how.rd
   have HRD:=Lib.hid hrd
   have HB2:=Lib.hid hbel
   have HBN:Hid (Below w.heap.size w W2):=HW1.out.1.trans (HB2.out.mono HW1.out.1.size)
   have HBB:Hid (Below w.heap.size w (W2.alloc (.cells #[.int .i64 0,.int .i64 0] 28))):=HBN.out.trans ((new_below W2 _).mono HBN.out.size)
   have HFT:Hid ((W2.alloc (.cells #[.int .i64 0,.int .i64 0] 28)).heap[w.heap.size]?=some (.cells #[.int .i64 0,.int .i64 0] 28 (0,0))):=by
    have h1:w.heap.size<W2.heap.size:=by have:=HB2.out.size;simp at this;omega
    exact ((new_below W2 _).block _ h1).trans ((HB2.out.block _ (by simp)).trans HW1.out.2)
   have HMM:Hid (R=allF es (cy0 og) []):=HM.out
   have KA:=Lib.hid (readall_any ⟨xa,es.length,xc⟩ es ⟨⟨oa,on,oc⟩,⟨none,0,0⟩⟩ (cy0 og) (W2.alloc (.cells #[.int .i64 0,.int .i64 0] 28)) (HRD.out.below (new_below W2 _)) rfl hc1 hc2 (HWBE.out es rfl) ⟨(HE.out _ HBB.out).2.2,nm_nil _ _,HKK.out⟩ nck_nil6 (HE.out _ HBB.out).2.1 (HE.out _ HBB.out).1)
   rw[<- HMM.out] at KA
   clear HQ how hbel hrd HM HE HWBE HERE HRD HB2 HW1 HKK HMM
   go_wp2_with fail
   refine KA.out.mono ?_
   rintro r W3 ⟨s',er,ln,rfl,HB3,HQ3⟩
   have HFT3:Hid (W3.heap[w.heap.size]?=some (.cells #[.int .i64 0,.int .i64 0] 28 (0,0))):=(HB3.out.block _ (Array.getElem?_eq_some_iff.1 HFT.out).1).trans HFT.out
   have HBN3:Hid (Below w.heap.size w W3):=HBB.out.trans (HB3.out.mono HBB.out.size)
   have HP:=Lib.hid (par_end (er:=er) (ln:=ln) HFT3.out HBN3.out)
   have HBZ:Hid (w.heap.size<(W2.alloc (.cells #[.int .i64 0,.int .i64 0] 28)).heap.size):=(Array.getElem?_eq_some_iff.1 HFT.out).1
   have f0:=box_cell HFT3.out 0 (.int .i64 0) rfl
   have f1:=box_cell HFT3.out 1 (.int .i64 0) rfl
   have ff0:=box_fz HFT3.out 0
   have ff1:=box_fz HFT3.out 1
   have fl:=(Array.getElem?_eq_some_iff.1 HFT3.out).1
   clear KA HB3 HFT HBB HBN
   go_wp2_with fail
   generalize ((W3.setCell ⟨w.heap.size,0,none⟩ (.int .i64 er)).setCell ⟨w.heap.size,1,none⟩ (.int .i64 ln))=U at*
   have z0:=HP.out.1
   have z1:=HP.out.2.1
   exact bodyPost_ret (v:=.tuple #[.slice s'.a s'.n s'.c,.agg #[.int .i64 er,.int .i64 ln]]) (by simp[results,Tryz.results8,go_sem,z0,z1]) rfl ⟨s',er,ln,rfl,HP.out.2.2.1,by
    cases R with
    |er e1 l1=>exact HQ3.out
    |ok rs=>exact ⟨HQ3.out.1,HQ3.out.2.1,HP.out.2.2.2 _ _ _ HBZ.out HQ3.out.2.2.1,HQ3.out.2.2.2⟩⟩
 ·have hk2:(nck og != 0)=true:=by simpa using hk
  have HM:Hid (mstF t og=.er (nck og) 0):=by
   show _=_
   unfold mstF
   rw[if_neg hk]
  rw[HM.out]
  generalize nck og=q at*
  have HB0:Hid (∀o:Obj,Below w.heap.size w (w.alloc o)):=fun o=>new_below w o
  clear HW1 hk HM HE
  go_enter Tryz.func8,Tryz.ntmps8
  go_wp2_with fail
  refine KN1.out.mono ?_
  rintro r w1 ⟨rfl,rfl⟩
  go_wp2_with fail
  exact bodyPost_ret (v:=.tuple #[.slice none 0 0,.agg #[.int .i64 q,.int .i64 0]]) (by simp[results,Tryz.results8,go_sem]) rfl ⟨⟨none,0,0⟩,q,0,rfl,HB0.out _,⟨rfl,rfl,rfl⟩⟩
theorem alloc_at(w:World)(o:Obj):(w.alloc o).heap[w.heap.size]?=some o:=by
 show (w.heap.push o)[w.heap.size]?=some o
 simp
theorem block_lt{W:World}{b:Nat}{o:Obj}(h:W.heap[b]?=some o):b<W.heap.size:=by
 rcases Nat.lt_or_ge b W.heap.size with h1|h1
 ·exact h1
 ·rw[Array.getElem?_eq_none h1] at h;cases h
theorem block_alloc{W:World}{b:Nat}{o:Obj}(h:W.heap[b]?=some o)(x:Obj):(W.alloc x).heap[b]?=some o:=(Below.heap_alloc W x b (block_lt h)).trans h
theorem cell_of_block{W:World}{D i:Nat}{cs:Array Value}{ty:TypeId}{v:Value}(hD:W.heap[D]?=some (.cells cs ty))(hv:cs[i]?=some v):W.cell? ⟨D,i,none⟩=some v:=by
 simp[World.cell?,hD,hv]
def Sames(f:Nat)(w:World)(x y:Value):Prop:=∀W,Below w.heap.size w W->Calls Tryz.prog f #[x,y] W fun e w'=>e=.returned (.bool true)/\Below W.heap.size W w'
theorem samer26(x y:RA)(r:Rec)(w:World)(h1:RRd w x r)(h2:RRd w y r) :
  Calls Tryz.prog 26 #[.agg (recCells x r).toArray,.agg (recCells y r).toArray] w fun e w'=>e=.returned (.bool true)/\Below w.heap.size w w':=by
 have KD:∀W,Below w.heap.size w W->Hid (Calls Tryz.prog 47 #[.agg #[.slice x.d.p1.a x.d.p1.n x.d.p1.c,.slice x.d.p2.a x.d.p2.n x.d.p2.c,.slice x.d.p3.a x.d.p3.n x.d.p3.c,.slice x.d.p4.a x.d.p4.n x.d.p4.c],.agg #[.slice y.d.p1.a y.d.p1.n y.d.p1.c,.slice y.d.p2.a y.d.p2.n y.d.p2.c,.slice y.d.p3.a y.d.p3.n y.d.p3.c,.slice y.d.p4.a y.d.p4.n y.d.p4.c]] W fun e w'=>e=.returned (.bool true)/\Hid (Below W.heap.size W w')):=fun W hb=>samedata_yes x.d y.d r.d W (h1.2.below hb) (h2.2.below hb)
 have hnn:x.o.n=y.o.n:=h1.1.len.symm.trans h2.1.len
 have KN:∀W,Below w.heap.size w W->Hid (Calls Tryz.prog 46 #[.slice x.o.a x.o.n x.o.c,.slice y.o.a x.o.n y.o.c] W fun e w'=>e=.returned (.bool true)/\Hid (Below W.heap.size W w')):=fun W hb=>sameN_yes x.o.a y.o.a x.o.n x.o.c y.o.c r.ow W (h1.1.rd.below hb) (h2.1.rd.below hb) h1.1.len (Nat.le_trans h1.1.cap.1 h1.1.cap.2)
 clear h1 h2
 obtain ⟨⟨xa,xn,xc⟩,⟨⟨xa1,xn1,xc1⟩,⟨xa2,xn2,xc2⟩,⟨xa3,xn3,xc3⟩,⟨xa4,xn4,xc4⟩⟩⟩:=x
 obtain ⟨⟨ya,yn,yc⟩,⟨⟨ya1,yn1,yc1⟩,⟨ya2,yn2,yc2⟩,⟨ya3,yn3,yc3⟩,⟨ya4,yn4,yc4⟩⟩⟩:=y
 obtain ⟨ow,t,cl,tt,d⟩:=r
 simp only at KD KN hnn
 subst hnn
 show Calls Tryz.prog 26 #[.agg #[.slice xa xn xc,.int .u16 (t:Int),.int .u16 (cl:Int),.int .u32 (tt:Int),.slice xa1 xn1 xc1,.slice xa2 xn2 xc2,.slice xa3 xn3 xc3,.slice xa4 xn4 xc4],.agg #[.slice ya xn yc,.int .u16 (t:Int),.int .u16 (cl:Int),.int .u32 (tt:Int),.slice ya1 yn1 yc1,.slice ya2 yn2 yc2,.slice ya3 yn3 yc3,.slice ya4 yn4 yc4]] w fun e w'=>e=.returned (.bool true)/\Below w.heap.size w w'
 go_enter Tryz.func26,Tryz.ntmps26
 go_wp2_with fail
 refine (KN _ (((Below.refl _ _).alloc (Nat.le_refl _) _).alloc (by simp) _)).out.mono ?_
 rintro e w2 ⟨rfl,hb2'⟩
 have hb2:=hb2'.out
 have HB2:Hid (Below w.heap.size w w2/\w2.heap[w.heap.size]?=some (.cells #[.slice xa xn xc,.int .u16 (t:Int),.int .u16 (cl:Int),.int .u32 (tt:Int),.slice xa1 xn1 xc1,.slice xa2 xn2 xc2,.slice xa3 xn3 xc3,.slice xa4 xn4 xc4] 50)/\w2.heap[w.heap.size+1]?=some (.cells #[.slice ya xn yc,.int .u16 (t:Int),.int .u16 (cl:Int),.int .u32 (tt:Int),.slice ya1 yn1 yc1,.slice ya2 yn2 yc2,.slice ya3 yn3 yc3,.slice ya4 yn4 yc4] 50)):=by
  refine ⟨(((Below.refl _ _).alloc (Nat.le_refl _) _).alloc (by simp) _).trans (hb2.mono (by simp;omega)),(hb2.block _ (by simp;omega)).trans (block_alloc (alloc_at _ _) _),(hb2.block _ (by simp)).trans ?_⟩
  have:=alloc_at (w.alloc (.cells #[.slice xa xn xc,.int .u16 (t:Int),.int .u16 (cl:Int),.int .u32 (tt:Int),.slice xa1 xn1 xc1,.slice xa2 xn2 xc2,.slice xa3 xn3 xc3,.slice xa4 xn4 xc4] 50)) (.cells #[.slice ya xn yc,.int .u16 (t:Int),.int .u16 (cl:Int),.int .u32 (tt:Int),.slice ya1 yn1 yc1,.slice ya2 yn2 yc2,.slice ya3 yn3 yc3,.slice ya4 yn4 yc4] 50)
  simp only[World.size_alloc] at this
  exact this
 clear hb2 hb2' KN
 have p0:=block_lt HB2.out.2.1
 have p1:=block_lt HB2.out.2.2
 have u0:w2.cell? ⟨w.heap.size,0,none⟩=some (.slice xa xn xc):=cell_of_block HB2.out.2.1 rfl
 have u1:w2.cell? ⟨w.heap.size,1,none⟩=some (.int .u16 (t:Int)):=cell_of_block HB2.out.2.1 rfl
 have u2:w2.cell? ⟨w.heap.size,2,none⟩=some (.int .u16 (cl:Int)):=cell_of_block HB2.out.2.1 rfl
 have u3:w2.cell? ⟨w.heap.size,3,none⟩=some (.int .u32 (tt:Int)):=cell_of_block HB2.out.2.1 rfl
 have u4:w2.cell? ⟨w.heap.size,4,none⟩=some (.slice xa1 xn1 xc1):=cell_of_block HB2.out.2.1 rfl
 have u5:w2.cell? ⟨w.heap.size,5,none⟩=some (.slice xa2 xn2 xc2):=cell_of_block HB2.out.2.1 rfl
 have u6:w2.cell? ⟨w.heap.size,6,none⟩=some (.slice xa3 xn3 xc3):=cell_of_block HB2.out.2.1 rfl
 have u7:w2.cell? ⟨w.heap.size,7,none⟩=some (.slice xa4 xn4 xc4):=cell_of_block HB2.out.2.1 rfl
 have v0:w2.cell? ⟨w.heap.size+1,0,none⟩=some (.slice ya xn yc):=cell_of_block HB2.out.2.2 rfl
 have v1:w2.cell? ⟨w.heap.size+1,1,none⟩=some (.int .u16 (t:Int)):=cell_of_block HB2.out.2.2 rfl
 have v2:w2.cell? ⟨w.heap.size+1,2,none⟩=some (.int .u16 (cl:Int)):=cell_of_block HB2.out.2.2 rfl
 have v3:w2.cell? ⟨w.heap.size+1,3,none⟩=some (.int .u32 (tt:Int)):=cell_of_block HB2.out.2.2 rfl
 have v4:w2.cell? ⟨w.heap.size+1,4,none⟩=some (.slice ya1 yn1 yc1):=cell_of_block HB2.out.2.2 rfl
 have v5:w2.cell? ⟨w.heap.size+1,5,none⟩=some (.slice ya2 yn2 yc2):=cell_of_block HB2.out.2.2 rfl
 have v6:w2.cell? ⟨w.heap.size+1,6,none⟩=some (.slice ya3 yn3 yc3):=cell_of_block HB2.out.2.2 rfl
 have v7:w2.cell? ⟨w.heap.size+1,7,none⟩=some (.slice ya4 yn4 yc4):=cell_of_block HB2.out.2.2 rfl
 go_wp2_with fail
 refine (KD _ HB2.out.1).out.mono ?_
 rintro e w3 ⟨rfl,hb3⟩
 go_wp2
 go_ret
 exact ⟨rfl,HB2.out.1.trans (hb3.out.mono HB2.out.1.size)⟩
theorem sames11(a b:Option Addr)(n c d:Nat)(rs:List Rec)(w:World)(h1:RdR w a rs)(h2:RdR w b rs)(hl:rs.length=n)(hn:n<=9223372036854775807):Sames 11 w (.slice a n c) (.slice b n d):=by
 intro W hW
 have HX:Hid (RdR W a rs):=h1.below hW
 have HY:Hid (RdR W b rs):=h2.below hW
 have HLs:Hid (rs.length=n):=hl
 clear h1 h2 hW hl
 go_enter Tryz.func11,Tryz.ntmps11
 go_wp2_with fail
 go_loopw [5] (fun y wr=>∃k:Nat,k<=n/\y=.int .i64 (k:Int)/\Hid (Below W.heap.size W wr)) (fun y _=>n - (intOf y).toNat)
 case atStart=>exact ⟨0,by omega,rfl,Below.refl _ _⟩
 case round=>
  obtain ⟨k,hk,rfl,HB⟩:=hrel
  by_cases hlt:k<n
  ·have hlt':(k:Int)<(n:Int):=by omega
   have hks:k<rs.length:=by rw[HLs.out];exact hlt
   obtain ⟨b1,o1,rfl,q1,x,rx,ok1⟩:=(HX.out.below HB.out).at k hks
   obtain ⟨b2,o2,rfl,q2,y,ry,ok2⟩:=(HY.out.below HB.out).at k hks
   obtain ⟨r,hr⟩:∃r,r=rs[k]:=⟨_,rfl⟩
   rw[<- hr] at rx ry ok1 ok2
   have KL:∀V,Below wr.heap.size wr V->Hid (Calls Tryz.prog 26 #[.agg (recCells x r).toArray,.agg (recCells y r).toArray] V fun e w'=>e=.returned (.bool true)/\Below V.heap.size V w'):=fun V hb=>samer26 x y r V (ok1.below hb) (ok2.below hb)
   clear hr ok1 ok2
   obtain ⟨⟨xa,xn,xc⟩,⟨⟨xa1,xn1,xc1⟩,⟨xa2,xn2,xc2⟩,⟨xa3,xn3,xc3⟩,⟨xa4,xn4,xc4⟩⟩⟩:=x
   obtain ⟨⟨ya,yn,yc⟩,⟨⟨ya1,yn1,yc1⟩,⟨ya2,yn2,yc2⟩,⟨ya3,yn3,yc3⟩,⟨ya4,yn4,yc4⟩⟩⟩:=y
   obtain ⟨ow,t,cl,tt,dd⟩:=r
   have KL':∀V,Below wr.heap.size wr V->Hid (Calls Tryz.prog 26 #[.agg #[.slice xa xn xc,.int .u16 (t:Int),.int .u16 (cl:Int),.int .u32 (tt:Int),.slice xa1 xn1 xc1,.slice xa2 xn2 xc2,.slice xa3 xn3 xc3,.slice xa4 xn4 xc4],.agg #[.slice ya yn yc,.int .u16 (t:Int),.int .u16 (cl:Int),.int .u32 (tt:Int),.slice ya1 yn1 yc1,.slice ya2 yn2 yc2,.slice ya3 yn3 yc3,.slice ya4 yn4 yc4]] V fun e w'=>e=.returned (.bool true)/\Below V.heap.size V w'):=KL
   have KS:∀V,Below wr.heap.size wr V->V.cell? ⟨b1,o1+k*8,none⟩=some (.slice xa xn xc)/\V.cell? ⟨b1,o1+k*8+1,none⟩=some (.int .u16 (t:Int))/\V.cell? ⟨b1,o1+k*8+2,none⟩=some (.int .u16 (cl:Int))/\V.cell? ⟨b1,o1+k*8+3,none⟩=some (.int .u32 (tt:Int))/\V.cell? ⟨b1,o1+k*8+4,none⟩=some (.slice xa1 xn1 xc1)/\V.cell? ⟨b1,o1+k*8+5,none⟩=some (.slice xa2 xn2 xc2)/\V.cell? ⟨b1,o1+k*8+6,none⟩=some (.slice xa3 xn3 xc3)/\V.cell? ⟨b1,o1+k*8+7,none⟩=some (.slice xa4 xn4 xc4)/\V.cell? ⟨b2,o2+k*8,none⟩=some (.slice ya yn yc)/\V.cell? ⟨b2,o2+k*8+1,none⟩=some (.int .u16 (t:Int))/\V.cell? ⟨b2,o2+k*8+2,none⟩=some (.int .u16 (cl:Int))/\V.cell? ⟨b2,o2+k*8+3,none⟩=some (.int .u32 (tt:Int))/\V.cell? ⟨b2,o2+k*8+4,none⟩=some (.slice ya1 yn1 yc1)/\V.cell? ⟨b2,o2+k*8+5,none⟩=some (.slice ya2 yn2 yc2)/\V.cell? ⟨b2,o2+k*8+6,none⟩=some (.slice ya3 yn3 yc3)/\V.cell? ⟨b2,o2+k*8+7,none⟩=some (.slice ya4 yn4 yc4):=fun V hb=>⟨(hb.cell (p:=⟨_,_,none⟩) q1).trans (rx 0 (by omega)),(hb.cell (p:=⟨_,_,none⟩) q1).trans (rx 1 (by omega)),(hb.cell (p:=⟨_,_,none⟩) q1).trans (rx 2 (by omega)),(hb.cell (p:=⟨_,_,none⟩) q1).trans (rx 3 (by omega)),(hb.cell (p:=⟨_,_,none⟩) q1).trans (rx 4 (by omega)),(hb.cell (p:=⟨_,_,none⟩) q1).trans (rx 5 (by omega)),(hb.cell (p:=⟨_,_,none⟩) q1).trans (rx 6 (by omega)),(hb.cell (p:=⟨_,_,none⟩) q1).trans (rx 7 (by omega)),(hb.cell (p:=⟨_,_,none⟩) q2).trans (ry 0 (by omega)),(hb.cell (p:=⟨_,_,none⟩) q2).trans (ry 1 (by omega)),(hb.cell (p:=⟨_,_,none⟩) q2).trans (ry 2 (by omega)),(hb.cell (p:=⟨_,_,none⟩) q2).trans (ry 3 (by omega)),(hb.cell (p:=⟨_,_,none⟩) q2).trans (ry 4 (by omega)),(hb.cell (p:=⟨_,_,none⟩) q2).trans (ry 5 (by omega)),(hb.cell (p:=⟨_,_,none⟩) q2).trans (ry 6 (by omega)),(hb.cell (p:=⟨_,_,none⟩) q2).trans (ry 7 (by omega))⟩
   clear KL rx ry
   go_wp2_with fail
   go_region_held3 (fun V=>V.cell? ⟨b1,o1+k*8,none⟩=some (.slice xa xn xc)/\V.cell? ⟨b1,o1+k*8+1,none⟩=some (.int .u16 (t:Int))/\V.cell? ⟨b1,o1+k*8+2,none⟩=some (.int .u16 (cl:Int))/\V.cell? ⟨b1,o1+k*8+3,none⟩=some (.int .u32 (tt:Int))/\V.cell? ⟨b1,o1+k*8+4,none⟩=some (.slice xa1 xn1 xc1)/\V.cell? ⟨b1,o1+k*8+5,none⟩=some (.slice xa2 xn2 xc2)/\V.cell? ⟨b1,o1+k*8+6,none⟩=some (.slice xa3 xn3 xc3)/\V.cell? ⟨b1,o1+k*8+7,none⟩=some (.slice xa4 xn4 xc4)/\V.cell? ⟨b2,o2+k*8,none⟩=some (.slice ya yn yc)/\V.cell? ⟨b2,o2+k*8+1,none⟩=some (.int .u16 (t:Int))/\V.cell? ⟨b2,o2+k*8+2,none⟩=some (.int .u16 (cl:Int))/\V.cell? ⟨b2,o2+k*8+3,none⟩=some (.int .u32 (tt:Int))/\V.cell? ⟨b2,o2+k*8+4,none⟩=some (.slice ya1 yn1 yc1)/\V.cell? ⟨b2,o2+k*8+5,none⟩=some (.slice ya2 yn2 yc2)/\V.cell? ⟨b2,o2+k*8+6,none⟩=some (.slice ya3 yn3 yc3)/\V.cell? ⟨b2,o2+k*8+7,none⟩=some (.slice ya4 yn4 yc4)) (first|exact KS _ HBw8.out|exact KS _ (Below.refl wr.heap.size wr).drew|exact KS _ (Below.refl wr.heap.size wr)|exact KS _ HBw8.out.drew) (first
    |(go_at_call 26;refine Calls.mono (KL' _ ?hb).out ?_;(case hb=>first|exact (Below.refl wr.heap.size wr).drew|exact Below.refl wr.heap.size wr);rintro e w8 ⟨rfl,Hw8⟩;have HBw8:Hid (Below wr.heap.size wr w8):=by first|exact (Below.refl wr.heap.size wr).drew.trans Hw8|exact Hw8)
    |fail)
   all_goals go_wp2
   all_goals exact ⟨⟨k+1,by omega,by go_num,HB.out.trans (HBw8.out.mono HB.out.size)⟩,by simp[intOf];omega⟩
  ·obtain rfl:k=n:=by omega
   go_wp2
   go_ret
   exact ⟨rfl,HB.out⟩
def nmX:List ByteArray:=[⟨#[98]⟩]
def nmXX:List ByteArray:=[⟨#[97]⟩,⟨#[98]⟩]
def adrR(own:List ByteArray)(tt:Nat)(z:Int):Rec:=⟨own,1,1,tt,⟨[],[],[],[1,2,3,z]⟩⟩
set_option maxRecDepth 100000
theorem ex_a1:mstF ⟨#[97,32,54,48,32,73,78,32,65,32,49,46,50,46,51,46,52]⟩ nmX=.ok [adrR nmXX 60 4]:=by kernel_rfl
theorem ex_a2:mstF ⟨#[97,32,73,78,32,54,48,32,65,32,49,46,50,46,51,46,52,10,32,65,32,49,46,50,46,51,46,53]⟩ nmX=.ok [adrR nmXX 60 4,adrR nmXX 60 5]:=by kernel_rfl
theorem fpart0(a b:Int)(w:World):(Go.part 26 #[.int .i64 a,.int .i64 b] 0).run Tryz.prog w=.ok (.int .i64 a) w:=by kernel_rfl
theorem fpart1(a b:Int)(w:World):(Go.part 3 #[.int .i64 a,.int .i64 b] 1).run Tryz.prog w=.ok (.int .i64 b) w:=by kernel_rfl
theorem flds28 : ∃ a b, (Tryz.prog.fieldsOf 28).toList = [a, b] /\ a.name ≠ "_" /\ b.name ≠ "_" /\ a.type = 26 /\ b.type = 3 /\ a.offset = 0 /\ b.offset = 1 := by
  have h : (Tryz.prog.fieldsOf 28).toList.map (fun f => (f.name == "_", f.type, f.offset)) = [(false, 26, 0), (false, 3, 1)] := by kernel_rfl
  match hl : (Tryz.prog.fieldsOf 28).toList, h with
  | [], h => simp at h
  | [a], h => simp at h
  | [a, b], h =>
    simp at h
    exact ⟨a, b, rfl, h.1.1, h.2.1, h.1.2.1, h.2.2.1, h.1.2.2, h.2.2.2⟩
  | a :: b :: c :: r, h => simp at h
theorem eqF28(a b c d:Int)(w:World):(Op.equalIn 10000 28 (.agg #[.int .i64 a,.int .i64 b]) (.agg #[.int .i64 c,.int .i64 d])).run Tryz.prog w=.ok (decide (a=c/\b=d)) w:=by
 rw[show (10000:Nat)=9999+1 from rfl,run_equalIn_struct w 9999 28 _ _ (by kernel_rfl) (by kernel_rfl)]
 obtain ⟨p,q,e,n1,n2,t1,t2,o1,o2⟩:=flds28
 rw[e]
 simp only[Op.eqFields,n1,n2,ne_eq,not_false_eq_true,if_true,t1,t2,o1,o2,Sem.run_bind,fpart0,fpart1,Result.andThen_ok,show (9999:Nat)=9998+1 from rfl,run_equalIn_int _ 9998 26 .i64 .i64 _ _ Tryz.underlying26,run_equalIn_int _ 9998 3 .i64 .i64 _ _ Tryz.underlying3]
 by_cases h1:a=c
 ·by_cases h2:b=d
  ·simp[h1,h2,fpart1,show (9999:Nat)=9998+1 from rfl,run_equalIn_int _ 9998 3 .i64 .i64 _ _ Tryz.underlying3]
  ·simp[h1,h2,fpart1,show (9999:Nat)=9998+1 from rfl,run_equalIn_int _ 9998 3 .i64 .i64 _ _ Tryz.underlying3]
 ·simp[h1]
theorem eqlF28(a b c d:Int)(w:World):(binOp .eql 28 (.agg #[.int .i64 a,.int .i64 b]) (.agg #[.int .i64 c,.int .i64 d])).run Tryz.prog w=.ok (.bool (decide (a=c/\b=d))) w:=by
 rw[run_eql_struct,eqF28];rfl
theorem nm_new(w:World)(ss:List ByteArray)(n:Nat)(hn:ss.length=n)(hz:nsz ss<=1000000000000):Nm (w.alloc (.cells (tv ss).toArray 9)) (some ⟨w.heap.size,0,none⟩) n ss:=⟨rdv_new w (tv ss) 9,hn,hz⟩
structure LRd(w:World)(x:Sl)(rs:List Rec):Prop where
 rd:RdR w x.a rs
 len:rs.length=x.n
 n63:x.n<=9223372036854775807
theorem LRd.below{w w':World}{x:Sl}{rs:List Rec}(h:LRd w x rs)(hb:Below w.heap.size w w'):LRd w' x rs:=⟨h.rd.below hb,h.len,h.n63⟩
theorem OwR.lrd{B:Nat}{w:World}{x:Sl}{rs:List Rec}(h:OwR B w (.slice x.a x.n x.c) rs):LRd w x rs:=by
 obtain ⟨a,c,e,h1,h2,h3,h4⟩:=h.rd
 obtain ⟨xa,xn,xc⟩:=x
 cases e
 exact ⟨h1,rfl,by show rs.length<=_;have h2':rs.length<=xc:=h2;have h3':xc<=9223372036854775807:=h3;omega⟩
theorem same_lrd{w:World}{x y:Sl}{rs:List Rec}(h1:LRd w x rs)(h2:LRd w y rs):Sames 11 w (.slice x.a x.n x.c) (.slice y.a y.n y.c):=by
 have h:=sames11 x.a y.a x.n x.c y.c rs w h1.rd h2.rd h1.len h1.n63
 rw[show y.n=x.n by rw[<- h1.len,<- h2.len]]
 exact h
theorem lrd_new(w:World)(ps:List (RA × Rec))(n:Nat)(hn:ps.length=n)(hm:n<=9223372036854775807)(h:∀p∈ps,RRd w p.1 p.2):LRd (w.alloc (.cells (cellsR ps).toArray 50)) ⟨some ⟨w.heap.size,0,none⟩,n,n⟩ (ps.map (·.2)):=by
 refine ⟨?_,by simpa using hn,hm⟩
 by_cases h0:ps.map (·.2)=[]
 ·exact .inl h0
 refine .inr ⟨w.heap.size,0,rfl,by simp,fun i hi=>?_⟩
 have hi':i<ps.length:=by simpa using hi
 refine ⟨ps[i].1,fun j hj=>?_,?_⟩
 ·have e1:=cellsR_at ps i hi' j hj
  rw[List.getElem_map,Nat.zero_add]
  unfold World.cell?
  rw[alloc_at]
  simpa using e1
 ·rw[List.getElem_map]
  exact (h ps[i] (List.getElem_mem _)).below (new_below _ _)
theorem reads15(s:ByteArray)(x:Sl)(rs:List Rec)(w:World)(h:LRd w x rs)(he:mstF s nmX=.ok rs)(hE:LayE w)(hL:LayT w) :
  Calls Tryz.prog 15 #[.string s,.slice x.a x.n x.c] w fun e w'=>e=.returned (.bool true)/\Hid (Below w.heap.size w w'):=by
 have HR:Hid (LRd w x rs):=h
 have HB0:Hid (Below w.heap.size w (w.alloc (.cells #[.string ⟨#[98]⟩] 9))):=new_below _ _
 have K8:Hid (Calls Tryz.prog 8 #[.string s,.slice (some ⟨w.heap.size,0,none⟩) 1 1] (w.alloc (.cells #[.string ⟨#[98]⟩] 9)) (AlP (.ok rs) (w.alloc (.cells #[.string ⟨#[98]⟩] 9)))):=(by
  have:=parse_any8 s (some ⟨w.heap.size,0,none⟩) 1 1 nmX (w.alloc (.cells #[.string ⟨#[98]⟩] 9)) (nm_new w nmX 1 rfl (by decide)) (hE.below HB0.out) (hL.below HB0.out)
  rw[he] at this
  exact this)
 clear h he hE hL
 obtain ⟨xa,n,xc⟩:=x
 have hq:∀W,(binOp .eql 28 (.agg #[.int .i64 0,.int .i64 0]) (.agg #[.int .i64 0,.int .i64 0])).run Tryz.prog W=.ok (.bool true) W:=fun W=>by rw[eqlF28];rfl
 simp only
 go_enter Tryz.func15,Tryz.ntmps15
 go_wp2_with fail
 refine K8.out.mono ?_
 rintro e w1 ⟨y,er,ln,rfl,HB1,HQ⟩
 obtain ⟨rfl,rfl,how,hlen⟩:=HQ.out
 have HB2:Hid (Below w.heap.size w (w1.alloc (.cells #[.int .i64 0,.int .i64 0] 28))):=HB0.out.trans ((HB1.out.trans ((new_below _ _).mono HB1.out.size)).mono HB0.out.size)
 have K11:Hid (Sames 11 (w1.alloc (.cells #[.int .i64 0,.int .i64 0] 28)) (.slice y.a y.n y.c) (.slice xa n xc)):=same_lrd (x:=y) (y:=⟨xa,n,xc⟩) (how.lrd.below (new_below _ _)) (HR.out.below HB2.out)
 clear how hlen HQ HB1 HB0 K8 HR
 go_wp2_with fail
 refine (K11.out _ (Below.refl _ _)).mono ?_
 rintro e w3 ⟨rfl,hb3⟩
 have HB3:Hid (Below w.heap.size w w3):=HB2.out.trans (hb3.mono HB2.out.size)
 clear hb3 HB2 K11
 go_wp2_with fail
 go_ret
 exact ⟨rfl,HB3.out⟩
theorem nrd_nil(w:World):NRd w ⟨none,0,0⟩ []:=⟨.inl rfl,rfl,⟨Nat.le_refl _,by decide⟩,fun _=>rfl⟩
theorem urd_nil(w:World):URd w ⟨none,0,0⟩ []:=⟨.inl rfl,rfl,⟨Nat.le_refl _,by decide⟩,fun _=>rfl,by simp⟩
theorem trd_nil(w:World):TRd w ⟨none,0,0⟩ []:=⟨.inl rfl,rfl,⟨Nat.le_refl _,by decide⟩,fun _=>rfl,by simp⟩
theorem address14(o:Sl)(own:List ByteArray)(tt:Nat)(z:Int)(w:World)(h:TRd w o own)(hz:0<=z/\z<=255) :
  Calls Tryz.prog 14 #[.slice o.a o.n o.c,.int .u32 (tt:Int),.int .u8 z] w fun e w'=>e=.returned (.agg #[.slice o.a o.n o.c,.int .u16 1,.int .u16 1,.int .u32 (tt:Int),.slice none 0 0,.slice none 0 0,.slice none 0 0,.slice (some ⟨w.heap.size+1,0,none⟩) 4 4])/\Hid (Below w.heap.size w w'/\RRd w' ⟨o,⟨⟨none,0,0⟩,⟨none,0,0⟩,⟨none,0,0⟩,⟨some ⟨w.heap.size+1,0,none⟩,4,4⟩⟩⟩ (adrR own tt z)):=by
 obtain ⟨oa,on,oc⟩:=o
 have HT:Hid (TRd w ⟨oa,on,oc⟩ own):=h
 have HB:Hid (∀A,BRd ((w.alloc A).alloc (.cells #[.int .u8 1,.int .u8 2,.int .u8 3,.int .u8 z] 5)) ⟨some ⟨w.heap.size+1,0,none⟩,4,4⟩ [1,2,3,z]):=fun A=>by
  have:=new_b (w.alloc A) [1,2,3,z] 4 rfl (by omega) (by simp;omega)
  rw[World.size_alloc] at this
  exact this
 have HW:Hid (∀A B,Below w.heap.size w ((w.alloc A).alloc B)):=fun A B=>(new_below w A).trans ((new_below _ B).mono (new_below w A).size)
 have HC:Hid (∀A B,((w.alloc A).alloc B).heap[w.heap.size]?=some A):=fun A B=>block_alloc (alloc_at w A) B
 simp only
 clear h
 go_enter Tryz.func14,Tryz.ntmps14
 go_wp2_with fail
 have hc:=HC.out (.cells #[.slice oa on oc,.int .u16 1,.int .u16 1,.int .u32 (tt:Int),.slice none 0 0,.slice none 0 0,.slice none 0 0,.slice (some ⟨w.heap.size+1,0,none⟩) 4 4] 50) (.cells #[.int .u8 1,.int .u8 2,.int .u8 3,.int .u8 z] 5)
 have hb:=HW.out (.cells #[.slice oa on oc,.int .u16 1,.int .u16 1,.int .u32 (tt:Int),.slice none 0 0,.slice none 0 0,.slice none 0 0,.slice (some ⟨w.heap.size+1,0,none⟩) 4 4] 50) (.cells #[.int .u8 1,.int .u8 2,.int .u8 3,.int .u8 z] 5)
 have hr:=HB.out (.cells #[.slice oa on oc,.int .u16 1,.int .u16 1,.int .u32 (tt:Int),.slice none 0 0,.slice none 0 0,.slice none 0 0,.slice (some ⟨w.heap.size+1,0,none⟩) 4 4] 50)
 generalize ((w.alloc (.cells #[.slice oa on oc,.int .u16 1,.int .u16 1,.int .u32 (tt:Int),.slice none 0 0,.slice none 0 0,.slice none 0 0,.slice (some ⟨w.heap.size+1,0,none⟩) 4 4] 50)).alloc (.cells #[.int .u8 1,.int .u8 2,.int .u8 3,.int .u8 z] 5))=U at*
 have z0:=cell_of_block (i:=0) hc rfl
 have z1:=cell_of_block (i:=1) hc rfl
 have z2:=cell_of_block (i:=2) hc rfl
 have z3:=cell_of_block (i:=3) hc rfl
 have z4:=cell_of_block (i:=4) hc rfl
 have z5:=cell_of_block (i:=5) hc rfl
 have z6:=cell_of_block (i:=6) hc rfl
 have z7:=cell_of_block (i:=7) hc rfl
 exact bodyPost_ret (v:=.agg #[.slice oa on oc,.int .u16 1,.int .u16 1,.int .u32 (tt:Int),.slice none 0 0,.slice none 0 0,.slice none 0 0,.slice (some ⟨w.heap.size+1,0,none⟩) 4 4]) (by simp[results,Tryz.results14,go_sem,z0,z1,z2,z3,z4,z5,z6,z7]) rfl ⟨rfl,hb,HT.out.below hb,nrd_nil _,urd_nil _,trd_nil _,hr⟩
theorem adr_new(W:World)(z:Int)(hz:0<=z/\z<=255):Calls Tryz.prog 14 #[.slice (some ⟨W.heap.size,0,none⟩) 2 2,.int .u32 60,.int .u8 z] (W.alloc (.cells #[.string ⟨#[97]⟩,.string ⟨#[98]⟩] 9)) fun e w'=>e=.returned (.agg #[.slice (some ⟨W.heap.size,0,none⟩) 2 2,.int .u16 1,.int .u16 1,.int .u32 60,.slice none 0 0,.slice none 0 0,.slice none 0 0,.slice (some ⟨W.heap.size+1+1,0,none⟩) 4 4])/\Hid (Below W.heap.size W w'/\RRd w' ⟨⟨some ⟨W.heap.size,0,none⟩,2,2⟩,⟨⟨none,0,0⟩,⟨none,0,0⟩,⟨none,0,0⟩,⟨some ⟨W.heap.size+1+1,0,none⟩,4,4⟩⟩⟩ (adrR nmXX 60 z)):=by
 have h:=address14 ⟨some ⟨W.heap.size,0,none⟩,2,2⟩ nmXX 60 z (W.alloc (.cells #[.string ⟨#[97]⟩,.string ⟨#[98]⟩] 9)) (new_t W nmXX 2 rfl (by omega) (by intro x hx;simp only[nmXX,List.mem_cons,List.not_mem_nil,or_false] at hx;rcases hx with rfl|rfl <;> decide)) hz
 rw[World.size_alloc] at h
 refine h.mono ?_
 rintro e w' ⟨he,hh⟩
 have hb:=new_below W (.cells #[.string ⟨#[97]⟩,.string ⟨#[98]⟩] 9)
 have h2:=hh.out.1
 rw[<- World.size_alloc W (.cells #[.string ⟨#[97]⟩,.string ⟨#[98]⟩] 9)] at h2
 exact ⟨he,hb.trans (h2.mono hb.size),hh.out.2⟩
theorem lrd_one{W:World}{x:RA}{r:Rec}(h:RRd W x r):LRd (W.alloc (.cells (recCells x r).toArray 50)) ⟨some ⟨W.heap.size,0,none⟩,1,1⟩ [r]:=by
 have:=lrd_new W [(x,r)] 1 rfl (by omega) (by intro p hp;rw[List.mem_singleton] at hp;subst hp;exact h)
 simpa [cellsR] using this
theorem lrd_two{W:World}{x y:RA}{r s:Rec}(h:RRd W x r)(h2:RRd W y s):LRd (W.alloc (.cells (recCells x r++recCells y s).toArray 50)) ⟨some ⟨W.heap.size,0,none⟩,2,2⟩ [r,s]:=by
 have:=lrd_new W [(x,r),(y,s)] 2 rfl (by omega) (by intro p hp;simp only[List.mem_cons,List.not_mem_nil,or_false] at hp;rcases hp with rfl|rfl;exact h;exact h2)
 simpa [cellsR] using this
theorem awake7(w:World)(hE:LayE w)(hL:LayT w):Calls Tryz.prog 7 #[] w fun e w'=>e=.returned (.bool true)/\Hid (Below w.heap.size w w'):=by
 have H:Hid (∀W,Below w.heap.size w W->LayT W/\LayE W):=fun W hW=>⟨hL.below hW,hE.below hW⟩
 have KA:Hid (∀W z,0<=z/\z<=255->Calls Tryz.prog 14 #[.slice (some ⟨W.heap.size,0,none⟩) 2 2,.int .u32 60,.int .u8 z] (W.alloc (.cells #[.string ⟨#[97]⟩,.string ⟨#[98]⟩] 9)) fun e w'=>e=.returned (.agg #[.slice (some ⟨W.heap.size,0,none⟩) 2 2,.int .u16 1,.int .u16 1,.int .u32 60,.slice none 0 0,.slice none 0 0,.slice none 0 0,.slice (some ⟨W.heap.size+1+1,0,none⟩) 4 4])/\Hid (Below W.heap.size W w'/\RRd w' ⟨⟨some ⟨W.heap.size,0,none⟩,2,2⟩,⟨⟨none,0,0⟩,⟨none,0,0⟩,⟨none,0,0⟩,⟨some ⟨W.heap.size+1+1,0,none⟩,4,4⟩⟩⟩ (adrR nmXX 60 z))):=adr_new
 clear hE hL
 go_enter Tryz.func7,Tryz.ntmps7
 go_wp2_with fail
 refine (KA.out w 4 (by omega)).mono ?_
 rintro e w1 ⟨rfl,H1⟩
 have B1:Hid (Below w.heap.size w (w1.alloc (.cells #[.slice (some ⟨w.heap.size,0,none⟩) 2 2,.int .u16 1,.int .u16 1,.int .u32 60,.slice none 0 0,.slice none 0 0,.slice none 0 0,.slice (some ⟨w.heap.size+1+1,0,none⟩) 4 4] 50))):=H1.out.1.trans ((new_below _ _).mono H1.out.1.size)
 have K1:Hid (Calls Tryz.prog 15 #[.string ⟨#[97,32,54,48,32,73,78,32,65,32,49,46,50,46,51,46,52]⟩,.slice (some ⟨w1.heap.size,0,none⟩) 1 1] (w1.alloc (.cells #[.slice (some ⟨w.heap.size,0,none⟩) 2 2,.int .u16 1,.int .u16 1,.int .u32 60,.slice none 0 0,.slice none 0 0,.slice none 0 0,.slice (some ⟨w.heap.size+1+1,0,none⟩) 4 4] 50)) fun e w'=>e=.returned (.bool true)/\Hid (Below (w1.alloc (.cells #[.slice (some ⟨w.heap.size,0,none⟩) 2 2,.int .u16 1,.int .u16 1,.int .u32 60,.slice none 0 0,.slice none 0 0,.slice none 0 0,.slice (some ⟨w.heap.size+1+1,0,none⟩) 4 4] 50)).heap.size (w1.alloc (.cells #[.slice (some ⟨w.heap.size,0,none⟩) 2 2,.int .u16 1,.int .u16 1,.int .u32 60,.slice none 0 0,.slice none 0 0,.slice none 0 0,.slice (some ⟨w.heap.size+1+1,0,none⟩) 4 4] 50)) w')):=reads15 _ ⟨some ⟨w1.heap.size,0,none⟩,1,1⟩ [adrR nmXX 60 4] (w1.alloc (.cells #[.slice (some ⟨w.heap.size,0,none⟩) 2 2,.int .u16 1,.int .u16 1,.int .u32 60,.slice none 0 0,.slice none 0 0,.slice none 0 0,.slice (some ⟨w.heap.size+1+1,0,none⟩) 4 4] 50)) (lrd_one H1.out.2) ex_a1 (H.out _ B1.out).2 (H.out _ B1.out).1
 clear H1
 go_wp2_with fail
 refine K1.out.mono ?_
 rintro e w2 ⟨rfl,H2⟩
 have B2:Hid (Below w.heap.size w w2):=B1.out.trans (H2.out.mono B1.out.size)
 clear H2 B1 K1
 go_wp2_with fail
 refine (KA.out w2 4 (by omega)).mono ?_
 rintro e w3 ⟨rfl,H3⟩
 go_wp2_with fail
 refine (KA.out w3 5 (by omega)).mono ?_
 rintro e w4 ⟨rfl,H4⟩
 have B4:Hid (Below w.heap.size w w4):=B2.out.trans ((H3.out.1.trans (H4.out.1.mono H3.out.1.size)).mono B2.out.size)
 have B5:Hid (Below w.heap.size w (w4.alloc (.cells #[.slice (some ⟨w2.heap.size,0,none⟩) 2 2,.int .u16 1,.int .u16 1,.int .u32 60,.slice none 0 0,.slice none 0 0,.slice none 0 0,.slice (some ⟨w2.heap.size+1+1,0,none⟩) 4 4,.slice (some ⟨w3.heap.size,0,none⟩) 2 2,.int .u16 1,.int .u16 1,.int .u32 60,.slice none 0 0,.slice none 0 0,.slice none 0 0,.slice (some ⟨w3.heap.size+1+1,0,none⟩) 4 4] 50))):=B4.out.trans ((new_below _ _).mono B4.out.size)
 have K2:Hid (Calls Tryz.prog 15 #[.string ⟨#[97,32,73,78,32,54,48,32,65,32,49,46,50,46,51,46,52,10,32,65,32,49,46,50,46,51,46,53]⟩,.slice (some ⟨w4.heap.size,0,none⟩) 2 2] (w4.alloc (.cells #[.slice (some ⟨w2.heap.size,0,none⟩) 2 2,.int .u16 1,.int .u16 1,.int .u32 60,.slice none 0 0,.slice none 0 0,.slice none 0 0,.slice (some ⟨w2.heap.size+1+1,0,none⟩) 4 4,.slice (some ⟨w3.heap.size,0,none⟩) 2 2,.int .u16 1,.int .u16 1,.int .u32 60,.slice none 0 0,.slice none 0 0,.slice none 0 0,.slice (some ⟨w3.heap.size+1+1,0,none⟩) 4 4] 50)) fun e w'=>e=.returned (.bool true)/\Hid (Below (w4.alloc (.cells #[.slice (some ⟨w2.heap.size,0,none⟩) 2 2,.int .u16 1,.int .u16 1,.int .u32 60,.slice none 0 0,.slice none 0 0,.slice none 0 0,.slice (some ⟨w2.heap.size+1+1,0,none⟩) 4 4,.slice (some ⟨w3.heap.size,0,none⟩) 2 2,.int .u16 1,.int .u16 1,.int .u32 60,.slice none 0 0,.slice none 0 0,.slice none 0 0,.slice (some ⟨w3.heap.size+1+1,0,none⟩) 4 4] 50)).heap.size (w4.alloc (.cells #[.slice (some ⟨w2.heap.size,0,none⟩) 2 2,.int .u16 1,.int .u16 1,.int .u32 60,.slice none 0 0,.slice none 0 0,.slice none 0 0,.slice (some ⟨w2.heap.size+1+1,0,none⟩) 4 4,.slice (some ⟨w3.heap.size,0,none⟩) 2 2,.int .u16 1,.int .u16 1,.int .u32 60,.slice none 0 0,.slice none 0 0,.slice none 0 0,.slice (some ⟨w3.heap.size+1+1,0,none⟩) 4 4] 50)) w')):=reads15 _ ⟨some ⟨w4.heap.size,0,none⟩,2,2⟩ [adrR nmXX 60 4,adrR nmXX 60 5] (w4.alloc (.cells #[.slice (some ⟨w2.heap.size,0,none⟩) 2 2,.int .u16 1,.int .u16 1,.int .u32 60,.slice none 0 0,.slice none 0 0,.slice none 0 0,.slice (some ⟨w2.heap.size+1+1,0,none⟩) 4 4,.slice (some ⟨w3.heap.size,0,none⟩) 2 2,.int .u16 1,.int .u16 1,.int .u32 60,.slice none 0 0,.slice none 0 0,.slice none 0 0,.slice (some ⟨w3.heap.size+1+1,0,none⟩) 4 4] 50)) (lrd_two (H3.out.2.below H4.out.1) H4.out.2) ex_a2 (H.out _ B5.out).2 (H.out _ B5.out).1
 clear H3 H4 B4 B2 KA
 go_wp2_with fail
 refine K2.out.mono ?_
 rintro e w6 ⟨rfl,H6⟩
 have B6:Hid (Below w.heap.size w w6):=B5.out.trans (H6.out.mono B5.out.size)
 clear H6 B5 K2 H
 go_wp2_with fail
 go_ret
 exact ⟨rfl,B6.out⟩
structure Nw(w:World)(a:Option Addr)(n:Nat)(ss:List ByteArray):Prop where
 rd:RdT w a ss
 len:ss.length=n
 n3:n<=1000
 z63:∀s∈ss,s.size<=9223372036854775807
theorem Nw.below{w w':World}{a:Option Addr}{n:Nat}{ss:List ByteArray}(h:Nw w a n ss)(hb:Below w.heap.size w w'):Nw w' a n ss:=⟨h.rd.below hb,h.len,h.n3,h.z63⟩
theorem nsz_lab:∀ss:List ByteArray,labsOk ss->nsz ss<=1+64*ss.length
 |[],_=>by simp[nsz]
 |s::r,h=>by
  have h1:=(chk_ok (h s (by simp))).2
  have h2:=nsz_lab r (fun x hx=>h x (by simp[hx]))
  simp only[nsz,List.length_cons]
  omega
theorem Nw.nm{w:World}{a:Option Addr}{n:Nat}{ss:List ByteArray}(h:Nw w a n ss)(hk:nck ss=0):Nm w a n ss:=⟨h.rd,h.len,by have:=(nck_small hk).1;omega⟩
theorem wcheck{w:World}{a:Option Addr}{n:Nat}{ss:List ByteArray}(c:Nat)(h:Nw w a n ss):Calls Tryz.prog 17 #[.slice a n c] w fun e w'=>e=.returned (.int .i64 (nck ss))/\w'=w:=
 pcheck_wide a n c ss w h.rd h.len (fun ho=>by have:=nsz_lab ss ho;have:=h.len;have:=h.n3;omega) (by have:=h.n3;omega) h.z63
theorem parse_wide8(t:ByteArray)(oa:Option Addr)(on oc:Nat)(og:List ByteArray)(w:World)(ho:Nw w oa on og)(hE:LayE w)(hL:LayT w):Calls Tryz.prog 8 #[.string t,.slice oa on oc] w (AlP (mstF t og) w):=by
 by_cases hk:nck og=0
 ·exact parse_any8 t oa on oc og w (ho.nm hk) hE hL
 ·have KN1:=Lib.hid (wcheck oc (ho.below (new_below w (.cells #[.int .i64 0,.int .i64 0] 28))))
  have hk2:(nck og != 0)=true:=by simpa using hk
  have HM:Hid (mstF t og=.er (nck og) 0):=by
   show _=_
   unfold mstF
   rw[if_neg hk]
  rw[HM.out]
  generalize nck og=q at*
  have HB0:Hid (∀o:Obj,Below w.heap.size w (w.alloc o)):=fun o=>new_below w o
  clear ho hk HM hE hL
  go_enter Tryz.func8,Tryz.ntmps8
  go_wp2_with fail
  refine KN1.out.mono ?_
  rintro r w1 ⟨rfl,rfl⟩
  go_wp2_with fail
  exact bodyPost_ret (v:=.tuple #[.slice none 0 0,.agg #[.int .i64 q,.int .i64 0]]) (by simp[results,Tryz.results8,go_sem]) rfl ⟨⟨none,0,0⟩,q,0,rfl,HB0.out _,⟨rfl,rfl,rfl⟩⟩
theorem text_wide9(a:Option Addr)(n c:Nat)(ss:List ByteArray)(w:World)(h:Nw w a n ss):Calls Tryz.prog 9 #[.slice a n c] w fun e w'=>e=.returned (.tuple #[.string (ntext ss).1,.int .i64 (ntext ss).2])/\Hid (Below w.heap.size w w'):=by
 by_cases hk:nck ss=0
 ·exact ptext_any a n c ss w (h.nm hk)
 ·have KC:=Lib.hid (wcheck c h)
  have hp:ntext ss=(⟨#[]⟩,nck ss):=by unfold ntext;rw[if_neg hk]
  rw[hp]
  generalize nck ss=q at*
  have hq:(q != 0)=true:=bne_iff_ne.2 hk
  clear h hk hp
  go_enter Tryz.func9,Tryz.ntmps9
  go_wp2_with fail
  refine KC.out.mono ?_
  rintro e w1 ⟨rfl,rfl⟩
  go_wp2
  go_ret2
  exact ⟨rfl,Below.refl _ _⟩
theorem join_wide13(a b:Option Addr)(n m c d:Nat)(ss ts:List ByteArray)(w:World)(h:Nw w a n ss)(h':Nw w b m ts):Calls Tryz.prog 13 #[.slice a n c,.slice b m d] w (NPost (njoin ss ts).1 (njoin ss ts).2 w):=by
 have K1:=Lib.hid (wcheck c h)
 have K2:=Lib.hid (wcheck d h')
 by_cases hk:nck ss=0
 ·by_cases hk2:nck ts=0
  ·exact pjoin_any a b n m c d ss ts w (h.nm hk) (h'.nm hk2)
  ·have hj:njoin ss ts=([],nck ts):=by unfold njoin;rw[if_pos hk,if_neg hk2]
   rw[hj]
   rw[hk] at K1
   generalize nck ts=q at*
   have hq:(q != 0)=true:=bne_iff_ne.2 hk2
   clear h h' hk hj hk2
   go_enter Tryz.func13,Tryz.ntmps13
   go_wp2_with fail
   refine K1.out.mono ?_
   rintro e w1 ⟨rfl,rfl⟩
   go_wp2_with fail
   refine K2.out.mono ?_
   rintro e w1 ⟨rfl,rfl⟩
   go_wp2
   go_ret2
   exact npost_none rfl (Below.refl _ _)
 ·have hj:njoin ss ts=([],nck ss):=by unfold njoin;rw[if_neg hk]
  rw[hj]
  generalize nck ss=q at*
  have hq:(q != 0)=true:=bne_iff_ne.2 hk
  clear h h' hk hj K2
  go_enter Tryz.func13,Tryz.ntmps13
  go_wp2_with fail
  refine K1.out.mono ?_
  rintro e w1 ⟨rfl,rfl⟩
  go_wp2
  go_ret2
  exact npost_none rfl (Below.refl _ _)
theorem data_txt(s:ByteArray):s.data.toList=txt (nums s):=by
 have:=congrArg (fun b:ByteArray=>b.data.toList) (txt_back s)
 simpa using this.symm
theorem data_of{s:ByteArray}{l:List Int}(h:nums s=l):s.data.toList=txt l:=by rw[data_txt,h]
theorem txt_app(a b:List Int):txt (a++b)=txt a++txt b:=by simp[txt]
theorem bw_tx1n:∀n:Fin 256,bwS false (txt (tx1 (n.val:Int)))=true/\(txt (tx1 (n.val:Int))).length ≥ 1/\(∀c,(txt (tx1 (n.val:Int))).head?=some c->c≠36/\c≠46/\c≠64):=by
 have h:∀n:Fin 256,(bwS false (txt (tx1 (n.val:Int))) && (decide ((txt (tx1 (n.val:Int))).length ≥ 1)) && (match (txt (tx1 (n.val:Int))).head? with|none=>false|some c=>c != 36 && c != 46 && c != 64))=true:=by decide +kernel
 intro n
 have:=h n
 simp only[Bool.and_eq_true,decide_eq_true_eq] at this
 refine ⟨this.1.1,this.1.2,fun c hc=>?_⟩
 have h2:=this.2
 rw[hc] at h2
 simp at h2
 exact ⟨h2.1.1,h2.1.2,h2.2⟩
theorem bw_tx1{c:Int}(h:0<=c/\c<=255):bwS false (txt (tx1 c))=true/\(txt (tx1 c)).length ≥ 1/\(∀x,(txt (tx1 c)).head?=some x->x≠36/\x≠46/\x≠64):=by
 have:=bw_tx1n ⟨c.toNat,by omega⟩
 simp only at this
 rw[show ((c.toNat:Nat):Int)=c by omega] at this
 exact this
theorem bw_tx:∀l:List Int,(∀z∈l,0<=z/\z<=255)->bwS false (txt (tx l))=true
 |[],_=>rfl
 |c::l,h=>by
  have e:txt (tx (c::l))=txt (tx1 c)++txt (tx l):=by simp[tx,txt]
  rw[e,bw_app _ _ _ (bw_tx1 (h c (by simp))).1]
  exact bw_tx l (fun z hz=>h z (by simp[hz]))
theorem bw_flat:∀l:List ByteArray,bwS false (txt (flat l))=true
 |[]=>rfl
 |s::l=>by
  have e:txt (flat (s::l))=txt (tx (nums s))++(46::txt (flat l)):=by simp[flat,txt]
  rw[e,bw_app _ _ _ (bw_tx _ (nums_all s))]
  show bwS false ([46]++txt (flat l))=true
  rw[bw_app [46] _ _ (by decide)]
  exact bw_flat l
def flatR:List ByteArray->List Int
 |[]=>[]
 |[s]=>tx (nums s)
 |s::t::r=>tx (nums s)++(46::flatR (t::r))
theorem flat_flatR:∀l:List ByteArray,l≠[]->flat l=flatR l++[46]
 |[],h=>absurd rfl h
 |[s],_=>by simp[flat,flatR]
 |s::t::r,_=>by
  have:=flat_flatR (t::r) (by simp)
  have e:flat (s::t::r)=tx (nums s)++[46]++flat (t::r):=by simp[flat]
  rw[e,this]
  simp[flatR]
theorem bw_flatR:∀l:List ByteArray,bwS false (txt (flatR l))=true
 |[]=>rfl
 |[s]=>bw_tx _ (nums_all s)
 |s::t::r=>by
  have e:txt (flatR (s::t::r))=txt (tx (nums s))++(46::txt (flatR (t::r))):=by simp[flatR,txt]
  rw[e,bw_app _ _ _ (bw_tx _ (nums_all s))]
  show bwS false ([46]++txt (flatR (t::r)))=true
  rw[bw_app [46] _ _ (by decide)]
  exact bw_flatR (t::r)
theorem lab_ne{s:ByteArray}(h:chk s.size=0):∃c l,nums s=c::l/\0<=c/\c<=255:=by
 have hs:=chk_ok h
 have hl:=nums_len s
 cases hn:nums s with
 |nil=>rw[hn] at hl;simp at hl;omega
 |cons c l=>exact ⟨c,l,rfl,nums_all s c (by rw[hn];simp)⟩
theorem headT{s:ByteArray}(h:chk s.size=0)(R:List UInt8):∃x r,txt (tx (nums s))++R=x::r/\x≠36/\x≠46/\x≠64:=by
 obtain ⟨c,l,e,hc⟩:=lab_ne h
 have h1:=bw_tx1 hc
 have e1:txt (tx (nums s))=txt (tx1 c)++txt (tx l):=by rw[e];simp[tx,txt]
 cases ht:txt (tx1 c) with
 |nil=>rw[ht] at h1;simp at h1
 |cons x r=>
  have:=h1.2.2 x (by rw[ht];rfl)
  exact ⟨x,r++txt (tx l)++R,by rw[e1,ht];simp,this⟩
theorem flatR_head{l:List ByteArray}(h:l≠[])(hok:labsOk l):∃x r,txt (flatR l)=x::r/\x≠36/\x≠46/\x≠64:=by
 obtain ⟨s,t,rfl⟩:=List.exists_cons_of_ne_nil h
 have hs:=hok s (by simp)
 cases t with
 |nil=>
  have:=headT hs []
  simpa [flatR] using this
 |cons t r=>
  have e:txt (flatR (s::t::r))=txt (tx (nums s))++(46::txt (flatR (t::r))):=by simp[flatR,txt]
  rw[e]
  exact headT hs _
theorem lgo_flatR:∀(ss:List ByteArray) (out:List ByteArray),ss≠[]->labsOk ss->lgo (flatR ss) out=(out++ss,false,0)
 |[],_,h,_=>absurd rfl h
 |[s],out,_,hok=>by
  have hs:=chk_ok (hok s (by simp))
  have hp:=pres_tx (nums s) [] (nums_all s) (.inl rfl) (by rw[nums_len];exact hs)
  rw[List.append_nil] at hp
  have hlb:lb (nums s)=s:=txt_back s
  show lgo (tx (nums s)) out=_
  rw[lgo,hp]
  simp[hlb]
 |s::t::r,out,_,hok=>by
  have hs:=chk_ok (hok s (by simp))
  have hf:flatR (s::t::r)=tx (nums s)++(46::flatR (t::r)):=rfl
  have hp:=pres_tx (nums s) (46::flatR (t::r)) (nums_all s) (.inr ⟨_,rfl⟩) (by rw[nums_len];exact hs)
  rw[<- hf] at hp
  have hd:(flatR (s::t::r)).drop ((tx (nums s)).length+1)=flatR (t::r):=by
   rw[hf,List.drop_append,List.drop_eq_nil_of_le (by omega),Nat.add_sub_cancel_left];rfl
  have hlb:lb (nums s)=s:=txt_back s
  rw[lgo,hp]
  simp only[if_true,Int.toNat_natCast,hd,hlb]
  rw[if_neg (by rw[hf,List.length_append];simp;omega)]
  have hok':labsOk (t::r):=fun x hx=>hok x (by simp[hx])
  have hne:¬ (flatR (t::r)).length=0:=by
   obtain ⟨x,q,e,_⟩:=flatR_head (l:=t::r) (by simp) hok'
   have:=congrArg List.length e
   rw[txt_len] at this
   rw[this];simp
  rw[dif_neg hne,lgo_flatR (t::r) (out++[s]) (by simp) hok']
  simp
def relT(ss:List ByteArray):ByteArray:=⟨(txt (flatR ss)).toArray⟩
theorem flatR_bd:∀l:List ByteArray,∀z∈flatR l,0<=z/\z<=255
 |[],z,h=>by cases h
 |[s],z,h=>tx_bd _ (nums_all s) z h
 |s::t::r,z,h=>by
  rcases List.mem_append.1 (show z∈tx (nums s)++(46::flatR (t::r)) from h) with h|h
  ·exact tx_bd _ (nums_all s) z h
  ·rcases List.mem_cons.1 h with rfl|h
   ·omega
   ·exact flatR_bd (t::r) z h
theorem nums_relT(ss:List ByteArray):nums (relT ss)=flatR ss:=nums_back _ (flatR_bd ss)
theorem text_rel(ss:List ByteArray)(h:nck ss=0)(h0:ss≠[]):(ntext ss).1=relT ss++⟨#[46]⟩:=by
 have e:(ntext ss).1=ntxt ss:=by
  unfold ntext
  rw[if_pos h,if_neg (fun e=>h0 (List.eq_nil_of_length_eq_zero e))]
 rw[e]
 apply ba_inj
 rw[ba_toList,ba_toList,data_of (nums_ntxt ss),flat_flatR ss h0,txt_app]
 simp[relT,txt]
theorem rel_rel{ow og:List ByteArray}(h:nck ow=0)(h0:ow≠[])(hg:nck og=0):nrel (relT ow) og=njoin ow og:=by
 have hok:=(nck_small h).2
 obtain ⟨x,r,e,hx⟩:=flatR_head h0 hok
 have e2:(relT ow).toList=x::r:=by rw[ba_toList];simpa [relT] using e
 unfold nrel
 rw[if_pos hg,if_neg (by rw[e2];intro q;injection q with q;exact hx.2.2 q),if_neg (by rw[e2];intro q;injection q with q;exact hx.2.1 q)]
 simp only[nums_relT,lgo_flatR ow [] h0 hok,List.nil_append,if_true,Bool.false_eq_true,if_false]
theorem good_text{ss:List ByteArray}(h:nck ss=0):goodW ((ntext ss).1,false)=true:=by
 have hok:=(nck_small h).2
 by_cases h0:ss=[]
 ·subst h0;decide +kernel
 ·have e:(ntext ss).1.data.toList=txt (flat ss):=by
   have:(ntext ss).1=ntxt ss:=by
    unfold ntext
    rw[if_pos h,if_neg (fun e=>h0 (List.eq_nil_of_length_eq_zero e))]
   rw[this,data_of (nums_ntxt ss)]
  unfold goodW
  simp only[Bool.false_eq_true,if_false]
  rw[e,bw_flat,flat_flatR ss h0]
  obtain ⟨x,r,e,_⟩:=flatR_head h0 hok
  rw[txt_app,e]
  rfl
theorem good_rel{ss:List ByteArray}(h:nck ss=0)(h0:ss≠[]):goodW (relT ss,false)=true:=by
 obtain ⟨x,r,e,_⟩:=flatR_head h0 (nck_small h).2
 unfold goodW
 simp only[Bool.false_eq_true,if_false]
 have e2:(relT ss).data.toList=txt (flatR ss):=by simp[relT]
 rw[e2,bw_flatR,e]
 rfl
def carE:List En->Cy->List Rec->Option (Cy × List Rec)
 |[],c,rs=>some (c,rs)
 |e::es,c,rs=>match stpE e c rs with
  | .error _=>none
  | .ok (c',rs')=>carE es c' rs'
theorem car_cons(e:En)(es:List En)(c:Cy)(rs:List Rec):carE (e::es) c rs=(match stpE e c rs with
  | .error _=>none
  | .ok (c',rs')=>carE es c' rs'):=rfl
theorem car_ok:∀(es:List En) (c:Cy) (rs out:List Rec),allF es c rs=.ok out↔∃c',carE es c rs=some (c',out)
 |[],c,rs,out=>by simp[allF,carE]
 |e::es,c,rs,out=>by
  unfold allF carE
  cases stpE e c rs with
  |error er=>simp
  |ok p=>exact car_ok es p.1 p.2 out
theorem mst_of{s:ByteArray}{og:List ByteArray}{es:List En}{out:List Rec}(h1:nck og=0)(h2:entsF s.data.toList=.ok es)(h3:allF es (cy0 og) []=.ok out):mstF s og=.ok out:=by
 unfold mstF
 rw[if_pos h1,h2]
 exact h3
theorem fold_no{s:ByteArray}(h:(nums s).head?≠some 36):foldL s≠cOrigin/\foldL s≠cTTL:=by
 have key:∀b:ByteArray,(nums b).head?=some 36->foldL s≠b:=by
  intro b hb e
  rw[<- e,nums_foldL] at hb
  cases hn:nums s with
  |nil=>rw[hn] at hb;cases hb
  |cons c l=>
   rw[hn] at hb h
   simp only[List.map_cons,List.head?_cons,Option.some.injEq] at hb
   apply h
   simp only[List.head?_cons,Option.some.injEq]
   unfold fz at hb
   split at hb <;> omega
 exact ⟨key _ (by decide),key _ (by decide)⟩
def orgE(o:ByteArray)(own:List ByteArray):En:=⟨1,false,[(o,false),((ntext own).1,false)]⟩
theorem org_stp{o:ByteArray}(ho:foldL o=cOrigin){own:List ByteArray}{c:Cy}(rs:List Rec)(l:Int)(h:nck own=0)(hc:nck c.og=0):stpE ⟨l,false,(orgE o own).ws⟩ c rs=.ok ({ c with og:=own },rs):=by
 have h1:cmdF ⟨l,false,(orgE o own).ws⟩=1:=by
  show (if foldL o=cOrigin then 1 else if foldL o=cTTL then 2 else 0)=1
  rw[if_pos ho]
 unfold stpE
 rw[h1,if_neg (by decide)]
 show (match cmdE 1 [((ntext own).1,false)] c with | .error er=>_ | .ok c'=>_)=_
 have h2:cmdE 1 [((ntext own).1,false)] c=.ok { c with og:=own }:=by
  unfold cmdE
  simp only[if_true,rel_text own c.og h hc]
 rw[h2]
theorem org_ok{o:ByteArray}(ho:goodW (o,false)=true){own:List ByteArray}(h:nck own=0):okE (orgE o own):=
 ⟨by simp[orgE],by simp[orgE],fun w hw=>by
  rcases List.mem_cons.1 hw with rfl|hw
  ·exact ho
  ·rw[List.mem_singleton] at hw
   subst hw
   exact good_text h⟩
def w60:Wd:=(⟨#[54,48]⟩,false)
def wIN:Wd:=(⟨#[73,78]⟩,false)
def wA:Wd:=(⟨#[65]⟩,false)
def wAd:Wd:=(⟨#[49,46,50,46,51,46,52]⟩,false)
def adrE(o:ByteArray):En:=⟨0,false,[(o,false),w60,wIN,wA,wAd]⟩
def tailT:List UInt8:=[32,54,48,32,73,78,32,65,32,49,46,50,46,51,46,52,10]
theorem adr_txt(o:ByteArray):enTxt (adrE o)=o.data.toList++tailT:=by
 show []++(wtxt (o,false)++32::(wtxt w60++32::(wtxt wIN++32::(wtxt wA++32::wtxt wAd))))++[10]=_
 simp[wtxt,w60,wIN,wA,wAd,tailT]
theorem org_txt(o:ByteArray)(own:List ByteArray):enTxt (orgE o own)=o.data.toList++(32::((ntext own).1.data.toList++[10])):=by
 unfold enTxt orgE
 simp only[Bool.false_eq_true,if_false,List.nil_append]
 show (wtxt (o,false)++32::wtxt ((ntext own).1,false))++[10]=_
 simp[wtxt]
theorem good_four:goodW w60=true/\goodW wIN=true/\goodW wA=true/\goodW wAd=true:=by decide +kernel
theorem adr_ok{o:ByteArray}(h:goodW (o,false)=true):okE (adrE o):=
 ⟨by simp[adrE],by simp[adrE],fun w hw=>by
  have g:=good_four
  simp only[adrE,List.mem_cons,List.not_mem_nil,or_false] at hw
  rcases hw with rfl|rfl|rfl|rfl|rfl
  ·exact h
  ·exact g.1
  ·exact g.2.1
  ·exact g.2.2.1
  ·exact g.2.2.2⟩
theorem says_adr:saysF say0 [w60,wIN,wA,wAd]=.ok (⟨1,1,60,true,true,true⟩,[wAd]):=by kernel_rfl
theorem prs_adr(og:List ByteArray):prsF 1 og [wAd]=some ⟨[],[],[],[1,2,3,4]⟩:=by kernel_rfl
theorem adr_ent{o:ByteArray}{all:List ByteArray}{c:Cy}(l:Int)(h:nrel o c.og=(all,0))(hd:(nums o).head?≠some 36):∃c',entF ⟨l,false,(adrE o).ws⟩ c=.ok (adrR all 60 4,c'):=by
 unfold entF
 rw[if_neg (by
  rintro (e|e)
  ·cases e
  ·unfold marked at e
   have:opnF ⟨l,false,(adrE o).ws⟩=o:=rfl
   rw[this] at e
   exact hd (by simpa using e))]
 have ho:ownF ⟨l,false,(adrE o).ws⟩ c=(all,[w60,wIN,wA,wAd],0):=by
  show ((nrel o c.og).1,[w60,wIN,wA,wAd],(nrel o c.og).2)=_
  rw[h]
 rw[ho]
 simp only[ne_eq,not_true_eq_false,if_false,says_adr,prs_adr]
 have e1:tmF ⟨1,1,60,true,true,true⟩ ⟨[],[],[],[1,2,3,4]⟩ c=some (60,{ c with tt:=60,ht:=true }):=by unfold tmF;rfl
 rw[e1]
 exact ⟨_,rfl⟩
theorem adr_stp{o:ByteArray}{all:List ByteArray}{c:Cy}(l:Int)(h:nrel o c.og=(all,0))(hd:(nums o).head?≠some 36):∃c',stpE ⟨l,false,(adrE o).ws⟩ c []=.ok (c',[adrR all 60 4]):=by
 obtain ⟨c',h1⟩:=adr_ent l h hd
 have hc:cmdF ⟨l,false,(adrE o).ws⟩=0:=by
  have h2:=fold_no hd
  have:opnF ⟨l,false,(adrE o).ws⟩=o:=rfl
  unfold cmdF
  rw[this,if_neg h2.1,if_neg h2.2]
 refine ⟨c',?_⟩
 unfold stpE
 rw[if_pos hc,h1]
 rfl
theorem head_data{s:ByteArray}{x:UInt8}{r:List UInt8}(h:s.data.toList=x::r)(hx:x≠36):(nums s).head?≠some 36:=by
 unfold nums
 rw[h]
 simp only[List.map_cons,List.head?_cons,ne_eq,Option.some.injEq]
 intro e
 apply hx
 apply UInt8.toNat_inj.1
 show x.toNat=36
 omega
theorem rel_head{ow:List ByteArray}(h:nck ow=0)(h0:ow≠[]):(nums (relT ow)).head?≠some 36:=by
 obtain ⟨x,r,e,hx⟩:=flatR_head h0 (nck_small h).2
 exact head_data (s:=relT ow) (x:=x) (r:=r) (by simpa [relT] using e) hx.1
theorem text_head{ow:List ByteArray}(h:nck ow=0)(h0:ow≠[]):(nums (ntext ow).1).head?≠some 36:=by
 obtain ⟨x,r,e,hx⟩:=flatR_head h0 (nck_small h).2
 refine head_data (x:=x) (r:=r++[46]) ?_ hx.1
 rw[text_rel ow h h0]
 have:(relT ow).data.toList=x::r:=by simpa [relT] using e
 simp[this]
theorem text_size{ss:List ByteArray}(h:nck ss=0):(ntext ss).1.size<=1020:=by
 unfold ntext
 rw[if_pos h]
 split
 ·decide
 ·have h1:=ntxt_size ss ss.length (Nat.le_refl _)
  rw[List.take_length] at h1
  have:=(nck_small h).1
  show (ntxt ss).size<=1020
  omega
theorem rel_size{ss:List ByteArray}(h:nck ss=0)(h0:ss≠[]):(relT ss).size+1=(ntext ss).1.size:=by
 rw[text_rel ss h h0,ByteArray.size_append]
 rfl
theorem rel_cut{ss:List ByteArray}(h:nck ss=0)(h0:ss≠[]):(ntext ss).1.data.toList.take ((ntext ss).1.size - 1)=(relT ss).data.toList:=by
 have h1:=rel_size h h0
 have h2:(ntext ss).1.data.toList=(relT ss).data.toList++[46]:=by rw[text_rel ss h h0];simp
 rw[<- h1,Nat.add_sub_cancel,h2]
 exact List.take_left' rfl
theorem njoin_nck{a b c:List ByteArray}(h:njoin a b=(c,0)):nck a=0/\nck b=0/\nck c=0/\c=a++b:=by
 unfold njoin at h
 by_cases h1:nck a=0
 ·rw[if_pos h1] at h
  by_cases h2:nck b=0
  ·rw[if_pos h2] at h
   by_cases h3:nck (a++b)=0
   ·rw[if_pos h3] at h
    cases h
    exact ⟨h1,h2,h3,rfl⟩
   ·rw[if_neg h3] at h;cases h
  ·rw[if_neg h2] at h
   injection h with _ h
   exact absurd h h2
 ·rw[if_neg h1] at h
  injection h with _ h
  exact absurd h h1
def cOrgSp:List UInt8:=[36,111,114,105,103,105,110,32]
theorem mst_with{ow og all:List ByteArray}{t:ByteArray}(h:njoin ow og=(all,0))(h0:ow≠[])(ht:t.data.toList=cOrgSp++(ntext og).1.data.toList++[10]++(relT ow).data.toList++tailT):mstF t []=.ok [adrR all 60 4]:=by
 obtain ⟨k1,k2,k3,rfl⟩:=njoin_nck h
 have hok:∀e∈[orgE cOrigin og,adrE (relT ow)],okE e:=by
  intro e he
  rcases List.mem_cons.1 he with rfl|he
  ·exact org_ok (by decide +kernel) k2
  ·rw[List.mem_singleton] at he
   subst he
   exact adr_ok (good_rel k1 h0)
 have htt:joinT [orgE cOrigin og,adrE (relT ow)]=t.data.toList:=by
  rw[ht]
  show enTxt (orgE cOrigin og)++(enTxt (adrE (relT ow))++[])=_
  rw[org_txt,adr_txt]
  have:cOrigin.data.toList=[36,111,114,105,103,105,110]:=rfl
  rw[this]
  simp[cOrgSp]
 have hln:(joinT [orgE cOrigin og,adrE (relT ow)]).length<=65536:=by
  rw[htt,ht]
  have a1:=text_size k2
  have a2:=text_size k1
  have a3:=rel_size k1 h0
  have a4:(ntext og).1.data.toList.length=(ntext og).1.size:=rfl
  have a5:(relT ow).data.toList.length=(relT ow).size:=rfl
  simp only[List.length_append,a4,a5,cOrgSp,tailT,List.length_cons,List.length_nil]
  omega
 have he:=ents_join _ hok hln
 rw[htt] at he
 refine mst_of (by decide) he ?_
 rw[car_ok]
 show ∃c',carE [⟨1,false,(orgE cOrigin og).ws⟩,⟨2,false,(adrE (relT ow)).ws⟩] (cy0 []) []=some (c',_)
 rw[car_cons,org_stp (by decide +kernel) [] 1 k2 (by decide)]
 simp only
 obtain ⟨c',h5⟩:=adr_stp (o:=relT ow) (all:=ow++og) (c:={ cy0 [] with og:=og }) 2 (by rw[rel_rel k1 h0 k2,h]) (rel_head k1 h0)
 rw[car_cons,h5]
 exact ⟨c',rfl⟩
theorem mst_whole{og all:List ByteArray}{t:ByteArray}(hg:nck og=0)(ha:nck all=0)(h0:all≠[])(ht:t.data.toList=(ntext all).1.data.toList++tailT):mstF t og=.ok [adrR all 60 4]:=by
 have hok:∀e∈[adrE (ntext all).1],okE e:=by
  intro e he
  rw[List.mem_singleton] at he
  subst he
  exact adr_ok (good_text ha)
 have htt:joinT [adrE (ntext all).1]=t.data.toList:=by
  rw[ht]
  show enTxt (adrE (ntext all).1)++[]=_
  rw[adr_txt,List.append_nil]
 have hln:(joinT [adrE (ntext all).1]).length<=65536:=by
  rw[htt,ht]
  have a1:=text_size ha
  have a4:(ntext all).1.data.toList.length=(ntext all).1.size:=rfl
  simp only[List.length_append,a4,tailT,List.length_cons,List.length_nil]
  omega
 have he:=ents_join _ hok hln
 rw[htt] at he
 refine mst_of hg he ?_
 rw[car_ok]
 show ∃c',carE [⟨1,false,(adrE (ntext all).1).ws⟩] (cy0 og) []=some (c',_)
 obtain ⟨c',h5⟩:=adr_stp (o:=(ntext all).1) (all:=all) (c:=cy0 og) 1 (rel_text all og ha hg) (text_head ha h0)
 rw[car_cons,h5]
 exact ⟨c',rfl⟩
end Go.Proofs.YtjkljpdolhglcaaGreatDoor
