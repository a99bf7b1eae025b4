/- Texts laid together, in parts: Mn Mo Mp. -/
import Derived.Test.YtjkljpdolhglcaaGreatDoorWjj
import Derived.Deep.AppendLies
set_option maxRecDepth 100000
set_option maxHeartbeats 8000000
set_option linter.unusedVariables false
set_option linter.unusedSimpArgs false
namespace Go.Proofs.YtjkljpdolhglcaaGreatDoor
open Go.ChangeShapes Go.WideShapes Go.ChangeAt Go.RowKit
theorem ent1{e:En}{c:Cy}(h:e.ws=[]∨marked e=true):entF e c=.error 240:=by unfold entF;rw[if_pos h]
theorem ent2{e:En}{c:Cy}(h:¬ (e.ws=[]∨marked e=true))(h2:(ownF e c).2.2≠0):entF e c=.error (ownF e c).2.2:=by unfold entF;rw[if_neg h,if_pos h2]
theorem ent3{e:En}{c:Cy}(h:¬ (e.ws=[]∨marked e=true))(h2:(ownF e c).2.2=0){er:Int}(h3:saysF say0 (ownF e c).2.1=.error er):entF e c=.error er:=by unfold entF;rw[if_neg h,if_neg (fun k=>k h2),h3]
theorem ent4{e:En}{c:Cy}(h:¬ (e.ws=[]∨marked e=true))(h2:(ownF e c).2.2=0){y:Say}{r:List Wd}(h3:saysF say0 (ownF e c).2.1=.ok (y,r))(h4:prsF y.k c.og r=none):entF e c=.error 7:=by unfold entF;rw[if_neg h,if_neg (fun k=>k h2),h3];simp only[h4]
theorem ent5{e:En}{c:Cy}(h:¬ (e.ws=[]∨marked e=true))(h2:(ownF e c).2.2=0){y:Say}{r:List Wd}(h3:saysF say0 (ownF e c).2.1=.ok (y,r)){d:Dat}(h4:prsF y.k c.og r=some d)(h5:tmF y d c=none):entF e c=.error 9:=by unfold entF;rw[if_neg h,if_neg (fun k=>k h2),h3];simp only[h4,h5]
theorem ent6{e:En}{c:Cy}(h:¬ (e.ws=[]∨marked e=true))(h2:(ownF e c).2.2=0){y:Say}{r:List Wd}(h3:saysF say0 (ownF e c).2.1=.ok (y,r)){d:Dat}(h4:prsF y.k c.og r=some d){n:Nat}{c':Cy}(h5:tmF y d c=some (n,c')):entF e c=.ok (⟨(ownF e c).1,y.k,csF y c',n,d⟩,{ c' with ow:=(ownF e c).1,ho:=true,cl:=csF y c',hc:=true }):=by unfold entF;rw[if_neg h,if_neg (fun k=>k h2),h3];simp only[h4,h5]
theorem RcB.drew{w:World}{b:Nat}{x:RA}{r:Rec}(h:RcB w b x r):RcB w.drew b x r:=h
theorem rd_exit{w W:World}{x:Sl}{e:En}{a0:CA}{c0:Cy}{a:CA}{c:Cy}(h:RdS w W x e a0 c0):RcB (((((((((((((((((W.setCell ⟨w.heap.size+1+1,0,none⟩ (.slice none 0 0)).setCell ⟨w.heap.size+1+1,1,none⟩ (.int .u16 0)).setCell ⟨w.heap.size+1+1,2,none⟩ (.int .u16 0)).setCell ⟨w.heap.size+1+1,3,none⟩ (.int .u32 0)).setCell ⟨w.heap.size+1+1,4,none⟩ (.slice none 0 0)).setCell ⟨w.heap.size+1+1,5,none⟩ (.slice none 0 0)).setCell ⟨w.heap.size+1+1,6,none⟩ (.slice none 0 0)).setCell ⟨w.heap.size+1+1,7,none⟩ (.slice none 0 0)).setCell ⟨w.heap.size+1+1+1,0,none⟩ (.slice a.g.a a.g.n a.g.c)).setCell ⟨w.heap.size+1+1+1,1,none⟩ (.slice a.o.a a.o.n a.o.c)).setCell ⟨w.heap.size+1+1+1,2,none⟩ (.int .u16 (c.cl:Int))).setCell ⟨w.heap.size+1+1+1,3,none⟩ (.int .u32 (c.df:Int))).setCell ⟨w.heap.size+1+1+1,4,none⟩ (.int .u32 (c.tt:Int))).setCell ⟨w.heap.size+1+1+1,5,none⟩ (.bool c.ho)).setCell ⟨w.heap.size+1+1+1,6,none⟩ (.bool c.hc)).setCell ⟨w.heap.size+1+1+1,7,none⟩ (.bool c.ht)).setCell ⟨w.heap.size+1+1+1,8,none⟩ (.bool c.sd)).drew (w.heap.size+1+1) ra0 rec0/\CyB (((((((((((((((((W.setCell ⟨w.heap.size+1+1,0,none⟩ (.slice none 0 0)).setCell ⟨w.heap.size+1+1,1,none⟩ (.int .u16 0)).setCell ⟨w.heap.size+1+1,2,none⟩ (.int .u16 0)).setCell ⟨w.heap.size+1+1,3,none⟩ (.int .u32 0)).setCell ⟨w.heap.size+1+1,4,none⟩ (.slice none 0 0)).setCell ⟨w.heap.size+1+1,5,none⟩ (.slice none 0 0)).setCell ⟨w.heap.size+1+1,6,none⟩ (.slice none 0 0)).setCell ⟨w.heap.size+1+1,7,none⟩ (.slice none 0 0)).setCell ⟨w.heap.size+1+1+1,0,none⟩ (.slice a.g.a a.g.n a.g.c)).setCell ⟨w.heap.size+1+1+1,1,none⟩ (.slice a.o.a a.o.n a.o.c)).setCell ⟨w.heap.size+1+1+1,2,none⟩ (.int .u16 (c.cl:Int))).setCell ⟨w.heap.size+1+1+1,3,none⟩ (.int .u32 (c.df:Int))).setCell ⟨w.heap.size+1+1+1,4,none⟩ (.int .u32 (c.tt:Int))).setCell ⟨w.heap.size+1+1+1,5,none⟩ (.bool c.ho)).setCell ⟨w.heap.size+1+1+1,6,none⟩ (.bool c.hc)).setCell ⟨w.heap.size+1+1+1,7,none⟩ (.bool c.ht)).setCell ⟨w.heap.size+1+1+1,8,none⟩ (.bool c.sd)).drew (w.heap.size+1+1+1) a c/\Below w.heap.size w (((((((((((((((((W.setCell ⟨w.heap.size+1+1,0,none⟩ (.slice none 0 0)).setCell ⟨w.heap.size+1+1,1,none⟩ (.int .u16 0)).setCell ⟨w.heap.size+1+1,2,none⟩ (.int .u16 0)).setCell ⟨w.heap.size+1+1,3,none⟩ (.int .u32 0)).setCell ⟨w.heap.size+1+1,4,none⟩ (.slice none 0 0)).setCell ⟨w.heap.size+1+1,5,none⟩ (.slice none 0 0)).setCell ⟨w.heap.size+1+1,6,none⟩ (.slice none 0 0)).setCell ⟨w.heap.size+1+1,7,none⟩ (.slice none 0 0)).setCell ⟨w.heap.size+1+1+1,0,none⟩ (.slice a.g.a a.g.n a.g.c)).setCell ⟨w.heap.size+1+1+1,1,none⟩ (.slice a.o.a a.o.n a.o.c)).setCell ⟨w.heap.size+1+1+1,2,none⟩ (.int .u16 (c.cl:Int))).setCell ⟨w.heap.size+1+1+1,3,none⟩ (.int .u32 (c.df:Int))).setCell ⟨w.heap.size+1+1+1,4,none⟩ (.int .u32 (c.tt:Int))).setCell ⟨w.heap.size+1+1+1,5,none⟩ (.bool c.ho)).setCell ⟨w.heap.size+1+1+1,6,none⟩ (.bool c.hc)).setCell ⟨w.heap.size+1+1+1,7,none⟩ (.bool c.ht)).setCell ⟨w.heap.size+1+1+1,8,none⟩ (.bool c.sd)).drew:=by
 have h1:RcB ((((((((W.setCell ⟨w.heap.size+1+1,0,none⟩ (.slice none 0 0)).setCell ⟨w.heap.size+1+1,1,none⟩ (.int .u16 0)).setCell ⟨w.heap.size+1+1,2,none⟩ (.int .u16 0)).setCell ⟨w.heap.size+1+1,3,none⟩ (.int .u32 0)).setCell ⟨w.heap.size+1+1,4,none⟩ (.slice none 0 0)).setCell ⟨w.heap.size+1+1,5,none⟩ (.slice none 0 0)).setCell ⟨w.heap.size+1+1,6,none⟩ (.slice none 0 0)).setCell ⟨w.heap.size+1+1,7,none⟩ (.slice none 0 0)) (w.heap.size+1+1) ra0 rec0:=h.rc.all ra0 rec0
 have h2:CyB ((((((((W.setCell ⟨w.heap.size+1+1,0,none⟩ (.slice none 0 0)).setCell ⟨w.heap.size+1+1,1,none⟩ (.int .u16 0)).setCell ⟨w.heap.size+1+1,2,none⟩ (.int .u16 0)).setCell ⟨w.heap.size+1+1,3,none⟩ (.int .u32 0)).setCell ⟨w.heap.size+1+1,4,none⟩ (.slice none 0 0)).setCell ⟨w.heap.size+1+1,5,none⟩ (.slice none 0 0)).setCell ⟨w.heap.size+1+1,6,none⟩ (.slice none 0 0)).setCell ⟨w.heap.size+1+1,7,none⟩ (.slice none 0 0)) (w.heap.size+1+1+1) ca0 (cy0 []):=(eight_heap W (w.heap.size+1+1) _ _ _ _ _ _ _ _ _ (by omega)).trans h.rz
 have h3:=below_eight h.bel (b:=w.heap.size+1+1) (by omega) (.slice none 0 0) (.int .u16 0) (.int .u16 0) (.int .u32 0) (.slice none 0 0) (.slice none 0 0) (.slice none 0 0) (.slice none 0 0)
 refine ⟨RcB.drew ?_,CyB.drew (h2.all a c),(below_nine h3 (b:=w.heap.size+1+1+1) (by omega) _ _ _ _ _ _ _ _ _).drew⟩
 exact (nine_heap _ (w.heap.size+1+1+1) _ _ _ _ _ _ _ _ _ _ (by omega)).trans h1
structure St(b:Nat)(W W':World):Prop where
 sz:W.heap.size<=W'.heap.size
 bl:∀j,b+3<j->j<W.heap.size->W'.heap[j]?=W.heap[j]?
theorem St.trans{b:Nat}{W W1 W2:World}(h:St b W W1)(h':St b W1 W2):St b W W2:=⟨Nat.le_trans h.sz h'.sz,fun j h1 h2=>(h'.bl j h1 (Nat.lt_of_lt_of_le h2 h.sz)).trans (h.bl j h1 h2)⟩
theorem St.of{b:Nat}{W W1:World}(h:Below W.heap.size W W1):St b W W1:=⟨h.size,fun j _ h2=>h.block j h2⟩
theorem St.drew{b:Nat}{W W1:World}(h:St b W W1):St b W W1.drew:=⟨h.sz,h.bl⟩
theorem St.set{b:Nat}{W W1:World}(h:St b W W1)(g i:Nat)(v:Value)(hg:g<=b+3):St b W (W1.setCell ⟨g,i,none⟩ v):=⟨by have:=h.sz;simp[World.setCell];exact this,fun j h1 h2=>(Below.heap_setCell _ _ _ j (by show j≠g;omega)).trans (h.bl j h1 h2)⟩
theorem St.nine{b:Nat}{W W1:World}(h:St b W W1)(g:Nat)(hg:g<=b+3)(v0 v1 v2 v3 v4 v5 v6 v7 v8:Value):St b W (((((((((W1.setCell ⟨g,0,none⟩ (v0)).setCell ⟨g,1,none⟩ (v1)).setCell ⟨g,2,none⟩ (v2)).setCell ⟨g,3,none⟩ (v3)).setCell ⟨g,4,none⟩ (v4)).setCell ⟨g,5,none⟩ (v5)).setCell ⟨g,6,none⟩ (v6)).setCell ⟨g,7,none⟩ (v7)).setCell ⟨g,8,none⟩ (v8)):=((((((((h.set g 0 v0 hg).set g 1 v1 hg).set g 2 v2 hg).set g 3 v3 hg).set g 4 v4 hg).set g 5 v5 hg).set g 6 v6 hg).set g 7 v7 hg).set g 8 v8 hg
theorem St.eight{b:Nat}{W W1:World}(h:St b W W1)(g:Nat)(hg:g<=b+3)(v0 v1 v2 v3 v4 v5 v6 v7:Value):St b W ((((((((W1.setCell ⟨g,0,none⟩ (v0)).setCell ⟨g,1,none⟩ (v1)).setCell ⟨g,2,none⟩ (v2)).setCell ⟨g,3,none⟩ (v3)).setCell ⟨g,4,none⟩ (v4)).setCell ⟨g,5,none⟩ (v5)).setCell ⟨g,6,none⟩ (v6)).setCell ⟨g,7,none⟩ (v7)):=(((((((h.set g 0 v0 hg).set g 1 v1 hg).set g 2 v2 hg).set g 3 v3 hg).set g 4 v4 hg).set g 5 v5 hg).set g 6 v6 hg).set g 7 v7 hg
theorem rd_nine{w W W2 W4:World}{x:Sl}{e:En}{a0:CA}{c0:Cy}{s0 d0:Nat}{y:Say}{x4:DA}(h:RdS w W x e a0 c0)(hy:SyB W s0 y)(hd:DBox W d0 x4)(h2:St w.heap.size W2 W)(h4:St w.heap.size W4 W)(a:CA)(c:Cy)(hs:¬ s0=w.heap.size+1)(hdn:¬ d0=w.heap.size+1) :
  RdS w (((((((((W.setCell ⟨w.heap.size+1,0,none⟩ (.slice a.g.a a.g.n a.g.c)).setCell ⟨w.heap.size+1,1,none⟩ (.slice a.o.a a.o.n a.o.c)).setCell ⟨w.heap.size+1,2,none⟩ (.int .u16 (c.cl:Int))).setCell ⟨w.heap.size+1,3,none⟩ (.int .u32 (c.df:Int))).setCell ⟨w.heap.size+1,4,none⟩ (.int .u32 (c.tt:Int))).setCell ⟨w.heap.size+1,5,none⟩ (.bool c.ho)).setCell ⟨w.heap.size+1,6,none⟩ (.bool c.hc)).setCell ⟨w.heap.size+1,7,none⟩ (.bool c.ht)).setCell ⟨w.heap.size+1,8,none⟩ (.bool c.sd)) x e a c/\SyB (((((((((W.setCell ⟨w.heap.size+1,0,none⟩ (.slice a.g.a a.g.n a.g.c)).setCell ⟨w.heap.size+1,1,none⟩ (.slice a.o.a a.o.n a.o.c)).setCell ⟨w.heap.size+1,2,none⟩ (.int .u16 (c.cl:Int))).setCell ⟨w.heap.size+1,3,none⟩ (.int .u32 (c.df:Int))).setCell ⟨w.heap.size+1,4,none⟩ (.int .u32 (c.tt:Int))).setCell ⟨w.heap.size+1,5,none⟩ (.bool c.ho)).setCell ⟨w.heap.size+1,6,none⟩ (.bool c.hc)).setCell ⟨w.heap.size+1,7,none⟩ (.bool c.ht)).setCell ⟨w.heap.size+1,8,none⟩ (.bool c.sd)) s0 y/\DBox (((((((((W.setCell ⟨w.heap.size+1,0,none⟩ (.slice a.g.a a.g.n a.g.c)).setCell ⟨w.heap.size+1,1,none⟩ (.slice a.o.a a.o.n a.o.c)).setCell ⟨w.heap.size+1,2,none⟩ (.int .u16 (c.cl:Int))).setCell ⟨w.heap.size+1,3,none⟩ (.int .u32 (c.df:Int))).setCell ⟨w.heap.size+1,4,none⟩ (.int .u32 (c.tt:Int))).setCell ⟨w.heap.size+1,5,none⟩ (.bool c.ho)).setCell ⟨w.heap.size+1,6,none⟩ (.bool c.hc)).setCell ⟨w.heap.size+1,7,none⟩ (.bool c.ht)).setCell ⟨w.heap.size+1,8,none⟩ (.bool c.sd)) d0 x4/\St w.heap.size W2 (((((((((W.setCell ⟨w.heap.size+1,0,none⟩ (.slice a.g.a a.g.n a.g.c)).setCell ⟨w.heap.size+1,1,none⟩ (.slice a.o.a a.o.n a.o.c)).setCell ⟨w.heap.size+1,2,none⟩ (.int .u16 (c.cl:Int))).setCell ⟨w.heap.size+1,3,none⟩ (.int .u32 (c.df:Int))).setCell ⟨w.heap.size+1,4,none⟩ (.int .u32 (c.tt:Int))).setCell ⟨w.heap.size+1,5,none⟩ (.bool c.ho)).setCell ⟨w.heap.size+1,6,none⟩ (.bool c.hc)).setCell ⟨w.heap.size+1,7,none⟩ (.bool c.ht)).setCell ⟨w.heap.size+1,8,none⟩ (.bool c.sd))/\St w.heap.size W4 (((((((((W.setCell ⟨w.heap.size+1,0,none⟩ (.slice a.g.a a.g.n a.g.c)).setCell ⟨w.heap.size+1,1,none⟩ (.slice a.o.a a.o.n a.o.c)).setCell ⟨w.heap.size+1,2,none⟩ (.int .u16 (c.cl:Int))).setCell ⟨w.heap.size+1,3,none⟩ (.int .u32 (c.df:Int))).setCell ⟨w.heap.size+1,4,none⟩ (.int .u32 (c.tt:Int))).setCell ⟨w.heap.size+1,5,none⟩ (.bool c.ho)).setCell ⟨w.heap.size+1,6,none⟩ (.bool c.hc)).setCell ⟨w.heap.size+1,7,none⟩ (.bool c.ht)).setCell ⟨w.heap.size+1,8,none⟩ (.bool c.sd)):=by
 have hh:∀j,j≠w.heap.size+1->((((((((((W.setCell ⟨w.heap.size+1,0,none⟩ (.slice a.g.a a.g.n a.g.c)).setCell ⟨w.heap.size+1,1,none⟩ (.slice a.o.a a.o.n a.o.c)).setCell ⟨w.heap.size+1,2,none⟩ (.int .u16 (c.cl:Int))).setCell ⟨w.heap.size+1,3,none⟩ (.int .u32 (c.df:Int))).setCell ⟨w.heap.size+1,4,none⟩ (.int .u32 (c.tt:Int))).setCell ⟨w.heap.size+1,5,none⟩ (.bool c.ho)).setCell ⟨w.heap.size+1,6,none⟩ (.bool c.hc)).setCell ⟨w.heap.size+1,7,none⟩ (.bool c.ht)).setCell ⟨w.heap.size+1,8,none⟩ (.bool c.sd))).heap[j]?=W.heap[j]?:=fun j hj=>nine_heap W (w.heap.size+1) _ _ _ _ _ _ _ _ _ j hj
 have h1:CyB (((((((((W.setCell ⟨w.heap.size+1,0,none⟩ (.slice a.g.a a.g.n a.g.c)).setCell ⟨w.heap.size+1,1,none⟩ (.slice a.o.a a.o.n a.o.c)).setCell ⟨w.heap.size+1,2,none⟩ (.int .u16 (c.cl:Int))).setCell ⟨w.heap.size+1,3,none⟩ (.int .u32 (c.df:Int))).setCell ⟨w.heap.size+1,4,none⟩ (.int .u32 (c.tt:Int))).setCell ⟨w.heap.size+1,5,none⟩ (.bool c.ho)).setCell ⟨w.heap.size+1,6,none⟩ (.bool c.hc)).setCell ⟨w.heap.size+1,7,none⟩ (.bool c.ht)).setCell ⟨w.heap.size+1,8,none⟩ (.bool c.sd)) (w.heap.size+1) a c:=h.cy.all a c
 have h3:=below_nine h.bel (b:=w.heap.size+1) (by omega) (.slice a.g.a a.g.n a.g.c) (.slice a.o.a a.o.n a.o.c) (.int .u16 (c.cl:Int)) (.int .u32 (c.df:Int)) (.int .u32 (c.tt:Int)) (.bool c.ho) (.bool c.hc) (.bool c.ht) (.bool c.sd)
 have h5:=h2.nine (w.heap.size+1) (by omega) (.slice a.g.a a.g.n a.g.c) (.slice a.o.a a.o.n a.o.c) (.int .u16 (c.cl:Int)) (.int .u32 (c.df:Int)) (.int .u32 (c.tt:Int)) (.bool c.ho) (.bool c.hc) (.bool c.ht) (.bool c.sd)
 have h6:=h4.nine (w.heap.size+1) (by omega) (.slice a.g.a a.g.n a.g.c) (.slice a.o.a a.o.n a.o.c) (.int .u16 (c.cl:Int)) (.int .u32 (c.df:Int)) (.int .u32 (c.tt:Int)) (.bool c.ho) (.bool c.hc) (.bool c.ht) (.bool c.sd)
 have hz:((((((((((W.setCell ⟨w.heap.size+1,0,none⟩ (.slice a.g.a a.g.n a.g.c)).setCell ⟨w.heap.size+1,1,none⟩ (.slice a.o.a a.o.n a.o.c)).setCell ⟨w.heap.size+1,2,none⟩ (.int .u16 (c.cl:Int))).setCell ⟨w.heap.size+1,3,none⟩ (.int .u32 (c.df:Int))).setCell ⟨w.heap.size+1,4,none⟩ (.int .u32 (c.tt:Int))).setCell ⟨w.heap.size+1,5,none⟩ (.bool c.ho)).setCell ⟨w.heap.size+1,6,none⟩ (.bool c.hc)).setCell ⟨w.heap.size+1,7,none⟩ (.bool c.ht)).setCell ⟨w.heap.size+1,8,none⟩ (.bool c.sd))).heap.size=W.heap.size:=nine_size _ _ _ _ _ _ _ _ _ _ _
 generalize (((((((((W.setCell ⟨w.heap.size+1,0,none⟩ (.slice a.g.a a.g.n a.g.c)).setCell ⟨w.heap.size+1,1,none⟩ (.slice a.o.a a.o.n a.o.c)).setCell ⟨w.heap.size+1,2,none⟩ (.int .u16 (c.cl:Int))).setCell ⟨w.heap.size+1,3,none⟩ (.int .u32 (c.df:Int))).setCell ⟨w.heap.size+1,4,none⟩ (.int .u32 (c.tt:Int))).setCell ⟨w.heap.size+1,5,none⟩ (.bool c.ho)).setCell ⟨w.heap.size+1,6,none⟩ (.bool c.hc)).setCell ⟨w.heap.size+1,7,none⟩ (.bool c.ht)).setCell ⟨w.heap.size+1,8,none⟩ (.bool c.sd))=V at*
 have hc:∀i,V.cell? ⟨d0,i,none⟩=W.cell? ⟨d0,i,none⟩:=fun i=>by unfold World.cell?;rw[hh d0 hdn]
 exact ⟨⟨(hh _ (by omega)).trans h.en,h1,(hh _ (by omega)).trans h.rc,(hh _ (by omega)).trans h.rz,h3⟩,(hh _ hs).trans hy,⟨(hc 0).trans hd.1,(hc 1).trans hd.2.1,(hc 2).trans hd.2.2.1,(hc 3).trans hd.2.2.2.1,by rw[hz];exact hd.2.2.2.2⟩,h5,h6⟩
theorem rd_end{w W W2 W4:World}{x:Sl}{e:En}{a0:CA}{c0:Cy}(h:RdS w W x e a0 c0)(h2:St w.heap.size W2 W)(h4:St w.heap.size W4 W)(v1 v2 v3 v4:Value)(xr:RA)(rc:Rec)(a:CA)(c:Cy) :
  RcB (((((((((((((((((((((W.setCell ⟨w.heap.size+1,1,none⟩ v1).setCell ⟨w.heap.size+1,5,none⟩ v2).setCell ⟨w.heap.size+1,2,none⟩ v3).setCell ⟨w.heap.size+1,6,none⟩ v4).setCell ⟨w.heap.size+1+1,0,none⟩ (.slice xr.o.a xr.o.n xr.o.c)).setCell ⟨w.heap.size+1+1,1,none⟩ (.int .u16 (rc.t:Int))).setCell ⟨w.heap.size+1+1,2,none⟩ (.int .u16 (rc.cl:Int))).setCell ⟨w.heap.size+1+1,3,none⟩ (.int .u32 (rc.tt:Int))).setCell ⟨w.heap.size+1+1,4,none⟩ (.slice xr.d.p1.a xr.d.p1.n xr.d.p1.c)).setCell ⟨w.heap.size+1+1,5,none⟩ (.slice xr.d.p2.a xr.d.p2.n xr.d.p2.c)).setCell ⟨w.heap.size+1+1,6,none⟩ (.slice xr.d.p3.a xr.d.p3.n xr.d.p3.c)).setCell ⟨w.heap.size+1+1,7,none⟩ (.slice xr.d.p4.a xr.d.p4.n xr.d.p4.c)).setCell ⟨w.heap.size+1+1+1,0,none⟩ (.slice a.g.a a.g.n a.g.c)).setCell ⟨w.heap.size+1+1+1,1,none⟩ (.slice a.o.a a.o.n a.o.c)).setCell ⟨w.heap.size+1+1+1,2,none⟩ (.int .u16 (c.cl:Int))).setCell ⟨w.heap.size+1+1+1,3,none⟩ (.int .u32 (c.df:Int))).setCell ⟨w.heap.size+1+1+1,4,none⟩ (.int .u32 (c.tt:Int))).setCell ⟨w.heap.size+1+1+1,5,none⟩ (.bool c.ho)).setCell ⟨w.heap.size+1+1+1,6,none⟩ (.bool c.hc)).setCell ⟨w.heap.size+1+1+1,7,none⟩ (.bool c.ht)).setCell ⟨w.heap.size+1+1+1,8,none⟩ (.bool c.sd)).drew (w.heap.size+1+1) xr rc/\CyB (((((((((((((((((((((W.setCell ⟨w.heap.size+1,1,none⟩ v1).setCell ⟨w.heap.size+1,5,none⟩ v2).setCell ⟨w.heap.size+1,2,none⟩ v3).setCell ⟨w.heap.size+1,6,none⟩ v4).setCell ⟨w.heap.size+1+1,0,none⟩ (.slice xr.o.a xr.o.n xr.o.c)).setCell ⟨w.heap.size+1+1,1,none⟩ (.int .u16 (rc.t:Int))).setCell ⟨w.heap.size+1+1,2,none⟩ (.int .u16 (rc.cl:Int))).setCell ⟨w.heap.size+1+1,3,none⟩ (.int .u32 (rc.tt:Int))).setCell ⟨w.heap.size+1+1,4,none⟩ (.slice xr.d.p1.a xr.d.p1.n xr.d.p1.c)).setCell ⟨w.heap.size+1+1,5,none⟩ (.slice xr.d.p2.a xr.d.p2.n xr.d.p2.c)).setCell ⟨w.heap.size+1+1,6,none⟩ (.slice xr.d.p3.a xr.d.p3.n xr.d.p3.c)).setCell ⟨w.heap.size+1+1,7,none⟩ (.slice xr.d.p4.a xr.d.p4.n xr.d.p4.c)).setCell ⟨w.heap.size+1+1+1,0,none⟩ (.slice a.g.a a.g.n a.g.c)).setCell ⟨w.heap.size+1+1+1,1,none⟩ (.slice a.o.a a.o.n a.o.c)).setCell ⟨w.heap.size+1+1+1,2,none⟩ (.int .u16 (c.cl:Int))).setCell ⟨w.heap.size+1+1+1,3,none⟩ (.int .u32 (c.df:Int))).setCell ⟨w.heap.size+1+1+1,4,none⟩ (.int .u32 (c.tt:Int))).setCell ⟨w.heap.size+1+1+1,5,none⟩ (.bool c.ho)).setCell ⟨w.heap.size+1+1+1,6,none⟩ (.bool c.hc)).setCell ⟨w.heap.size+1+1+1,7,none⟩ (.bool c.ht)).setCell ⟨w.heap.size+1+1+1,8,none⟩ (.bool c.sd)).drew (w.heap.size+1+1+1) a c/\Below w.heap.size w (((((((((((((((((((((W.setCell ⟨w.heap.size+1,1,none⟩ v1).setCell ⟨w.heap.size+1,5,none⟩ v2).setCell ⟨w.heap.size+1,2,none⟩ v3).setCell ⟨w.heap.size+1,6,none⟩ v4).setCell ⟨w.heap.size+1+1,0,none⟩ (.slice xr.o.a xr.o.n xr.o.c)).setCell ⟨w.heap.size+1+1,1,none⟩ (.int .u16 (rc.t:Int))).setCell ⟨w.heap.size+1+1,2,none⟩ (.int .u16 (rc.cl:Int))).setCell ⟨w.heap.size+1+1,3,none⟩ (.int .u32 (rc.tt:Int))).setCell ⟨w.heap.size+1+1,4,none⟩ (.slice xr.d.p1.a xr.d.p1.n xr.d.p1.c)).setCell ⟨w.heap.size+1+1,5,none⟩ (.slice xr.d.p2.a xr.d.p2.n xr.d.p2.c)).setCell ⟨w.heap.size+1+1,6,none⟩ (.slice xr.d.p3.a xr.d.p3.n xr.d.p3.c)).setCell ⟨w.heap.size+1+1,7,none⟩ (.slice xr.d.p4.a xr.d.p4.n xr.d.p4.c)).setCell ⟨w.heap.size+1+1+1,0,none⟩ (.slice a.g.a a.g.n a.g.c)).setCell ⟨w.heap.size+1+1+1,1,none⟩ (.slice a.o.a a.o.n a.o.c)).setCell ⟨w.heap.size+1+1+1,2,none⟩ (.int .u16 (c.cl:Int))).setCell ⟨w.heap.size+1+1+1,3,none⟩ (.int .u32 (c.df:Int))).setCell ⟨w.heap.size+1+1+1,4,none⟩ (.int .u32 (c.tt:Int))).setCell ⟨w.heap.size+1+1+1,5,none⟩ (.bool c.ho)).setCell ⟨w.heap.size+1+1+1,6,none⟩ (.bool c.hc)).setCell ⟨w.heap.size+1+1+1,7,none⟩ (.bool c.ht)).setCell ⟨w.heap.size+1+1+1,8,none⟩ (.bool c.sd)).drew/\St w.heap.size W2 (((((((((((((((((((((W.setCell ⟨w.heap.size+1,1,none⟩ v1).setCell ⟨w.heap.size+1,5,none⟩ v2).setCell ⟨w.heap.size+1,2,none⟩ v3).setCell ⟨w.heap.size+1,6,none⟩ v4).setCell ⟨w.heap.size+1+1,0,none⟩ (.slice xr.o.a xr.o.n xr.o.c)).setCell ⟨w.heap.size+1+1,1,none⟩ (.int .u16 (rc.t:Int))).setCell ⟨w.heap.size+1+1,2,none⟩ (.int .u16 (rc.cl:Int))).setCell ⟨w.heap.size+1+1,3,none⟩ (.int .u32 (rc.tt:Int))).setCell ⟨w.heap.size+1+1,4,none⟩ (.slice xr.d.p1.a xr.d.p1.n xr.d.p1.c)).setCell ⟨w.heap.size+1+1,5,none⟩ (.slice xr.d.p2.a xr.d.p2.n xr.d.p2.c)).setCell ⟨w.heap.size+1+1,6,none⟩ (.slice xr.d.p3.a xr.d.p3.n xr.d.p3.c)).setCell ⟨w.heap.size+1+1,7,none⟩ (.slice xr.d.p4.a xr.d.p4.n xr.d.p4.c)).setCell ⟨w.heap.size+1+1+1,0,none⟩ (.slice a.g.a a.g.n a.g.c)).setCell ⟨w.heap.size+1+1+1,1,none⟩ (.slice a.o.a a.o.n a.o.c)).setCell ⟨w.heap.size+1+1+1,2,none⟩ (.int .u16 (c.cl:Int))).setCell ⟨w.heap.size+1+1+1,3,none⟩ (.int .u32 (c.df:Int))).setCell ⟨w.heap.size+1+1+1,4,none⟩ (.int .u32 (c.tt:Int))).setCell ⟨w.heap.size+1+1+1,5,none⟩ (.bool c.ho)).setCell ⟨w.heap.size+1+1+1,6,none⟩ (.bool c.hc)).setCell ⟨w.heap.size+1+1+1,7,none⟩ (.bool c.ht)).setCell ⟨w.heap.size+1+1+1,8,none⟩ (.bool c.sd)).drew/\St w.heap.size W4 (((((((((((((((((((((W.setCell ⟨w.heap.size+1,1,none⟩ v1).setCell ⟨w.heap.size+1,5,none⟩ v2).setCell ⟨w.heap.size+1,2,none⟩ v3).setCell ⟨w.heap.size+1,6,none⟩ v4).setCell ⟨w.heap.size+1+1,0,none⟩ (.slice xr.o.a xr.o.n xr.o.c)).setCell ⟨w.heap.size+1+1,1,none⟩ (.int .u16 (rc.t:Int))).setCell ⟨w.heap.size+1+1,2,none⟩ (.int .u16 (rc.cl:Int))).setCell ⟨w.heap.size+1+1,3,none⟩ (.int .u32 (rc.tt:Int))).setCell ⟨w.heap.size+1+1,4,none⟩ (.slice xr.d.p1.a xr.d.p1.n xr.d.p1.c)).setCell ⟨w.heap.size+1+1,5,none⟩ (.slice xr.d.p2.a xr.d.p2.n xr.d.p2.c)).setCell ⟨w.heap.size+1+1,6,none⟩ (.slice xr.d.p3.a xr.d.p3.n xr.d.p3.c)).setCell ⟨w.heap.size+1+1,7,none⟩ (.slice xr.d.p4.a xr.d.p4.n xr.d.p4.c)).setCell ⟨w.heap.size+1+1+1,0,none⟩ (.slice a.g.a a.g.n a.g.c)).setCell ⟨w.heap.size+1+1+1,1,none⟩ (.slice a.o.a a.o.n a.o.c)).setCell ⟨w.heap.size+1+1+1,2,none⟩ (.int .u16 (c.cl:Int))).setCell ⟨w.heap.size+1+1+1,3,none⟩ (.int .u32 (c.df:Int))).setCell ⟨w.heap.size+1+1+1,4,none⟩ (.int .u32 (c.tt:Int))).setCell ⟨w.heap.size+1+1+1,5,none⟩ (.bool c.ho)).setCell ⟨w.heap.size+1+1+1,6,none⟩ (.bool c.hc)).setCell ⟨w.heap.size+1+1+1,7,none⟩ (.bool c.ht)).setCell ⟨w.heap.size+1+1+1,8,none⟩ (.bool c.sd)).drew:=by
 have s0:∀(w':World) (u:Value) (i j:Nat),j≠w.heap.size+1->(w'.setCell ⟨w.heap.size+1,i,none⟩ u).heap[j]?=w'.heap[j]?:=fun w' u i j hj=>Below.heap_setCell _ _ _ j (by show j≠w.heap.size+1;exact hj)
 have q1:RcB ((((W.setCell ⟨w.heap.size+1,1,none⟩ v1).setCell ⟨w.heap.size+1,5,none⟩ v2).setCell ⟨w.heap.size+1,2,none⟩ v3).setCell ⟨w.heap.size+1,6,none⟩ v4) (w.heap.size+1+1) ra0 rec0:=by
  unfold RcB
  rw[s0 _ _ _ _ (by omega),s0 _ _ _ _ (by omega),s0 _ _ _ _ (by omega),s0 _ _ _ _ (by omega)]
  exact h.rc
 have q2:CyB ((((W.setCell ⟨w.heap.size+1,1,none⟩ v1).setCell ⟨w.heap.size+1,5,none⟩ v2).setCell ⟨w.heap.size+1,2,none⟩ v3).setCell ⟨w.heap.size+1,6,none⟩ v4) (w.heap.size+1+1+1) ca0 (cy0 []):=by
  unfold CyB
  rw[s0 _ _ _ _ (by omega),s0 _ _ _ _ (by omega),s0 _ _ _ _ (by omega),s0 _ _ _ _ (by omega)]
  exact h.rz
 have q3:=(((h.bel.setCell (p:=⟨w.heap.size+1,1,none⟩) (Nat.le_succ _) v1).setCell (p:=⟨w.heap.size+1,5,none⟩) (Nat.le_succ _) v2).setCell (p:=⟨w.heap.size+1,2,none⟩) (Nat.le_succ _) v3).setCell (p:=⟨w.heap.size+1,6,none⟩) (Nat.le_succ _) v4
 have q4:=(((h2.set (w.heap.size+1) 1 v1 (by omega)).set (w.heap.size+1) 5 v2 (by omega)).set (w.heap.size+1) 2 v3 (by omega)).set (w.heap.size+1) 6 v4 (by omega)
 have q5:=(((h4.set (w.heap.size+1) 1 v1 (by omega)).set (w.heap.size+1) 5 v2 (by omega)).set (w.heap.size+1) 2 v3 (by omega)).set (w.heap.size+1) 6 v4 (by omega)
 generalize ((((W.setCell ⟨w.heap.size+1,1,none⟩ v1).setCell ⟨w.heap.size+1,5,none⟩ v2).setCell ⟨w.heap.size+1,2,none⟩ v3).setCell ⟨w.heap.size+1,6,none⟩ v4)=V at*
 have r1:=q1.all xr rc
 have r2:CyB ((((((((V.setCell ⟨w.heap.size+1+1,0,none⟩ (.slice xr.o.a xr.o.n xr.o.c)).setCell ⟨w.heap.size+1+1,1,none⟩ (.int .u16 (rc.t:Int))).setCell ⟨w.heap.size+1+1,2,none⟩ (.int .u16 (rc.cl:Int))).setCell ⟨w.heap.size+1+1,3,none⟩ (.int .u32 (rc.tt:Int))).setCell ⟨w.heap.size+1+1,4,none⟩ (.slice xr.d.p1.a xr.d.p1.n xr.d.p1.c)).setCell ⟨w.heap.size+1+1,5,none⟩ (.slice xr.d.p2.a xr.d.p2.n xr.d.p2.c)).setCell ⟨w.heap.size+1+1,6,none⟩ (.slice xr.d.p3.a xr.d.p3.n xr.d.p3.c)).setCell ⟨w.heap.size+1+1,7,none⟩ (.slice xr.d.p4.a xr.d.p4.n xr.d.p4.c)) (w.heap.size+1+1+1) ca0 (cy0 []):=(eight_heap V (w.heap.size+1+1) _ _ _ _ _ _ _ _ _ (by omega)).trans q2
 have r3:=below_eight q3 (b:=w.heap.size+1+1) (by omega) (.slice xr.o.a xr.o.n xr.o.c) (.int .u16 (rc.t:Int)) (.int .u16 (rc.cl:Int)) (.int .u32 (rc.tt:Int)) (.slice xr.d.p1.a xr.d.p1.n xr.d.p1.c) (.slice xr.d.p2.a xr.d.p2.n xr.d.p2.c) (.slice xr.d.p3.a xr.d.p3.n xr.d.p3.c) (.slice xr.d.p4.a xr.d.p4.n xr.d.p4.c)
 have r4:=q4.eight (w.heap.size+1+1) (by omega) (.slice xr.o.a xr.o.n xr.o.c) (.int .u16 (rc.t:Int)) (.int .u16 (rc.cl:Int)) (.int .u32 (rc.tt:Int)) (.slice xr.d.p1.a xr.d.p1.n xr.d.p1.c) (.slice xr.d.p2.a xr.d.p2.n xr.d.p2.c) (.slice xr.d.p3.a xr.d.p3.n xr.d.p3.c) (.slice xr.d.p4.a xr.d.p4.n xr.d.p4.c)
 have r5:=q5.eight (w.heap.size+1+1) (by omega) (.slice xr.o.a xr.o.n xr.o.c) (.int .u16 (rc.t:Int)) (.int .u16 (rc.cl:Int)) (.int .u32 (rc.tt:Int)) (.slice xr.d.p1.a xr.d.p1.n xr.d.p1.c) (.slice xr.d.p2.a xr.d.p2.n xr.d.p2.c) (.slice xr.d.p3.a xr.d.p3.n xr.d.p3.c) (.slice xr.d.p4.a xr.d.p4.n xr.d.p4.c)
 generalize ((((((((V.setCell ⟨w.heap.size+1+1,0,none⟩ (.slice xr.o.a xr.o.n xr.o.c)).setCell ⟨w.heap.size+1+1,1,none⟩ (.int .u16 (rc.t:Int))).setCell ⟨w.heap.size+1+1,2,none⟩ (.int .u16 (rc.cl:Int))).setCell ⟨w.heap.size+1+1,3,none⟩ (.int .u32 (rc.tt:Int))).setCell ⟨w.heap.size+1+1,4,none⟩ (.slice xr.d.p1.a xr.d.p1.n xr.d.p1.c)).setCell ⟨w.heap.size+1+1,5,none⟩ (.slice xr.d.p2.a xr.d.p2.n xr.d.p2.c)).setCell ⟨w.heap.size+1+1,6,none⟩ (.slice xr.d.p3.a xr.d.p3.n xr.d.p3.c)).setCell ⟨w.heap.size+1+1,7,none⟩ (.slice xr.d.p4.a xr.d.p4.n xr.d.p4.c))=U at*
 exact ⟨RcB.drew ((nine_heap U (w.heap.size+1+1+1) _ _ _ _ _ _ _ _ _ _ (by omega)).trans r1),CyB.drew (r2.all a c),(below_nine r3 (b:=w.heap.size+1+1+1) (by omega) _ _ _ _ _ _ _ _ _).drew,(r4.nine (w.heap.size+1+1+1) (by omega) _ _ _ _ _ _ _ _ _).drew,(r5.nine (w.heap.size+1+1+1) (by omega) _ _ _ _ _ _ _ _ _).drew⟩
theorem rd_own{b B:Nat}{W2 W9:World}{sl:Sl}{nm:List ByteArray}(h:Own1 B W2 sl nm)(hs:St b W2 W9)(hb:b+3<B):Own1 b W9 sl nm:=Own1.mono (B:=B) (h.keep fun j h1 h2 _=>hs.bl j (by omega) h2) (by omega)
theorem rd_dat{b B:Nat}{W2 W9:World}{x4:DA}{d:Dat}(h:DOwn B W2 x4 d)(hs:St b W2 W9)(hb:b+3<B):DOwn b W9 x4 d:=DOwn.mono (B:=B) (h.keep fun j h1 h2=>hs.bl j (by omega) h2) (by omega)
theorem read_any(x:Sl)(e:En)(a:CA)(c:Cy)(w:World)(h:Ws w x e.ws)(hc:CRd w a c)(hE:LayE w)(hL:LayT w):Calls Tryz.prog 64 #[enV x e,caV a c] w (ReP (entF e c) a w):=by
 have HS:=Lib.hid (RdS.new w x e a c)
 have KM:Hid (∀W,Below w.heap.size w W->Calls Tryz.prog 86 #[enV x e] W fun r w'=>r=.returned (.bool (marked e))/\Hid (Below W.heap.size W w')):=fun W hW=>marked_any x e W (h.below hW)
 have KO:Hid (e.ws≠[]->∀W,Below w.heap.size w W->Calls Tryz.prog 87 #[enV x e,caV a c] W (OwP (ownF e c) W)):=fun hne W hW=>owner_any x e a c W (h.below hW) (hc.below hW) hne
 have HN:Hid (x.n=e.ws.length):=h.n
 have HE:Hid (∀W,Below w.heap.size w W->LayT W/\LayE W/\CRd W a c):=fun W hW=>⟨hL.below hW,hE.below hW,hc.below hW⟩
 have HB4:Hid (∀o1 o2 o3 o4:Obj,Below w.heap.size w ((((w.alloc o1).alloc o2).alloc o3).alloc o4).drew):=fun o1 o2 o3 o4=>
  (((new_below w o1).trans ((new_below _ o2).mono (by simp))).trans (((new_below _ o3).mono (by simp;omega)).trans ((new_below _ o4).mono (by simp;omega)))).drew
 have F1:=Lib.hid (ent1 (e:=e) (c:=c))
 have F2:=Lib.hid (ent2 (e:=e) (c:=c))
 have F3:=Lib.hid (@ent3 e c)
 have F4:=Lib.hid (@ent4 e c)
 have F5:=Lib.hid (@ent5 e c)
 have F6:=Lib.hid (@ent6 e c)
 clear h hc hE hL
 generalize entF e c=R at*
 by_cases hnil:e.ws=[]
 ·have HF:=Lib.hid (F1.out (.inl hnil))
  have hx0:x.n=0:=by have:=HN.out;rw[hnil] at this;exact this
  clear KM KO HE HN F1 F2 F3 F4 F5 F6
  obtain ⟨xa,xn,xc⟩:=x
  simp only at hx0
  subst hx0
  go_enter Tryz.func64,Tryz.ntmps64
  go_wp2_with fail
  go_region_law (fail)
  all_goals
   go_wp2_with fail
   exact bodyPost_ret (v:=.tuple #[.agg #[.slice none 0 0,.int .u16 0,.int .u16 0,.int .u32 0,.slice none 0 0,.slice none 0 0,.slice none 0 0,.slice none 0 0],caV a c,.int .i64 240]) (by simp[results,Tryz.results64,go_sem]) rfl ⟨ra0,rec0,a,c,240,rfl,HB4.out _ _ _ _,.inr ⟨by decide,HF.out⟩⟩
 ·have hx0:¬ x.n=0:=fun h=>hnil (List.length_eq_zero_iff.1 (HN.out.symm.trans h))
  have hx1:¬ (x.n:Int)=0:=by omega
  have hx2:((x.n:Int) == 0)=false:=by rw[beq_eq_false_iff_ne];exact hx1
  clear HB4
  have KM2:=Lib.hid (KM.out _ HS.out.bel)
  cases hm:marked e with
  |true=>
   have HF:=Lib.hid (F1.out (.inr hm))
   rw[hm] at KM2
   clear KM KO HE HN F1 F2 F3 F4 F5 F6
   go_enter Tryz.func64,Tryz.ntmps64
   go_wp2_with fail
   refine KM2.out.mono ?_
   rintro r W ⟨rfl,HB⟩
   have HS2:=Lib.hid (HS.out.below HB.out)
   clear HS HB KM2
   go_wp2_with fail
   have r0:=HS2.out.cy.c0
   have r1:=HS2.out.cy.c1
   have r2:=HS2.out.cy.c2
   have r3:=HS2.out.cy.c3
   have r4:=HS2.out.cy.c4
   have r5:=HS2.out.cy.c5
   have r6:=HS2.out.cy.c6
   have r7:=HS2.out.cy.c7
   have r8:=HS2.out.cy.c8
   have z0:=HS2.out.rc.c0
   have z1:=HS2.out.rc.c1
   have z2:=HS2.out.rc.c2
   have z3:=HS2.out.rc.c3
   have z4:=HS2.out.rc.c4
   have z5:=HS2.out.rc.c5
   have z6:=HS2.out.rc.c6
   have z7:=HS2.out.rc.c7
   have zf0:=HS2.out.rc.fz 0
   have zf1:=HS2.out.rc.fz 1
   have zf2:=HS2.out.rc.fz 2
   have zf3:=HS2.out.rc.fz 3
   have zf4:=HS2.out.rc.fz 4
   have zf5:=HS2.out.rc.fz 5
   have zf6:=HS2.out.rc.fz 6
   have zf7:=HS2.out.rc.fz 7
   have q0:=HS2.out.rz.c0
   have q1:=HS2.out.rz.c1
   have q2:=HS2.out.rz.c2
   have q3:=HS2.out.rz.c3
   have q4:=HS2.out.rz.c4
   have q5:=HS2.out.rz.c5
   have q6:=HS2.out.rz.c6
   have q7:=HS2.out.rz.c7
   have q8:=HS2.out.rz.c8
   have qf0:=HS2.out.rz.fz 0
   have qf1:=HS2.out.rz.fz 1
   have qf2:=HS2.out.rz.fz 2
   have qf3:=HS2.out.rz.fz 3
   have qf4:=HS2.out.rz.fz 4
   have qf5:=HS2.out.rz.fz 5
   have qf6:=HS2.out.rz.fz 6
   have qf7:=HS2.out.rz.fz 7
   have qf8:=HS2.out.rz.fz 8
   simp only[ra0,rec0,ca0,cy0] at z0 z1 z2 z3 z4 z5 z6 z7 q0 q1 q2 q3 q4 q5 q6 q7 q8
   have zl:=HS2.out.rc.lt
   have ql:=HS2.out.rz.lt
   go_region_law (fail)
   all_goals
    go_wp2_with fail
    have HX:=Lib.hid (rd_exit (a:=a) (c:=c) HS2.out)
    generalize (((((((((((((((((W.setCell ⟨w.heap.size+1+1,0,none⟩ (.slice none 0 0)).setCell ⟨w.heap.size+1+1,1,none⟩ (.int .u16 0)).setCell ⟨w.heap.size+1+1,2,none⟩ (.int .u16 0)).setCell ⟨w.heap.size+1+1,3,none⟩ (.int .u32 0)).setCell ⟨w.heap.size+1+1,4,none⟩ (.slice none 0 0)).setCell ⟨w.heap.size+1+1,5,none⟩ (.slice none 0 0)).setCell ⟨w.heap.size+1+1,6,none⟩ (.slice none 0 0)).setCell ⟨w.heap.size+1+1,7,none⟩ (.slice none 0 0)).setCell ⟨w.heap.size+1+1+1,0,none⟩ (.slice a.g.a a.g.n a.g.c)).setCell ⟨w.heap.size+1+1+1,1,none⟩ (.slice a.o.a a.o.n a.o.c)).setCell ⟨w.heap.size+1+1+1,2,none⟩ (.int .u16 (c.cl:Int))).setCell ⟨w.heap.size+1+1+1,3,none⟩ (.int .u32 (c.df:Int))).setCell ⟨w.heap.size+1+1+1,4,none⟩ (.int .u32 (c.tt:Int))).setCell ⟨w.heap.size+1+1+1,5,none⟩ (.bool c.ho)).setCell ⟨w.heap.size+1+1+1,6,none⟩ (.bool c.hc)).setCell ⟨w.heap.size+1+1+1,7,none⟩ (.bool c.ht)).setCell ⟨w.heap.size+1+1+1,8,none⟩ (.bool c.sd)).drew=W9 at*
    have u0:=HX.out.1.c0
    have u1:=HX.out.1.c1
    have u2:=HX.out.1.c2
    have u3:=HX.out.1.c3
    have u4:=HX.out.1.c4
    have u5:=HX.out.1.c5
    have u6:=HX.out.1.c6
    have u7:=HX.out.1.c7
    have y0:=HX.out.2.1.c0
    have y1:=HX.out.2.1.c1
    have y2:=HX.out.2.1.c2
    have y3:=HX.out.2.1.c3
    have y4:=HX.out.2.1.c4
    have y5:=HX.out.2.1.c5
    have y6:=HX.out.2.1.c6
    have y7:=HX.out.2.1.c7
    have y8:=HX.out.2.1.c8
    simp only[ra0,rec0] at u0 u1 u2 u3 u4 u5 u6 u7
    exact bodyPost_ret (v:=.tuple #[.agg #[.slice none 0 0,.int .u16 0,.int .u16 0,.int .u32 0,.slice none 0 0,.slice none 0 0,.slice none 0 0,.slice none 0 0],caV a c,.int .i64 240]) (by simp[results,Tryz.results64,go_sem,u0,u1,u2,u3,u4,u5,u6,u7,y0,y1,y2,y3,y4,y5,y6,y7,y8]) rfl ⟨ra0,rec0,a,c,240,rfl,HX.out.2.2,.inr ⟨by decide,HF.out⟩⟩
  |false=>
   have HNO:Hid (¬ (e.ws=[]∨marked e=true)):=by
    show ¬ _
    rw[hm]
    simp[hnil]
   rw[hm] at KM2
   have KO2:=Lib.hid (KO.out hnil)
   clear KM KO HN F1 hnil hm
   have F2':=Lib.hid (F2.out HNO.out)
   have F3':Hid ((ownF e c).2.2=0->∀er,saysF say0 (ownF e c).2.1=.error er->R=.error er):=fun h2 er h3=>F3.out HNO.out h2 h3
   have F4':Hid ((ownF e c).2.2=0->∀y r,saysF say0 (ownF e c).2.1=.ok (y,r)->prsF y.k c.og r=none->R=.error 7):=fun h2 y r h3 h4=>F4.out HNO.out h2 h3 h4
   have F5':Hid ((ownF e c).2.2=0->∀y r,saysF say0 (ownF e c).2.1=.ok (y,r)->∀d,prsF y.k c.og r=some d->tmF y d c=none->R=.error 9):=fun h2 y r h3 d h4 h5=>F5.out HNO.out h2 h3 h4 h5
   have F6':Hid ((ownF e c).2.2=0->∀y r,saysF say0 (ownF e c).2.1=.ok (y,r)->∀d,prsF y.k c.og r=some d->∀n c',tmF y d c=some (n,c')->R=.ok (⟨(ownF e c).1,y.k,csF y c',n,d⟩,{ c' with ow:=(ownF e c).1,ho:=true,cl:=csF y c',hc:=true })):=fun h2 y r h3 d h4 n c' h5=>F6.out HNO.out h2 h3 h4 h5
   clear F2 F3 F4 F5 F6 HNO
   generalize ownF e c=O at*
   obtain ⟨O1,O2,O3⟩:=O
   simp only at F2' F3' F4' F5' F6'
   go_enter Tryz.func64,Tryz.ntmps64
   go_wp2_with fail
   refine KM2.out.mono ?_
   rintro r W ⟨rfl,HB⟩
   have HS2:=Lib.hid (HS.out.below HB.out)
   clear HS HB KM2
   have KO3:=Lib.hid (KO2.out W HS2.out.bel)
   clear KO2
   have r0:=HS2.out.cy.c0
   have r1:=HS2.out.cy.c1
   have r2:=HS2.out.cy.c2
   have r3:=HS2.out.cy.c3
   have r4:=HS2.out.cy.c4
   have r5:=HS2.out.cy.c5
   have r6:=HS2.out.cy.c6
   have r7:=HS2.out.cy.c7
   have r8:=HS2.out.cy.c8
   have e0:=HS2.out.e0
   have e1:=HS2.out.e1
   have e2:=HS2.out.e2
   go_wp2_with fail
   refine KO3.out.mono ?_
   rintro r W2 ⟨v,ys,x2,rfl,H2,HW2⟩
   obtain ⟨ao,hv,-⟩:=H2.out.2.1.shape
   subst hv
   have HS3:=Lib.hid (HS2.out.below H2.out.1)
   have HOW:Hid (Own1 W.heap.size W2 ⟨ao,O1.length,ys.length⟩ O1):=⟨ys,H2.out.2.1,H2.out.2.2⟩
   have HWS:Hid (w.heap.size+3<W.heap.size):=HS2.out.rz.lt
   clear KO3 H2 HS2 r0 r1 r2 r3 r4 r5 r6 r7 r8 e0 e1 e2
   by_cases hO:O3=0
   ·have HQ2:=Lib.hid (HW2.out hO)
    subst hO
    have F3:=Lib.hid (F3'.out rfl)
    have F4:=Lib.hid (F4'.out rfl)
    have F5:=Lib.hid (F5'.out rfl)
    have F6:=Lib.hid (F6'.out rfl)
    clear F2' F3' F4' F5' F6' HW2
    have KS:=Lib.hid (says_any x2 O2 W2 HQ2.out (HE.out _ HS3.out.bel).1 (HE.out _ HS3.out.bel).2.1)
    have hsay:=says_stored O2 say0
    have HSAY:Hid (∀y r,saysF say0 O2=.ok (y,r)->storedF (y.k:Int)=true):=fun y r h=>hsay y r rfl h
    clear HQ2 hsay
    generalize saysF say0 O2=SF at*
    go_wp2_with fail
    refine KS.out.mono ?_
    rintro r W3 ⟨y,x3,er,rfl,HB3,HQ3⟩
    have HS4:=Lib.hid (HS3.out.below HB3.out)
    have HST:=Lib.hid (St.of (b:=w.heap.size) HB3.out)
    clear KS HB3 HS3
    rcases HQ3.out with ⟨rfl,r3,hok,hws⟩|⟨hne,herr⟩
    ·have HOK:=Lib.hid hok
     have HW3:=Lib.hid hws
     clear HQ3 hok hws
     have HSA:=Lib.hid (HS4.out.below (new_below W3 (.cells #[.int .u16 (y.k:Int),.int .u16 (y.c:Int),.int .u32 (y.t:Int),.bool y.hk,.bool y.hc,.bool y.ht] 143)))
     have HYA:Hid (SyB (W3.alloc (.cells #[.int .u16 (y.k:Int),.int .u16 (y.c:Int),.int .u32 (y.t:Int),.bool y.hk,.bool y.hc,.bool y.ht] 143)) W3.heap.size y):=heap_alloc_new _ _
     have HWA:=Lib.hid (HW3.out.below (new_below W3 (.cells #[.int .u16 (y.k:Int),.int .u16 (y.c:Int),.int .u32 (y.t:Int),.bool y.hk,.bool y.hc,.bool y.ht] 143)))
     have HSTA:=Lib.hid (HST.out.trans (St.of (b:=w.heap.size) (new_below W3 (.cells #[.int .u16 (y.k:Int),.int .u16 (y.c:Int),.int .u32 (y.t:Int),.bool y.hk,.bool y.hc,.bool y.ht] 143))))
     have HSZ:Hid (w.heap.size+3<W3.heap.size):=HS4.out.rz.lt
     clear HS4 HST HW3
     obtain ⟨xa3,xn3,xc3⟩:=x3
     have hxn:xn3=r3.length:=HWA.out.n
     subst hxn
     have KP:=Lib.hid (parse_g y.k xa3 r3 xc3 a.g.a a.g.n a.g.c c.og _ HWA.out.rd HWA.out.c HWA.out.c63 HWA.out.wb (HE.out _ HSA.out.bel).2.2.g (HE.out _ HSA.out.bel).2.1 (HE.out _ HSA.out.bel).2.2.k (stored_may (HSAY.out y r3 HOK.out)))
     have HP5:Hid (∀d,prsF y.k c.og r3=some d->y.k=6->d.us.length=5):=fun d h1 h2=>prs_soa h1 h2
     have r0:=HSA.out.cy.c0
     have y0:=HYA.out.c0
     go_wp2_with fail
     generalize W3.alloc (.cells #[.int .u16 (y.k:Int),.int .u16 (y.c:Int),.int .u32 (y.t:Int),.bool y.hk,.bool y.hc,.bool y.ht] 143)=W3a at*
     clear r0 y0
     have F4':Hid (prsF y.k c.og r3=none->R=.error 7):=F4.out y r3 HOK.out
     have F5':Hid (∀d,prsF y.k c.og r3=some d->tmF y d c=none->R=.error 9):=F5.out y r3 HOK.out
     have F6':Hid (∀d,prsF y.k c.og r3=some d->∀n c',tmF y d c=some (n,c')->R=.ok (⟨O1,y.k,csF y c',n,d⟩,{ c' with ow:=O1,ho:=true,cl:=csF y c',hc:=true })):=F6.out y r3 HOK.out
     clear F3 F4 F5 F6 HOK HSAY HWA
     generalize prsF y.k c.og r3=PF at*
     refine KP.out.mono ?_
     rintro r W4 ⟨x4,er4,rfl,HQ4⟩
     have HS5:=Lib.hid (HSA.out.below HQ4.out.1)
     have HY5:Hid (SyB W4 W3.heap.size y):=(HQ4.out.1.block _ HYA.out.lt).trans HYA.out
     have HST5:=Lib.hid (HSTA.out.trans (St.of (b:=w.heap.size) HQ4.out.1))
     have HS3a:Hid (w.heap.size+3<W3a.heap.size):=HSA.out.rz.lt
     clear KP HSA HYA HSTA
     have HSB:=Lib.hid (HS5.out.below (new_below W4 (.cells #[.slice x4.p1.a x4.p1.n x4.p1.c,.slice x4.p2.a x4.p2.n x4.p2.c,.slice x4.p3.a x4.p3.n x4.p3.c,.slice x4.p4.a x4.p4.n x4.p4.c] 48)))
     rcases HQ4.out.2 with ⟨rfl,d,hpf,hdo⟩|⟨rfl,hpf,-⟩
     ·have HDO:=Lib.hid hdo
      have F5:=Lib.hid (F5'.out d hpf)
      have F6:=Lib.hid (F6'.out d hpf)
      have H5:=Lib.hid (HP5.out d hpf)
      have HQ4s:=Lib.hid HQ4.out.1.size
      clear hdo hpf HQ4 F4' F5' F6' HP5
      have HYB:Hid (SyB (W4.alloc (.cells #[.slice x4.p1.a x4.p1.n x4.p1.c,.slice x4.p2.a x4.p2.n x4.p2.c,.slice x4.p3.a x4.p3.n x4.p3.c,.slice x4.p4.a x4.p4.n x4.p4.c] 48)) W3.heap.size y):=((new_below W4 (.cells #[.slice x4.p1.a x4.p1.n x4.p1.c,.slice x4.p2.a x4.p2.n x4.p2.c,.slice x4.p3.a x4.p3.n x4.p3.c,.slice x4.p4.a x4.p4.n x4.p4.c] 48)).block _ HY5.out.lt).trans HY5.out
      have HDB:=Lib.hid (DBox.new W4 x4)
      have HSTB:=Lib.hid (HST5.out.trans (St.of (b:=w.heap.size) (new_below W4 (.cells #[.slice x4.p1.a x4.p1.n x4.p1.c,.slice x4.p2.a x4.p2.n x4.p2.c,.slice x4.p3.a x4.p3.n x4.p3.c,.slice x4.p4.a x4.p4.n x4.p4.c] 48))))
      have HSTD:=Lib.hid (St.of (b:=w.heap.size) (new_below W4 (.cells #[.slice x4.p1.a x4.p1.n x4.p1.c,.slice x4.p2.a x4.p2.n x4.p2.c,.slice x4.p3.a x4.p3.n x4.p3.c,.slice x4.p4.a x4.p4.n x4.p4.c] 48)))
      have KT:=Lib.hid (time_any y x4 d a c (W4.alloc (.cells #[.slice x4.p1.a x4.p1.n x4.p1.c,.slice x4.p2.a x4.p2.n x4.p2.c,.slice x4.p3.a x4.p3.n x4.p3.c,.slice x4.p4.a x4.p4.n x4.p4.c] 48)) (HDO.out.rd.below (new_below W4 (.cells #[.slice x4.p1.a x4.p1.n x4.p1.c,.slice x4.p2.a x4.p2.n x4.p2.c,.slice x4.p3.a x4.p3.n x4.p3.c,.slice x4.p4.a x4.p4.n x4.p4.c] 48))) H5.out)
      clear HS5 HY5 HST5 H5
      generalize tmF y d c=TF at*
      have r0:=HSB.out.cy.c0
      have r1:=HSB.out.cy.c1
      have r2:=HSB.out.cy.c2
      have r3:=HSB.out.cy.c3
      have r4:=HSB.out.cy.c4
      have r5:=HSB.out.cy.c5
      have r6:=HSB.out.cy.c6
      have r7:=HSB.out.cy.c7
      have r8:=HSB.out.cy.c8
      have y0:=HYB.out.c0
      have y1:=HYB.out.c1
      have y2:=HYB.out.c2
      have y3:=HYB.out.c3
      have y4:=HYB.out.c4
      have y5:=HYB.out.c5
      go_wp2_with fail
      clear r0 r1 r2 r3 r4 r5 r6 r7 r8 y0 y1 y2 y3 y4 y5
      generalize W4.alloc (.cells #[.slice x4.p1.a x4.p1.n x4.p1.c,.slice x4.p2.a x4.p2.n x4.p2.c,.slice x4.p3.a x4.p3.n x4.p3.c,.slice x4.p4.a x4.p4.n x4.p4.c] 48)=W4b at*
      refine KT.out.mono ?_
      rintro r W5 ⟨n,c',er5,rfl,HB5,HQ5⟩
      have HS6:=Lib.hid (HSB.out.below HB5.out)
      have HY6:Hid (SyB W5 W3.heap.size y):=(HB5.out.block _ HYB.out.lt).trans HYB.out
      have HD6:=Lib.hid (HDB.out.below HB5.out)
      have HST6:=Lib.hid (HSTB.out.trans (St.of (b:=w.heap.size) HB5.out))
      have HSTE:=Lib.hid (HSTD.out.trans (St.of (b:=w.heap.size) HB5.out))
      clear KT HSB HYB HDB HSTB HSTD HB5
      have hs1:¬ W3.heap.size=w.heap.size+1:=by have:_<_:=HSZ.out;omega
      have hs2:¬ w.heap.size+1=W3.heap.size:=fun e=>hs1 e.symm
      have hd0:w.heap.size+3<W4.heap.size:=Nat.lt_of_lt_of_le HS3a.out HQ4s.out
      have hd1:¬ W4.heap.size=w.heap.size+1:=by omega
      have hd2:¬ w.heap.size+1=W4.heap.size:=fun e=>hd1 e.symm
      have HX5:=Lib.hid (rd_nine HS6.out HY6.out HD6.out HST6.out HSTE.out a c' hs1 hd1)
      have r0:=HS6.out.cy.c0
      have r1:=HS6.out.cy.c1
      have r2:=HS6.out.cy.c2
      have r3:=HS6.out.cy.c3
      have r4:=HS6.out.cy.c4
      have r5:=HS6.out.cy.c5
      have r6:=HS6.out.cy.c6
      have r7:=HS6.out.cy.c7
      have r8:=HS6.out.cy.c8
      have rf0:=HS6.out.cy.fz 0
      have rf1:=HS6.out.cy.fz 1
      have rf2:=HS6.out.cy.fz 2
      have rf3:=HS6.out.cy.fz 3
      have rf4:=HS6.out.cy.fz 4
      have rf5:=HS6.out.cy.fz 5
      have rf6:=HS6.out.cy.fz 6
      have rf7:=HS6.out.cy.fz 7
      have rf8:=HS6.out.cy.fz 8
      have y0:=HY6.out.c0
      have y1:=HY6.out.c1
      have y2:=HY6.out.c2
      have y3:=HY6.out.c3
      have y4:=HY6.out.c4
      have y5:=HY6.out.c5
      have rl:=HS6.out.cy.lt
      clear HS6 HY6 HD6 HST6 HSTE
      rcases HQ5.out with ⟨rfl,htf⟩|⟨rfl,htf⟩
      ·have HF:=Lib.hid (F6.out n c' htf)
       clear F5 F6 htf HQ5
       have KCl:=Lib.hid (fun W=>class_any y a c' W)
       go_wp2_with fail
       generalize (((((((((W5.setCell ⟨w.heap.size+1,0,none⟩ (.slice a.g.a a.g.n a.g.c)).setCell ⟨w.heap.size+1,1,none⟩ (.slice a.o.a a.o.n a.o.c)).setCell ⟨w.heap.size+1,2,none⟩ (.int .u16 (c'.cl:Int))).setCell ⟨w.heap.size+1,3,none⟩ (.int .u32 (c'.df:Int))).setCell ⟨w.heap.size+1,4,none⟩ (.int .u32 (c'.tt:Int))).setCell ⟨w.heap.size+1,5,none⟩ (.bool c'.ho)).setCell ⟨w.heap.size+1,6,none⟩ (.bool c'.hc)).setCell ⟨w.heap.size+1,7,none⟩ (.bool c'.ht)).setCell ⟨w.heap.size+1,8,none⟩ (.bool c'.sd))=W5n at*
       clear r0 r1 r2 r3 r4 r5 r6 r7 r8 rf0 rf1 rf2 rf3 rf4 rf5 rf6 rf7 rf8 y0 y1 y2 y3 y4 y5 rl
       refine (KCl.out _).mono ?_
       rintro r W6 ⟨rfl,HB6⟩
       have HS7:=Lib.hid (HX5.out.1.below HB6.out)
       have HY7:Hid (SyB W6 W3.heap.size y):=(HB6.out.block _ HX5.out.2.1.lt).trans HX5.out.2.1
       have HD7:=Lib.hid (HX5.out.2.2.1.below HB6.out)
       have HST7:=Lib.hid (HX5.out.2.2.2.1.trans (St.of (b:=w.heap.size) HB6.out))
       have HSTE7:=Lib.hid (HX5.out.2.2.2.2.trans (St.of (b:=w.heap.size) HB6.out))
       clear KCl HX5 HB6
       have hs3:¬ W3.heap.size=w.heap.size+1+1:=by have:_<_:=HSZ.out;omega
       have hs4:¬ w.heap.size+1+1=W3.heap.size:=fun e=>hs3 e.symm
       have hs5:¬ W3.heap.size=w.heap.size+1+1+1:=by have:_<_:=HSZ.out;omega
       have hs6:¬ w.heap.size+1+1+1=W3.heap.size:=fun e=>hs5 e.symm
       have hd3:¬ W4.heap.size=w.heap.size+1+1:=by omega
       have hd4:¬ w.heap.size+1+1=W4.heap.size:=fun e=>hd3 e.symm
       have hd5:¬ W4.heap.size=w.heap.size+1+1+1:=by omega
       have hd6:¬ w.heap.size+1+1+1=W4.heap.size:=fun e=>hd5 e.symm
       have HX:Hid (RcB (((((((((((((((((((((W6.setCell ⟨w.heap.size+1,1,none⟩ (.slice ao O1.length ys.length)).setCell ⟨w.heap.size+1,5,none⟩ (.bool true)).setCell ⟨w.heap.size+1,2,none⟩ (.int .u16 (csF y c':Int))).setCell ⟨w.heap.size+1,6,none⟩ (.bool true)).setCell ⟨w.heap.size+1+1,0,none⟩ (.slice ao O1.length ys.length)).setCell ⟨w.heap.size+1+1,1,none⟩ (.int .u16 (y.k:Int))).setCell ⟨w.heap.size+1+1,2,none⟩ (.int .u16 (csF y c':Int))).setCell ⟨w.heap.size+1+1,3,none⟩ (.int .u32 (n:Int))).setCell ⟨w.heap.size+1+1,4,none⟩ (.slice x4.p1.a x4.p1.n x4.p1.c)).setCell ⟨w.heap.size+1+1,5,none⟩ (.slice x4.p2.a x4.p2.n x4.p2.c)).setCell ⟨w.heap.size+1+1,6,none⟩ (.slice x4.p3.a x4.p3.n x4.p3.c)).setCell ⟨w.heap.size+1+1,7,none⟩ (.slice x4.p4.a x4.p4.n x4.p4.c)).setCell ⟨w.heap.size+1+1+1,0,none⟩ (.slice a.g.a a.g.n a.g.c)).setCell ⟨w.heap.size+1+1+1,1,none⟩ (.slice ao O1.length ys.length)).setCell ⟨w.heap.size+1+1+1,2,none⟩ (.int .u16 (csF y c':Int))).setCell ⟨w.heap.size+1+1+1,3,none⟩ (.int .u32 (c'.df:Int))).setCell ⟨w.heap.size+1+1+1,4,none⟩ (.int .u32 (c'.tt:Int))).setCell ⟨w.heap.size+1+1+1,5,none⟩ (.bool true)).setCell ⟨w.heap.size+1+1+1,6,none⟩ (.bool true)).setCell ⟨w.heap.size+1+1+1,7,none⟩ (.bool c'.ht)).setCell ⟨w.heap.size+1+1+1,8,none⟩ (.bool c'.sd)).drew (w.heap.size+1+1) ⟨⟨ao,O1.length,ys.length⟩,x4⟩ ⟨O1,y.k,csF y c',n,d⟩/\CyB (((((((((((((((((((((W6.setCell ⟨w.heap.size+1,1,none⟩ (.slice ao O1.length ys.length)).setCell ⟨w.heap.size+1,5,none⟩ (.bool true)).setCell ⟨w.heap.size+1,2,none⟩ (.int .u16 (csF y c':Int))).setCell ⟨w.heap.size+1,6,none⟩ (.bool true)).setCell ⟨w.heap.size+1+1,0,none⟩ (.slice ao O1.length ys.length)).setCell ⟨w.heap.size+1+1,1,none⟩ (.int .u16 (y.k:Int))).setCell ⟨w.heap.size+1+1,2,none⟩ (.int .u16 (csF y c':Int))).setCell ⟨w.heap.size+1+1,3,none⟩ (.int .u32 (n:Int))).setCell ⟨w.heap.size+1+1,4,none⟩ (.slice x4.p1.a x4.p1.n x4.p1.c)).setCell ⟨w.heap.size+1+1,5,none⟩ (.slice x4.p2.a x4.p2.n x4.p2.c)).setCell ⟨w.heap.size+1+1,6,none⟩ (.slice x4.p3.a x4.p3.n x4.p3.c)).setCell ⟨w.heap.size+1+1,7,none⟩ (.slice x4.p4.a x4.p4.n x4.p4.c)).setCell ⟨w.heap.size+1+1+1,0,none⟩ (.slice a.g.a a.g.n a.g.c)).setCell ⟨w.heap.size+1+1+1,1,none⟩ (.slice ao O1.length ys.length)).setCell ⟨w.heap.size+1+1+1,2,none⟩ (.int .u16 (csF y c':Int))).setCell ⟨w.heap.size+1+1+1,3,none⟩ (.int .u32 (c'.df:Int))).setCell ⟨w.heap.size+1+1+1,4,none⟩ (.int .u32 (c'.tt:Int))).setCell ⟨w.heap.size+1+1+1,5,none⟩ (.bool true)).setCell ⟨w.heap.size+1+1+1,6,none⟩ (.bool true)).setCell ⟨w.heap.size+1+1+1,7,none⟩ (.bool c'.ht)).setCell ⟨w.heap.size+1+1+1,8,none⟩ (.bool c'.sd)).drew (w.heap.size+1+1+1) ⟨a.g,⟨ao,O1.length,ys.length⟩⟩ { c' with ow:=O1,ho:=true,cl:=csF y c',hc:=true }/\Below w.heap.size w (((((((((((((((((((((W6.setCell ⟨w.heap.size+1,1,none⟩ (.slice ao O1.length ys.length)).setCell ⟨w.heap.size+1,5,none⟩ (.bool true)).setCell ⟨w.heap.size+1,2,none⟩ (.int .u16 (csF y c':Int))).setCell ⟨w.heap.size+1,6,none⟩ (.bool true)).setCell ⟨w.heap.size+1+1,0,none⟩ (.slice ao O1.length ys.length)).setCell ⟨w.heap.size+1+1,1,none⟩ (.int .u16 (y.k:Int))).setCell ⟨w.heap.size+1+1,2,none⟩ (.int .u16 (csF y c':Int))).setCell ⟨w.heap.size+1+1,3,none⟩ (.int .u32 (n:Int))).setCell ⟨w.heap.size+1+1,4,none⟩ (.slice x4.p1.a x4.p1.n x4.p1.c)).setCell ⟨w.heap.size+1+1,5,none⟩ (.slice x4.p2.a x4.p2.n x4.p2.c)).setCell ⟨w.heap.size+1+1,6,none⟩ (.slice x4.p3.a x4.p3.n x4.p3.c)).setCell ⟨w.heap.size+1+1,7,none⟩ (.slice x4.p4.a x4.p4.n x4.p4.c)).setCell ⟨w.heap.size+1+1+1,0,none⟩ (.slice a.g.a a.g.n a.g.c)).setCell ⟨w.heap.size+1+1+1,1,none⟩ (.slice ao O1.length ys.length)).setCell ⟨w.heap.size+1+1+1,2,none⟩ (.int .u16 (csF y c':Int))).setCell ⟨w.heap.size+1+1+1,3,none⟩ (.int .u32 (c'.df:Int))).setCell ⟨w.heap.size+1+1+1,4,none⟩ (.int .u32 (c'.tt:Int))).setCell ⟨w.heap.size+1+1+1,5,none⟩ (.bool true)).setCell ⟨w.heap.size+1+1+1,6,none⟩ (.bool true)).setCell ⟨w.heap.size+1+1+1,7,none⟩ (.bool c'.ht)).setCell ⟨w.heap.size+1+1+1,8,none⟩ (.bool c'.sd)).drew/\St w.heap.size W2 (((((((((((((((((((((W6.setCell ⟨w.heap.size+1,1,none⟩ (.slice ao O1.length ys.length)).setCell ⟨w.heap.size+1,5,none⟩ (.bool true)).setCell ⟨w.heap.size+1,2,none⟩ (.int .u16 (csF y c':Int))).setCell ⟨w.heap.size+1,6,none⟩ (.bool true)).setCell ⟨w.heap.size+1+1,0,none⟩ (.slice ao O1.length ys.length)).setCell ⟨w.heap.size+1+1,1,none⟩ (.int .u16 (y.k:Int))).setCell ⟨w.heap.size+1+1,2,none⟩ (.int .u16 (csF y c':Int))).setCell ⟨w.heap.size+1+1,3,none⟩ (.int .u32 (n:Int))).setCell ⟨w.heap.size+1+1,4,none⟩ (.slice x4.p1.a x4.p1.n x4.p1.c)).setCell ⟨w.heap.size+1+1,5,none⟩ (.slice x4.p2.a x4.p2.n x4.p2.c)).setCell ⟨w.heap.size+1+1,6,none⟩ (.slice x4.p3.a x4.p3.n x4.p3.c)).setCell ⟨w.heap.size+1+1,7,none⟩ (.slice x4.p4.a x4.p4.n x4.p4.c)).setCell ⟨w.heap.size+1+1+1,0,none⟩ (.slice a.g.a a.g.n a.g.c)).setCell ⟨w.heap.size+1+1+1,1,none⟩ (.slice ao O1.length ys.length)).setCell ⟨w.heap.size+1+1+1,2,none⟩ (.int .u16 (csF y c':Int))).setCell ⟨w.heap.size+1+1+1,3,none⟩ (.int .u32 (c'.df:Int))).setCell ⟨w.heap.size+1+1+1,4,none⟩ (.int .u32 (c'.tt:Int))).setCell ⟨w.heap.size+1+1+1,5,none⟩ (.bool true)).setCell ⟨w.heap.size+1+1+1,6,none⟩ (.bool true)).setCell ⟨w.heap.size+1+1+1,7,none⟩ (.bool c'.ht)).setCell ⟨w.heap.size+1+1+1,8,none⟩ (.bool c'.sd)).drew/\St w.heap.size W4 (((((((((((((((((((((W6.setCell ⟨w.heap.size+1,1,none⟩ (.slice ao O1.length ys.length)).setCell ⟨w.heap.size+1,5,none⟩ (.bool true)).setCell ⟨w.heap.size+1,2,none⟩ (.int .u16 (csF y c':Int))).setCell ⟨w.heap.size+1,6,none⟩ (.bool true)).setCell ⟨w.heap.size+1+1,0,none⟩ (.slice ao O1.length ys.length)).setCell ⟨w.heap.size+1+1,1,none⟩ (.int .u16 (y.k:Int))).setCell ⟨w.heap.size+1+1,2,none⟩ (.int .u16 (csF y c':Int))).setCell ⟨w.heap.size+1+1,3,none⟩ (.int .u32 (n:Int))).setCell ⟨w.heap.size+1+1,4,none⟩ (.slice x4.p1.a x4.p1.n x4.p1.c)).setCell ⟨w.heap.size+1+1,5,none⟩ (.slice x4.p2.a x4.p2.n x4.p2.c)).setCell ⟨w.heap.size+1+1,6,none⟩ (.slice x4.p3.a x4.p3.n x4.p3.c)).setCell ⟨w.heap.size+1+1,7,none⟩ (.slice x4.p4.a x4.p4.n x4.p4.c)).setCell ⟨w.heap.size+1+1+1,0,none⟩ (.slice a.g.a a.g.n a.g.c)).setCell ⟨w.heap.size+1+1+1,1,none⟩ (.slice ao O1.length ys.length)).setCell ⟨w.heap.size+1+1+1,2,none⟩ (.int .u16 (csF y c':Int))).setCell ⟨w.heap.size+1+1+1,3,none⟩ (.int .u32 (c'.df:Int))).setCell ⟨w.heap.size+1+1+1,4,none⟩ (.int .u32 (c'.tt:Int))).setCell ⟨w.heap.size+1+1+1,5,none⟩ (.bool true)).setCell ⟨w.heap.size+1+1+1,6,none⟩ (.bool true)).setCell ⟨w.heap.size+1+1+1,7,none⟩ (.bool c'.ht)).setCell ⟨w.heap.size+1+1+1,8,none⟩ (.bool c'.sd)).drew):=rd_end HS7.out HST7.out HSTE7.out _ _ _ _ ⟨⟨ao,O1.length,ys.length⟩,x4⟩ ⟨O1,y.k,csF y c',n,d⟩ ⟨a.g,⟨ao,O1.length,ys.length⟩⟩ { c' with ow:=O1,ho:=true,cl:=csF y c',hc:=true }
       have r0:=HS7.out.cy.c0
       have r1:=HS7.out.cy.c1
       have r2:=HS7.out.cy.c2
       have r3:=HS7.out.cy.c3
       have r4:=HS7.out.cy.c4
       have r5:=HS7.out.cy.c5
       have r6:=HS7.out.cy.c6
       have r7:=HS7.out.cy.c7
       have r8:=HS7.out.cy.c8
       have rf1:=HS7.out.cy.fz 1
       have rf2:=HS7.out.cy.fz 2
       have rf5:=HS7.out.cy.fz 5
       have rf6:=HS7.out.cy.fz 6
       have z0:=HS7.out.rc.c0
       have z1:=HS7.out.rc.c1
       have z2:=HS7.out.rc.c2
       have z3:=HS7.out.rc.c3
       have z4:=HS7.out.rc.c4
       have z5:=HS7.out.rc.c5
       have z6:=HS7.out.rc.c6
       have z7:=HS7.out.rc.c7
       have zf0:=HS7.out.rc.fz 0
       have zf1:=HS7.out.rc.fz 1
       have zf2:=HS7.out.rc.fz 2
       have zf3:=HS7.out.rc.fz 3
       have zf4:=HS7.out.rc.fz 4
       have zf5:=HS7.out.rc.fz 5
       have zf6:=HS7.out.rc.fz 6
       have zf7:=HS7.out.rc.fz 7
       have q0:=HS7.out.rz.c0
       have q1:=HS7.out.rz.c1
       have q2:=HS7.out.rz.c2
       have q3:=HS7.out.rz.c3
       have q4:=HS7.out.rz.c4
       have q5:=HS7.out.rz.c5
       have q6:=HS7.out.rz.c6
       have q7:=HS7.out.rz.c7
       have q8:=HS7.out.rz.c8
       have qf0:=HS7.out.rz.fz 0
       have qf1:=HS7.out.rz.fz 1
       have qf2:=HS7.out.rz.fz 2
       have qf3:=HS7.out.rz.fz 3
       have qf4:=HS7.out.rz.fz 4
       have qf5:=HS7.out.rz.fz 5
       have qf6:=HS7.out.rz.fz 6
       have qf7:=HS7.out.rz.fz 7
       have qf8:=HS7.out.rz.fz 8
       simp only[ra0,rec0,ca0,cy0] at z0 z1 z2 z3 z4 z5 z6 z7 q0 q1 q2 q3 q4 q5 q6 q7 q8
       have rl:=HS7.out.cy.lt
       have zl:=HS7.out.rc.lt
       have ql:=HS7.out.rz.lt
       have y0:=HY7.out.c0
       have k0:=HD7.out.1
       have k1:=HD7.out.2.1
       have k2:=HD7.out.2.2.1
       have k3:=HD7.out.2.2.2.1
       clear HS7 HY7 HD7 HST7 HSTE7
       go_wp2_with fail
       go_region_law (fail)
       all_goals
        go_wp2_with fail
        generalize (((((((((((((((((((((W6.setCell ⟨w.heap.size+1,1,none⟩ (.slice ao O1.length ys.length)).setCell ⟨w.heap.size+1,5,none⟩ (.bool true)).setCell ⟨w.heap.size+1,2,none⟩ (.int .u16 (csF y c':Int))).setCell ⟨w.heap.size+1,6,none⟩ (.bool true)).setCell ⟨w.heap.size+1+1,0,none⟩ (.slice ao O1.length ys.length)).setCell ⟨w.heap.size+1+1,1,none⟩ (.int .u16 (y.k:Int))).setCell ⟨w.heap.size+1+1,2,none⟩ (.int .u16 (csF y c':Int))).setCell ⟨w.heap.size+1+1,3,none⟩ (.int .u32 (n:Int))).setCell ⟨w.heap.size+1+1,4,none⟩ (.slice x4.p1.a x4.p1.n x4.p1.c)).setCell ⟨w.heap.size+1+1,5,none⟩ (.slice x4.p2.a x4.p2.n x4.p2.c)).setCell ⟨w.heap.size+1+1,6,none⟩ (.slice x4.p3.a x4.p3.n x4.p3.c)).setCell ⟨w.heap.size+1+1,7,none⟩ (.slice x4.p4.a x4.p4.n x4.p4.c)).setCell ⟨w.heap.size+1+1+1,0,none⟩ (.slice a.g.a a.g.n a.g.c)).setCell ⟨w.heap.size+1+1+1,1,none⟩ (.slice ao O1.length ys.length)).setCell ⟨w.heap.size+1+1+1,2,none⟩ (.int .u16 (csF y c':Int))).setCell ⟨w.heap.size+1+1+1,3,none⟩ (.int .u32 (c'.df:Int))).setCell ⟨w.heap.size+1+1+1,4,none⟩ (.int .u32 (c'.tt:Int))).setCell ⟨w.heap.size+1+1+1,5,none⟩ (.bool true)).setCell ⟨w.heap.size+1+1+1,6,none⟩ (.bool true)).setCell ⟨w.heap.size+1+1+1,7,none⟩ (.bool c'.ht)).setCell ⟨w.heap.size+1+1+1,8,none⟩ (.bool c'.sd)).drew=W9 at*
        have u0:=HX.out.1.c0
        have u1:=HX.out.1.c1
        have u2:=HX.out.1.c2
        have u3:=HX.out.1.c3
        have u4:=HX.out.1.c4
        have u5:=HX.out.1.c5
        have u6:=HX.out.1.c6
        have u7:=HX.out.1.c7
        have y0:=HX.out.2.1.c0
        have y1:=HX.out.2.1.c1
        have y2:=HX.out.2.1.c2
        have y3:=HX.out.2.1.c3
        have y4:=HX.out.2.1.c4
        have y5:=HX.out.2.1.c5
        have y6:=HX.out.2.1.c6
        have y7:=HX.out.2.1.c7
        have y8:=HX.out.2.1.c8
        exact bodyPost_ret (v:=.tuple #[.agg #[.slice ao O1.length ys.length,.int .u16 (y.k:Int),.int .u16 (csF y c':Int),.int .u32 (n:Int),.slice x4.p1.a x4.p1.n x4.p1.c,.slice x4.p2.a x4.p2.n x4.p2.c,.slice x4.p3.a x4.p3.n x4.p3.c,.slice x4.p4.a x4.p4.n x4.p4.c],.agg #[.slice a.g.a a.g.n a.g.c,.slice ao O1.length ys.length,.int .u16 (csF y c':Int),.int .u32 (c'.df:Int),.int .u32 (c'.tt:Int),.bool true,.bool true,.bool c'.ht,.bool c'.sd],.int .i64 0]) (by simp[results,Tryz.results64,go_sem,u0,u1,u2,u3,u4,u5,u6,u7,y0,y1,y2,y3,y4,y5,y6,y7,y8]) rfl ⟨⟨⟨ao,O1.length,ys.length⟩,x4⟩,⟨O1,y.k,csF y c',n,d⟩,⟨a.g,⟨ao,O1.length,ys.length⟩⟩,{ c' with ow:=O1,ho:=true,cl:=csF y c',hc:=true },0,rfl,HX.out.2.2.1,.inl ⟨rfl,HF.out,rfl,rfl,rd_own HOW.out HX.out.2.2.2.1 HWS.out,rd_dat HDO.out HX.out.2.2.2.2 HS3a.out⟩⟩
      ·have HF:=Lib.hid (F5.out htf)
       clear F5 F6 htf HQ5 HDO HOW
       have HSX:=Lib.hid HX5.out.1
       clear HX5
       go_wp2_with fail
       generalize (((((((((W5.setCell ⟨w.heap.size+1,0,none⟩ (.slice a.g.a a.g.n a.g.c)).setCell ⟨w.heap.size+1,1,none⟩ (.slice a.o.a a.o.n a.o.c)).setCell ⟨w.heap.size+1,2,none⟩ (.int .u16 (c'.cl:Int))).setCell ⟨w.heap.size+1,3,none⟩ (.int .u32 (c'.df:Int))).setCell ⟨w.heap.size+1,4,none⟩ (.int .u32 (c'.tt:Int))).setCell ⟨w.heap.size+1,5,none⟩ (.bool c'.ho)).setCell ⟨w.heap.size+1,6,none⟩ (.bool c'.hc)).setCell ⟨w.heap.size+1,7,none⟩ (.bool c'.ht)).setCell ⟨w.heap.size+1,8,none⟩ (.bool c'.sd))=W5n at*
       clear r0 r1 r2 r3 r4 r5 r6 r7 r8 rf0 rf1 rf2 rf3 rf4 rf5 rf6 rf7 rf8 y0 y1 y2 y3 y4 y5 rl
       have r0:=HSX.out.cy.c0
       have r1:=HSX.out.cy.c1
       have r2:=HSX.out.cy.c2
       have r3:=HSX.out.cy.c3
       have r4:=HSX.out.cy.c4
       have r5:=HSX.out.cy.c5
       have r6:=HSX.out.cy.c6
       have r7:=HSX.out.cy.c7
       have r8:=HSX.out.cy.c8
       have z0:=HSX.out.rc.c0
       have z1:=HSX.out.rc.c1
       have z2:=HSX.out.rc.c2
       have z3:=HSX.out.rc.c3
       have z4:=HSX.out.rc.c4
       have z5:=HSX.out.rc.c5
       have z6:=HSX.out.rc.c6
       have z7:=HSX.out.rc.c7
       have zf0:=HSX.out.rc.fz 0
       have zf1:=HSX.out.rc.fz 1
       have zf2:=HSX.out.rc.fz 2
       have zf3:=HSX.out.rc.fz 3
       have zf4:=HSX.out.rc.fz 4
       have zf5:=HSX.out.rc.fz 5
       have zf6:=HSX.out.rc.fz 6
       have zf7:=HSX.out.rc.fz 7
       have q0:=HSX.out.rz.c0
       have q1:=HSX.out.rz.c1
       have q2:=HSX.out.rz.c2
       have q3:=HSX.out.rz.c3
       have q4:=HSX.out.rz.c4
       have q5:=HSX.out.rz.c5
       have q6:=HSX.out.rz.c6
       have q7:=HSX.out.rz.c7
       have q8:=HSX.out.rz.c8
       have qf0:=HSX.out.rz.fz 0
       have qf1:=HSX.out.rz.fz 1
       have qf2:=HSX.out.rz.fz 2
       have qf3:=HSX.out.rz.fz 3
       have qf4:=HSX.out.rz.fz 4
       have qf5:=HSX.out.rz.fz 5
       have qf6:=HSX.out.rz.fz 6
       have qf7:=HSX.out.rz.fz 7
       have qf8:=HSX.out.rz.fz 8
       simp only[ra0,rec0,ca0,cy0] at z0 z1 z2 z3 z4 z5 z6 z7 q0 q1 q2 q3 q4 q5 q6 q7 q8
       have zl:=HSX.out.rc.lt
       have ql:=HSX.out.rz.lt
       go_region_law (fail)
       all_goals
        go_wp2_with fail
        have HX:=Lib.hid (rd_exit (a:=a) (c:=c') HSX.out)
        generalize (((((((((((((((((W5n.setCell ⟨w.heap.size+1+1,0,none⟩ (.slice none 0 0)).setCell ⟨w.heap.size+1+1,1,none⟩ (.int .u16 0)).setCell ⟨w.heap.size+1+1,2,none⟩ (.int .u16 0)).setCell ⟨w.heap.size+1+1,3,none⟩ (.int .u32 0)).setCell ⟨w.heap.size+1+1,4,none⟩ (.slice none 0 0)).setCell ⟨w.heap.size+1+1,5,none⟩ (.slice none 0 0)).setCell ⟨w.heap.size+1+1,6,none⟩ (.slice none 0 0)).setCell ⟨w.heap.size+1+1,7,none⟩ (.slice none 0 0)).setCell ⟨w.heap.size+1+1+1,0,none⟩ (.slice a.g.a a.g.n a.g.c)).setCell ⟨w.heap.size+1+1+1,1,none⟩ (.slice a.o.a a.o.n a.o.c)).setCell ⟨w.heap.size+1+1+1,2,none⟩ (.int .u16 (c'.cl:Int))).setCell ⟨w.heap.size+1+1+1,3,none⟩ (.int .u32 (c'.df:Int))).setCell ⟨w.heap.size+1+1+1,4,none⟩ (.int .u32 (c'.tt:Int))).setCell ⟨w.heap.size+1+1+1,5,none⟩ (.bool c'.ho)).setCell ⟨w.heap.size+1+1+1,6,none⟩ (.bool c'.hc)).setCell ⟨w.heap.size+1+1+1,7,none⟩ (.bool c'.ht)).setCell ⟨w.heap.size+1+1+1,8,none⟩ (.bool c'.sd)).drew=W9 at*
        have u0:=HX.out.1.c0
        have u1:=HX.out.1.c1
        have u2:=HX.out.1.c2
        have u3:=HX.out.1.c3
        have u4:=HX.out.1.c4
        have u5:=HX.out.1.c5
        have u6:=HX.out.1.c6
        have u7:=HX.out.1.c7
        have y0:=HX.out.2.1.c0
        have y1:=HX.out.2.1.c1
        have y2:=HX.out.2.1.c2
        have y3:=HX.out.2.1.c3
        have y4:=HX.out.2.1.c4
        have y5:=HX.out.2.1.c5
        have y6:=HX.out.2.1.c6
        have y7:=HX.out.2.1.c7
        have y8:=HX.out.2.1.c8
        simp only[ra0,rec0] at u0 u1 u2 u3 u4 u5 u6 u7
        exact bodyPost_ret (v:=.tuple #[.agg #[.slice none 0 0,.int .u16 0,.int .u16 0,.int .u32 0,.slice none 0 0,.slice none 0 0,.slice none 0 0,.slice none 0 0],caV a c',.int .i64 9]) (by simp[results,Tryz.results64,go_sem,u0,u1,u2,u3,u4,u5,u6,u7,y0,y1,y2,y3,y4,y5,y6,y7,y8]) rfl ⟨ra0,rec0,a,c',9,rfl,HX.out.2.2,.inr ⟨by decide,HF.out⟩⟩
     ·have HF:=Lib.hid (F4'.out hpf)
      clear HQ4 HS5 HY5 HST5 F4' F5' F6' HP5 HE HOW hpf
      go_wp2_with fail
      generalize W4.alloc (.cells #[.slice x4.p1.a x4.p1.n x4.p1.c,.slice x4.p2.a x4.p2.n x4.p2.c,.slice x4.p3.a x4.p3.n x4.p3.c,.slice x4.p4.a x4.p4.n x4.p4.c] 48)=W4b at*
      have r0:=HSB.out.cy.c0
      have r1:=HSB.out.cy.c1
      have r2:=HSB.out.cy.c2
      have r3:=HSB.out.cy.c3
      have r4:=HSB.out.cy.c4
      have r5:=HSB.out.cy.c5
      have r6:=HSB.out.cy.c6
      have r7:=HSB.out.cy.c7
      have r8:=HSB.out.cy.c8
      have z0:=HSB.out.rc.c0
      have z1:=HSB.out.rc.c1
      have z2:=HSB.out.rc.c2
      have z3:=HSB.out.rc.c3
      have z4:=HSB.out.rc.c4
      have z5:=HSB.out.rc.c5
      have z6:=HSB.out.rc.c6
      have z7:=HSB.out.rc.c7
      have zf0:=HSB.out.rc.fz 0
      have zf1:=HSB.out.rc.fz 1
      have zf2:=HSB.out.rc.fz 2
      have zf3:=HSB.out.rc.fz 3
      have zf4:=HSB.out.rc.fz 4
      have zf5:=HSB.out.rc.fz 5
      have zf6:=HSB.out.rc.fz 6
      have zf7:=HSB.out.rc.fz 7
      have q0:=HSB.out.rz.c0
      have q1:=HSB.out.rz.c1
      have q2:=HSB.out.rz.c2
      have q3:=HSB.out.rz.c3
      have q4:=HSB.out.rz.c4
      have q5:=HSB.out.rz.c5
      have q6:=HSB.out.rz.c6
      have q7:=HSB.out.rz.c7
      have q8:=HSB.out.rz.c8
      have qf0:=HSB.out.rz.fz 0
      have qf1:=HSB.out.rz.fz 1
      have qf2:=HSB.out.rz.fz 2
      have qf3:=HSB.out.rz.fz 3
      have qf4:=HSB.out.rz.fz 4
      have qf5:=HSB.out.rz.fz 5
      have qf6:=HSB.out.rz.fz 6
      have qf7:=HSB.out.rz.fz 7
      have qf8:=HSB.out.rz.fz 8
      simp only[ra0,rec0,ca0,cy0] at z0 z1 z2 z3 z4 z5 z6 z7 q0 q1 q2 q3 q4 q5 q6 q7 q8
      have zl:=HSB.out.rc.lt
      have ql:=HSB.out.rz.lt
      go_region_law (fail)
      all_goals
       go_wp2_with fail
       have HX:=Lib.hid (rd_exit (a:=a) (c:=c) HSB.out)
       generalize (((((((((((((((((W4b.setCell ⟨w.heap.size+1+1,0,none⟩ (.slice none 0 0)).setCell ⟨w.heap.size+1+1,1,none⟩ (.int .u16 0)).setCell ⟨w.heap.size+1+1,2,none⟩ (.int .u16 0)).setCell ⟨w.heap.size+1+1,3,none⟩ (.int .u32 0)).setCell ⟨w.heap.size+1+1,4,none⟩ (.slice none 0 0)).setCell ⟨w.heap.size+1+1,5,none⟩ (.slice none 0 0)).setCell ⟨w.heap.size+1+1,6,none⟩ (.slice none 0 0)).setCell ⟨w.heap.size+1+1,7,none⟩ (.slice none 0 0)).setCell ⟨w.heap.size+1+1+1,0,none⟩ (.slice a.g.a a.g.n a.g.c)).setCell ⟨w.heap.size+1+1+1,1,none⟩ (.slice a.o.a a.o.n a.o.c)).setCell ⟨w.heap.size+1+1+1,2,none⟩ (.int .u16 (c.cl:Int))).setCell ⟨w.heap.size+1+1+1,3,none⟩ (.int .u32 (c.df:Int))).setCell ⟨w.heap.size+1+1+1,4,none⟩ (.int .u32 (c.tt:Int))).setCell ⟨w.heap.size+1+1+1,5,none⟩ (.bool c.ho)).setCell ⟨w.heap.size+1+1+1,6,none⟩ (.bool c.hc)).setCell ⟨w.heap.size+1+1+1,7,none⟩ (.bool c.ht)).setCell ⟨w.heap.size+1+1+1,8,none⟩ (.bool c.sd)).drew=W9 at*
       have u0:=HX.out.1.c0
       have u1:=HX.out.1.c1
       have u2:=HX.out.1.c2
       have u3:=HX.out.1.c3
       have u4:=HX.out.1.c4
       have u5:=HX.out.1.c5
       have u6:=HX.out.1.c6
       have u7:=HX.out.1.c7
       have y0:=HX.out.2.1.c0
       have y1:=HX.out.2.1.c1
       have y2:=HX.out.2.1.c2
       have y3:=HX.out.2.1.c3
       have y4:=HX.out.2.1.c4
       have y5:=HX.out.2.1.c5
       have y6:=HX.out.2.1.c6
       have y7:=HX.out.2.1.c7
       have y8:=HX.out.2.1.c8
       simp only[ra0,rec0] at u0 u1 u2 u3 u4 u5 u6 u7
       exact bodyPost_ret (v:=.tuple #[.agg #[.slice none 0 0,.int .u16 0,.int .u16 0,.int .u32 0,.slice none 0 0,.slice none 0 0,.slice none 0 0,.slice none 0 0],caV a c,.int .i64 7]) (by simp[results,Tryz.results64,go_sem,u0,u1,u2,u3,u4,u5,u6,u7,y0,y1,y2,y3,y4,y5,y6,y7,y8]) rfl ⟨ra0,rec0,a,c,7,rfl,HX.out.2.2,.inr ⟨by decide,HF.out⟩⟩
    ·have hne2:(er != 0)=true:=by simpa using hne
     have HF:=Lib.hid (F3.out _ herr)
     have HNE:=Lib.hid hne
     have HSA:=Lib.hid (HS4.out.below (new_below W3 (.cells #[.int .u16 (y.k:Int),.int .u16 (y.c:Int),.int .u32 (y.t:Int),.bool y.hk,.bool y.hc,.bool y.ht] 143)))
     clear HQ3 F3 F4 F5 F6 HE HOW HS4 HST HSAY hne herr
     go_wp2_with fail
     generalize W3.alloc (.cells #[.int .u16 (y.k:Int),.int .u16 (y.c:Int),.int .u32 (y.t:Int),.bool y.hk,.bool y.hc,.bool y.ht] 143)=W3a at*
     have r0:=HSA.out.cy.c0
     have r1:=HSA.out.cy.c1
     have r2:=HSA.out.cy.c2
     have r3:=HSA.out.cy.c3
     have r4:=HSA.out.cy.c4
     have r5:=HSA.out.cy.c5
     have r6:=HSA.out.cy.c6
     have r7:=HSA.out.cy.c7
     have r8:=HSA.out.cy.c8
     have z0:=HSA.out.rc.c0
     have z1:=HSA.out.rc.c1
     have z2:=HSA.out.rc.c2
     have z3:=HSA.out.rc.c3
     have z4:=HSA.out.rc.c4
     have z5:=HSA.out.rc.c5
     have z6:=HSA.out.rc.c6
     have z7:=HSA.out.rc.c7
     have zf0:=HSA.out.rc.fz 0
     have zf1:=HSA.out.rc.fz 1
     have zf2:=HSA.out.rc.fz 2
     have zf3:=HSA.out.rc.fz 3
     have zf4:=HSA.out.rc.fz 4
     have zf5:=HSA.out.rc.fz 5
     have zf6:=HSA.out.rc.fz 6
     have zf7:=HSA.out.rc.fz 7
     have q0:=HSA.out.rz.c0
     have q1:=HSA.out.rz.c1
     have q2:=HSA.out.rz.c2
     have q3:=HSA.out.rz.c3
     have q4:=HSA.out.rz.c4
     have q5:=HSA.out.rz.c5
     have q6:=HSA.out.rz.c6
     have q7:=HSA.out.rz.c7
     have q8:=HSA.out.rz.c8
     have qf0:=HSA.out.rz.fz 0
     have qf1:=HSA.out.rz.fz 1
     have qf2:=HSA.out.rz.fz 2
     have qf3:=HSA.out.rz.fz 3
     have qf4:=HSA.out.rz.fz 4
     have qf5:=HSA.out.rz.fz 5
     have qf6:=HSA.out.rz.fz 6
     have qf7:=HSA.out.rz.fz 7
     have qf8:=HSA.out.rz.fz 8
     simp only[ra0,rec0,ca0,cy0] at z0 z1 z2 z3 z4 z5 z6 z7 q0 q1 q2 q3 q4 q5 q6 q7 q8
     have zl:=HSA.out.rc.lt
     have ql:=HSA.out.rz.lt
     go_region_law (fail)
     all_goals
      go_wp2_with fail
      have HX:=Lib.hid (rd_exit (a:=a) (c:=c) HSA.out)
      generalize (((((((((((((((((W3a.setCell ⟨w.heap.size+1+1,0,none⟩ (.slice none 0 0)).setCell ⟨w.heap.size+1+1,1,none⟩ (.int .u16 0)).setCell ⟨w.heap.size+1+1,2,none⟩ (.int .u16 0)).setCell ⟨w.heap.size+1+1,3,none⟩ (.int .u32 0)).setCell ⟨w.heap.size+1+1,4,none⟩ (.slice none 0 0)).setCell ⟨w.heap.size+1+1,5,none⟩ (.slice none 0 0)).setCell ⟨w.heap.size+1+1,6,none⟩ (.slice none 0 0)).setCell ⟨w.heap.size+1+1,7,none⟩ (.slice none 0 0)).setCell ⟨w.heap.size+1+1+1,0,none⟩ (.slice a.g.a a.g.n a.g.c)).setCell ⟨w.heap.size+1+1+1,1,none⟩ (.slice a.o.a a.o.n a.o.c)).setCell ⟨w.heap.size+1+1+1,2,none⟩ (.int .u16 (c.cl:Int))).setCell ⟨w.heap.size+1+1+1,3,none⟩ (.int .u32 (c.df:Int))).setCell ⟨w.heap.size+1+1+1,4,none⟩ (.int .u32 (c.tt:Int))).setCell ⟨w.heap.size+1+1+1,5,none⟩ (.bool c.ho)).setCell ⟨w.heap.size+1+1+1,6,none⟩ (.bool c.hc)).setCell ⟨w.heap.size+1+1+1,7,none⟩ (.bool c.ht)).setCell ⟨w.heap.size+1+1+1,8,none⟩ (.bool c.sd)).drew=W9 at*
      have u0:=HX.out.1.c0
      have u1:=HX.out.1.c1
      have u2:=HX.out.1.c2
      have u3:=HX.out.1.c3
      have u4:=HX.out.1.c4
      have u5:=HX.out.1.c5
      have u6:=HX.out.1.c6
      have u7:=HX.out.1.c7
      have y0:=HX.out.2.1.c0
      have y1:=HX.out.2.1.c1
      have y2:=HX.out.2.1.c2
      have y3:=HX.out.2.1.c3
      have y4:=HX.out.2.1.c4
      have y5:=HX.out.2.1.c5
      have y6:=HX.out.2.1.c6
      have y7:=HX.out.2.1.c7
      have y8:=HX.out.2.1.c8
      simp only[ra0,rec0] at u0 u1 u2 u3 u4 u5 u6 u7
      exact bodyPost_ret (v:=.tuple #[.agg #[.slice none 0 0,.int .u16 0,.int .u16 0,.int .u32 0,.slice none 0 0,.slice none 0 0,.slice none 0 0,.slice none 0 0],caV a c,.int .i64 er]) (by simp[results,Tryz.results64,go_sem,u0,u1,u2,u3,u4,u5,u6,u7,y0,y1,y2,y3,y4,y5,y6,y7,y8]) rfl ⟨ra0,rec0,a,c,er,rfl,HX.out.2.2,.inr ⟨HNE.out,HF.out⟩⟩
   ·have hne1:(O3 == 0)=false:=by simpa using hO
    have hne2:(O3 != 0)=true:=by simpa using hO
    have HF:=Lib.hid (F2'.out hO)
    have HNE:=Lib.hid hO
    clear F2' F3' F4' F5' F6' HW2 HE HOW
    go_wp2_with fail
    have r0:=HS3.out.cy.c0
    have r1:=HS3.out.cy.c1
    have r2:=HS3.out.cy.c2
    have r3:=HS3.out.cy.c3
    have r4:=HS3.out.cy.c4
    have r5:=HS3.out.cy.c5
    have r6:=HS3.out.cy.c6
    have r7:=HS3.out.cy.c7
    have r8:=HS3.out.cy.c8
    have z0:=HS3.out.rc.c0
    have z1:=HS3.out.rc.c1
    have z2:=HS3.out.rc.c2
    have z3:=HS3.out.rc.c3
    have z4:=HS3.out.rc.c4
    have z5:=HS3.out.rc.c5
    have z6:=HS3.out.rc.c6
    have z7:=HS3.out.rc.c7
    have zf0:=HS3.out.rc.fz 0
    have zf1:=HS3.out.rc.fz 1
    have zf2:=HS3.out.rc.fz 2
    have zf3:=HS3.out.rc.fz 3
    have zf4:=HS3.out.rc.fz 4
    have zf5:=HS3.out.rc.fz 5
    have zf6:=HS3.out.rc.fz 6
    have zf7:=HS3.out.rc.fz 7
    have q0:=HS3.out.rz.c0
    have q1:=HS3.out.rz.c1
    have q2:=HS3.out.rz.c2
    have q3:=HS3.out.rz.c3
    have q4:=HS3.out.rz.c4
    have q5:=HS3.out.rz.c5
    have q6:=HS3.out.rz.c6
    have q7:=HS3.out.rz.c7
    have q8:=HS3.out.rz.c8
    have qf0:=HS3.out.rz.fz 0
    have qf1:=HS3.out.rz.fz 1
    have qf2:=HS3.out.rz.fz 2
    have qf3:=HS3.out.rz.fz 3
    have qf4:=HS3.out.rz.fz 4
    have qf5:=HS3.out.rz.fz 5
    have qf6:=HS3.out.rz.fz 6
    have qf7:=HS3.out.rz.fz 7
    have qf8:=HS3.out.rz.fz 8
    simp only[ra0,rec0,ca0,cy0] at z0 z1 z2 z3 z4 z5 z6 z7 q0 q1 q2 q3 q4 q5 q6 q7 q8
    have zl:=HS3.out.rc.lt
    have ql:=HS3.out.rz.lt
    go_region_law (fail)
    all_goals
     go_wp2_with fail
     have HX:=Lib.hid (rd_exit (a:=a) (c:=c) HS3.out)
     generalize (((((((((((((((((W2.setCell ⟨w.heap.size+1+1,0,none⟩ (.slice none 0 0)).setCell ⟨w.heap.size+1+1,1,none⟩ (.int .u16 0)).setCell ⟨w.heap.size+1+1,2,none⟩ (.int .u16 0)).setCell ⟨w.heap.size+1+1,3,none⟩ (.int .u32 0)).setCell ⟨w.heap.size+1+1,4,none⟩ (.slice none 0 0)).setCell ⟨w.heap.size+1+1,5,none⟩ (.slice none 0 0)).setCell ⟨w.heap.size+1+1,6,none⟩ (.slice none 0 0)).setCell ⟨w.heap.size+1+1,7,none⟩ (.slice none 0 0)).setCell ⟨w.heap.size+1+1+1,0,none⟩ (.slice a.g.a a.g.n a.g.c)).setCell ⟨w.heap.size+1+1+1,1,none⟩ (.slice a.o.a a.o.n a.o.c)).setCell ⟨w.heap.size+1+1+1,2,none⟩ (.int .u16 (c.cl:Int))).setCell ⟨w.heap.size+1+1+1,3,none⟩ (.int .u32 (c.df:Int))).setCell ⟨w.heap.size+1+1+1,4,none⟩ (.int .u32 (c.tt:Int))).setCell ⟨w.heap.size+1+1+1,5,none⟩ (.bool c.ho)).setCell ⟨w.heap.size+1+1+1,6,none⟩ (.bool c.hc)).setCell ⟨w.heap.size+1+1+1,7,none⟩ (.bool c.ht)).setCell ⟨w.heap.size+1+1+1,8,none⟩ (.bool c.sd)).drew=W9 at*
     have u0:=HX.out.1.c0
     have u1:=HX.out.1.c1
     have u2:=HX.out.1.c2
     have u3:=HX.out.1.c3
     have u4:=HX.out.1.c4
     have u5:=HX.out.1.c5
     have u6:=HX.out.1.c6
     have u7:=HX.out.1.c7
     have y0:=HX.out.2.1.c0
     have y1:=HX.out.2.1.c1
     have y2:=HX.out.2.1.c2
     have y3:=HX.out.2.1.c3
     have y4:=HX.out.2.1.c4
     have y5:=HX.out.2.1.c5
     have y6:=HX.out.2.1.c6
     have y7:=HX.out.2.1.c7
     have y8:=HX.out.2.1.c8
     simp only[ra0,rec0] at u0 u1 u2 u3 u4 u5 u6 u7
     exact bodyPost_ret (v:=.tuple #[.agg #[.slice none 0 0,.int .u16 0,.int .u16 0,.int .u32 0,.slice none 0 0,.slice none 0 0,.slice none 0 0,.slice none 0 0],caV a c,.int .i64 O3]) (by simp[results,Tryz.results64,go_sem,u0,u1,u2,u3,u4,u5,u6,u7,y0,y1,y2,y3,y4,y5,y6,y7,y8]) rfl ⟨ra0,rec0,a,c,O3,rfl,HX.out.2.2,.inr ⟨HNE.out,HF.out⟩⟩
theorem RfR.low{B B2:Nat}{w:World}{g:Option Nat}{x:RA}{r:Rec}(h:RfR B2 w g x r)(hB:B<=B2):RfR B w g x r:=fun w' hs hb=>h w' hs fun j h1 h2 h3=>hb j h1 (by omega) h3
theorem OwR.push2{B B2:Nat}{w W2 W9:World}{v v':Value}{ps:List (RA × Rec)}{y:RA}{r:Rec}(h3:∀p∈ps,RfR B w v.ownBlock p.1 p.2)(hl:w.ownsRow B 50 8 v ps.length (cellsR ps))(hBB:B<=w.heap.size)(hB:w.heap.size<=B2)(hW:w.heap.size<=W2.heap.size)(hy:ROwx B2 W2 y r)(k3:W2.heap.size<=W9.heap.size)
  (k2:∀j,j<w.heap.size->some j≠v.ownBlock->W9.heap[j]?=w.heap[j]?) (k4:∀j,B2<=j->j<W2.heap.size->W9.heap[j]?=W2.heap[j]?) (h5:W9.ownsRow B 50 8 v' (ps.length+1) (cellsR ps++cellsR [(y,r)])) (h7:v'.ownBlock=v.ownBlock∨∃H,v'.ownBlock=some H/\W2.heap.size<=H):OwR B W9 v' (ps.map (·.2)++[r])/\RfR B W9 v'.ownBlock y r:=by
 have hlt:=hl.lt
 have hnew:RfR B W9 v'.ownBlock y r:=by
  have:=RfR.of (B:=B2) (g:=v.ownBlock) hy (Nat.le_refl _) (fun k e=>by have:=(hlt k e).2;omega)
  refine RfR.low (B2:=B2) (this.go k3 (fun j e1 e2 _=>k4 j e2 e1) (fun j e1 e2=>?_)) (by omega)
  rcases h7 with h7|⟨H,h7,hH⟩
  ·rw[h7];exact e2
  ·rw[h7];intro e;injection e with e;omega
 refine ⟨⟨ps++[(y,r)],by simp,?_,?_⟩,hnew⟩
 ·rw[cellsR_app,List.length_append];exact h5
 ·intro p hp
  rcases List.mem_append.1 hp with hp|hp
  ·refine (h3 p hp).go (by omega) (fun j e1 e2 e3=>k2 j e1 e3) (fun j e1 e2=>?_)
   rcases h7 with h7|⟨H,h7,hH⟩
   ·rw[h7];exact e2
   ·rw[h7];intro e;injection e with e;omega
  ·rw[List.mem_singleton] at hp
   subst hp
   exact hnew
structure PuS(w W:World)(a:CA)(c:Cy):Prop where
 cy:CyB W (w.heap.size+1) a c
 rz:CyB W (w.heap.size+1+1) ca0 (cy0 [])
 bel:Below w.heap.size w W
theorem PuS.below{w W W':World}{a:CA}{c:Cy}(h:PuS w W a c)(hb:Below W.heap.size W W'):PuS w W' a c:=⟨h.cy.below hb,h.rz.below hb,h.bel.trans (hb.mono h.bel.size)⟩
theorem PuS.new(w:World)(o1:Obj)(a:CA)(c:Cy):PuS w (((w.alloc o1).alloc (.cells #[.slice a.g.a a.g.n a.g.c,.slice a.o.a a.o.n a.o.c,.int .u16 (c.cl:Int),.int .u32 (c.df:Int),.int .u32 (c.tt:Int),.bool c.ho,.bool c.hc,.bool c.ht,.bool c.sd] 63)).alloc (.cells #[.slice none 0 0,.slice none 0 0,.int .u16 0,.int .u32 0,.int .u32 0,.bool false,.bool false,.bool false,.bool false] 63)) a c:=by
 have l1:=new_below w o1
 generalize hw1:w.alloc o1=w1 at*
 have n1:w1.heap.size=w.heap.size+1:=by rw[<- hw1];simp
 have q2:CyB (w1.alloc (.cells #[.slice a.g.a a.g.n a.g.c,.slice a.o.a a.o.n a.o.c,.int .u16 (c.cl:Int),.int .u32 (c.df:Int),.int .u32 (c.tt:Int),.bool c.ho,.bool c.hc,.bool c.ht,.bool c.sd] 63)) w1.heap.size a c:=CyB.new w1 a c
 have l2:=new_below w1 (.cells #[.slice a.g.a a.g.n a.g.c,.slice a.o.a a.o.n a.o.c,.int .u16 (c.cl:Int),.int .u32 (c.df:Int),.int .u32 (c.tt:Int),.bool c.ho,.bool c.hc,.bool c.ht,.bool c.sd] 63)
 generalize hw2:w1.alloc (.cells #[.slice a.g.a a.g.n a.g.c,.slice a.o.a a.o.n a.o.c,.int .u16 (c.cl:Int),.int .u32 (c.df:Int),.int .u32 (c.tt:Int),.bool c.ho,.bool c.hc,.bool c.ht,.bool c.sd] 63)=w2 at*
 have n2:w2.heap.size=w1.heap.size+1:=by rw[<- hw2];simp
 have q4:CyB (w2.alloc (.cells #[.slice none 0 0,.slice none 0 0,.int .u16 0,.int .u32 0,.int .u32 0,.bool false,.bool false,.bool false,.bool false] 63)) w2.heap.size ca0 (cy0 []):=CyB.zero w2
 have l4:=new_below w2 (.cells #[.slice none 0 0,.slice none 0 0,.int .u16 0,.int .u32 0,.int .u32 0,.bool false,.bool false,.bool false,.bool false] 63)
 generalize hw4:w2.alloc (.cells #[.slice none 0 0,.slice none 0 0,.int .u16 0,.int .u32 0,.int .u32 0,.bool false,.bool false,.bool false,.bool false] 63)=w4 at*
 rw[n1] at q2
 rw[n2,n1] at q4
 exact ⟨(l4.block _ (by omega)).trans q2,q4,l1.trans ((l2.mono (by omega)).trans (l4.mono (by omega)))⟩
theorem pu_exit{w W:World}{a0:CA}{c0:Cy}(h:PuS w W a0 c0)(a:CA)(c:Cy):CyB ((((((((((W.setCell ⟨w.heap.size+1+1,0,none⟩ (.slice a.g.a a.g.n a.g.c)).setCell ⟨w.heap.size+1+1,1,none⟩ (.slice a.o.a a.o.n a.o.c)).setCell ⟨w.heap.size+1+1,2,none⟩ (.int .u16 (c.cl:Int))).setCell ⟨w.heap.size+1+1,3,none⟩ (.int .u32 (c.df:Int))).setCell ⟨w.heap.size+1+1,4,none⟩ (.int .u32 (c.tt:Int))).setCell ⟨w.heap.size+1+1,5,none⟩ (.bool c.ho)).setCell ⟨w.heap.size+1+1,6,none⟩ (.bool c.hc)).setCell ⟨w.heap.size+1+1,7,none⟩ (.bool c.ht)).setCell ⟨w.heap.size+1+1,8,none⟩ (.bool c.sd)).drew) (w.heap.size+1+1) a c/\Below w.heap.size w ((((((((((W.setCell ⟨w.heap.size+1+1,0,none⟩ (.slice a.g.a a.g.n a.g.c)).setCell ⟨w.heap.size+1+1,1,none⟩ (.slice a.o.a a.o.n a.o.c)).setCell ⟨w.heap.size+1+1,2,none⟩ (.int .u16 (c.cl:Int))).setCell ⟨w.heap.size+1+1,3,none⟩ (.int .u32 (c.df:Int))).setCell ⟨w.heap.size+1+1,4,none⟩ (.int .u32 (c.tt:Int))).setCell ⟨w.heap.size+1+1,5,none⟩ (.bool c.ho)).setCell ⟨w.heap.size+1+1,6,none⟩ (.bool c.hc)).setCell ⟨w.heap.size+1+1,7,none⟩ (.bool c.ht)).setCell ⟨w.heap.size+1+1,8,none⟩ (.bool c.sd)).drew):=
 ⟨CyB.drew (h.rz.all a c),(below_nine h.bel (b:=w.heap.size+1+1) (by omega) _ _ _ _ _ _ _ _ _).drew⟩
theorem grown_of{w w':World}{g:Option Nat}(hb:Below w.heap.size w w'):w.grownBy w' g:=⟨hb.os,hb.tape,hb.output,hb.size,fun j hj _=>hb.block j hj⟩
def putF(R:Except Int (Rec × Cy))(rs:List Rec):Except Int (Cy × List Rec):=match R with
 | .error er=>.error er
 | .ok (r,c')=>if rs.length=2048 then .error 3 else .ok (c',rs++[r])
def PuP(R:Except Int (Rec × Cy))(B:Nat)(v:Value)(rs:List Rec)(a:CA)(w:World)(e:Ending)(w':World):Prop:=
 ∃(s':Sl) (a':CA) (c':Cy) (er:Int),e=.returned (.tuple #[.slice s'.a s'.n s'.c,caV a' c',.int .i64 er])/\Hid (w.grownBy w' v.ownBlock)/\Hid ((er=0/\∃(rc:Rec) (x:RA),R=.ok (rc,c')/\rs.length≠2048/\OwR B w' (.slice s'.a s'.n s'.c) (rs++[rc])/\a'.g=a.g/\a'.o=x.o/\RfR B w' (Value.ownBlock (.slice s'.a s'.n s'.c)) x rc/\((Value.slice s'.a s'.n s'.c).ownBlock=v.ownBlock∨∃H,(Value.slice s'.a s'.n s'.c).ownBlock=some H/\w.heap.size<=H))∨(er≠0/\putF R rs=.error er))
structure PuG(w W2b w7:World)(v:Value)(a:CA)(c:Cy)(a':CA)(c':Cy)(p:Nat):Prop where
 cy:CyB w7 p a' c'
 rz:CyB w7 (w.heap.size+1+1) ca0 (cy0 [])
 sz:W2b.heap.size<=w7.heap.size
 bl:∀j,j<W2b.heap.size->some j≠v.ownBlock->w7.heap[j]?=W2b.heap[j]?
 os:w7.os=W2b.os
 tape:w7.tape=W2b.tape
 output:w7.output=W2b.output
theorem pu_grown{B:Nat}{w W2b w7:World}{v:Value}{ps:List (RA × Rec)}{a:CA}{c:Cy}{a':CA}{c':Cy}{p:Nat}{o:Obj}(hl:w.ownsRow B 50 8 v ps.length (cellsR ps))(hs:PuS w W2b a c)(hcb:CyB W2b (p+1) a' c')(h2:w.heap.size+2<p)(hz:W2b.heap.size=p+1+1)(h6:(W2b.alloc o).drew.grownBy w7 v.ownBlock):PuG w W2b w7 v a c a' c' (p+1):=by
 have hlt:=hl.lt
 have hbl:∀j,j<W2b.heap.size->some j≠v.ownBlock->w7.heap[j]?=W2b.heap[j]?:=fun j h1 h3=>(h6.block j (by show j<(W2b.alloc o).heap.size;simp;omega) h3).trans ((new_below W2b o).block j h1)
 refine ⟨(hbl _ (by omega) (fun e=>?_)).trans hcb,(hbl _ (by omega) (fun e=>?_)).trans hs.rz,?_,hbl,?_,?_,?_⟩
 ·have:=(hlt _ e.symm).2;omega
 ·have:=(hlt _ e.symm).2;omega
 ·have:(W2b.alloc o).heap.size<=w7.heap.size:=h6.size
  simp at this
  omega
 ·exact h6.os
 ·exact h6.tape
 ·exact h6.output
theorem pu_end{B:Nat}{w W2 W2b w7:World}{v:Value}{ps:List (RA × Rec)}{a:CA}{c:Cy}{a':CA}{c':Cy}{x2:RA}{rc:Rec}{g cap p:Nat}(h3:∀q∈ps,RfR B w v.ownBlock q.1 q.2)(hl:w.ownsRow B 50 8 v ps.length (cellsR ps))(hBB:B<=w.heap.size)(hs:PuS w W2b a c)(h2:w.heap.size+2<W2.heap.size)(hwb:Below W2.heap.size W2 W2b)(hz:W2b.heap.size=W2.heap.size+1+1)(hx:ROwx (w.heap.size+3) W2 x2 rc)(hG:PuG w W2b w7 v a c a' c' p)(h5:w7.ownsRow B 50 8 (.slice (some ⟨g,0,none⟩) (ps.length+1) cap) (ps.length+1) (cellsR ps++cellsR [(x2,rc)]))(hat:v.ownBlock=some g∨g=W2b.heap.size+1) :
  CyB (((((((((w7.setCell ⟨w.heap.size+1+1,0,none⟩ (.slice a'.g.a a'.g.n a'.g.c)).setCell ⟨w.heap.size+1+1,1,none⟩ (.slice a'.o.a a'.o.n a'.o.c)).setCell ⟨w.heap.size+1+1,2,none⟩ (.int .u16 (c'.cl:Int))).setCell ⟨w.heap.size+1+1,3,none⟩ (.int .u32 (c'.df:Int))).setCell ⟨w.heap.size+1+1,4,none⟩ (.int .u32 (c'.tt:Int))).setCell ⟨w.heap.size+1+1,5,none⟩ (.bool c'.ho)).setCell ⟨w.heap.size+1+1,6,none⟩ (.bool c'.hc)).setCell ⟨w.heap.size+1+1,7,none⟩ (.bool c'.ht)).setCell ⟨w.heap.size+1+1,8,none⟩ (.bool c'.sd)) (w.heap.size+1+1) a' c'/\w.grownBy (((((((((w7.setCell ⟨w.heap.size+1+1,0,none⟩ (.slice a'.g.a a'.g.n a'.g.c)).setCell ⟨w.heap.size+1+1,1,none⟩ (.slice a'.o.a a'.o.n a'.o.c)).setCell ⟨w.heap.size+1+1,2,none⟩ (.int .u16 (c'.cl:Int))).setCell ⟨w.heap.size+1+1,3,none⟩ (.int .u32 (c'.df:Int))).setCell ⟨w.heap.size+1+1,4,none⟩ (.int .u32 (c'.tt:Int))).setCell ⟨w.heap.size+1+1,5,none⟩ (.bool c'.ho)).setCell ⟨w.heap.size+1+1,6,none⟩ (.bool c'.hc)).setCell ⟨w.heap.size+1+1,7,none⟩ (.bool c'.ht)).setCell ⟨w.heap.size+1+1,8,none⟩ (.bool c'.sd)) v.ownBlock/\OwR B (((((((((w7.setCell ⟨w.heap.size+1+1,0,none⟩ (.slice a'.g.a a'.g.n a'.g.c)).setCell ⟨w.heap.size+1+1,1,none⟩ (.slice a'.o.a a'.o.n a'.o.c)).setCell ⟨w.heap.size+1+1,2,none⟩ (.int .u16 (c'.cl:Int))).setCell ⟨w.heap.size+1+1,3,none⟩ (.int .u32 (c'.df:Int))).setCell ⟨w.heap.size+1+1,4,none⟩ (.int .u32 (c'.tt:Int))).setCell ⟨w.heap.size+1+1,5,none⟩ (.bool c'.ho)).setCell ⟨w.heap.size+1+1,6,none⟩ (.bool c'.hc)).setCell ⟨w.heap.size+1+1,7,none⟩ (.bool c'.ht)).setCell ⟨w.heap.size+1+1,8,none⟩ (.bool c'.sd)) (.slice (some ⟨g,0,none⟩) (ps.length+1) cap) (ps.map (·.2)++[rc])/\RfR B (((((((((w7.setCell ⟨w.heap.size+1+1,0,none⟩ (.slice a'.g.a a'.g.n a'.g.c)).setCell ⟨w.heap.size+1+1,1,none⟩ (.slice a'.o.a a'.o.n a'.o.c)).setCell ⟨w.heap.size+1+1,2,none⟩ (.int .u16 (c'.cl:Int))).setCell ⟨w.heap.size+1+1,3,none⟩ (.int .u32 (c'.df:Int))).setCell ⟨w.heap.size+1+1,4,none⟩ (.int .u32 (c'.tt:Int))).setCell ⟨w.heap.size+1+1,5,none⟩ (.bool c'.ho)).setCell ⟨w.heap.size+1+1,6,none⟩ (.bool c'.hc)).setCell ⟨w.heap.size+1+1,7,none⟩ (.bool c'.ht)).setCell ⟨w.heap.size+1+1,8,none⟩ (.bool c'.sd)) (Value.ownBlock (.slice (some ⟨g,0,none⟩) (ps.length+1) cap)) x2 rc/\((Value.slice (some ⟨g,0,none⟩) (ps.length+1) cap).ownBlock=v.ownBlock∨∃H,(Value.slice (some ⟨g,0,none⟩) (ps.length+1) cap).ownBlock=some H/\w.heap.size<=H):=by
 have hlt:=hl.lt
 have hown:∀cap',(Value.slice (some ⟨g,0,none⟩) (ps.length+1) cap').ownBlock=some g:=fun _=>rfl
 have hc:CyB (((((((((w7.setCell ⟨w.heap.size+1+1,0,none⟩ (.slice a'.g.a a'.g.n a'.g.c)).setCell ⟨w.heap.size+1+1,1,none⟩ (.slice a'.o.a a'.o.n a'.o.c)).setCell ⟨w.heap.size+1+1,2,none⟩ (.int .u16 (c'.cl:Int))).setCell ⟨w.heap.size+1+1,3,none⟩ (.int .u32 (c'.df:Int))).setCell ⟨w.heap.size+1+1,4,none⟩ (.int .u32 (c'.tt:Int))).setCell ⟨w.heap.size+1+1,5,none⟩ (.bool c'.ho)).setCell ⟨w.heap.size+1+1,6,none⟩ (.bool c'.hc)).setCell ⟨w.heap.size+1+1,7,none⟩ (.bool c'.ht)).setCell ⟨w.heap.size+1+1,8,none⟩ (.bool c'.sd)) (w.heap.size+1+1) a' c':=hG.rz.all a' c'
 have hh:∀j,j≠w.heap.size+1+1->((((((((((w7.setCell ⟨w.heap.size+1+1,0,none⟩ (.slice a'.g.a a'.g.n a'.g.c)).setCell ⟨w.heap.size+1+1,1,none⟩ (.slice a'.o.a a'.o.n a'.o.c)).setCell ⟨w.heap.size+1+1,2,none⟩ (.int .u16 (c'.cl:Int))).setCell ⟨w.heap.size+1+1,3,none⟩ (.int .u32 (c'.df:Int))).setCell ⟨w.heap.size+1+1,4,none⟩ (.int .u32 (c'.tt:Int))).setCell ⟨w.heap.size+1+1,5,none⟩ (.bool c'.ho)).setCell ⟨w.heap.size+1+1,6,none⟩ (.bool c'.hc)).setCell ⟨w.heap.size+1+1,7,none⟩ (.bool c'.ht)).setCell ⟨w.heap.size+1+1,8,none⟩ (.bool c'.sd))).heap[j]?=w7.heap[j]?:=fun j hj=>nine_heap w7 (w.heap.size+1+1) _ _ _ _ _ _ _ _ _ j hj
 have hn:((((((((((w7.setCell ⟨w.heap.size+1+1,0,none⟩ (.slice a'.g.a a'.g.n a'.g.c)).setCell ⟨w.heap.size+1+1,1,none⟩ (.slice a'.o.a a'.o.n a'.o.c)).setCell ⟨w.heap.size+1+1,2,none⟩ (.int .u16 (c'.cl:Int))).setCell ⟨w.heap.size+1+1,3,none⟩ (.int .u32 (c'.df:Int))).setCell ⟨w.heap.size+1+1,4,none⟩ (.int .u32 (c'.tt:Int))).setCell ⟨w.heap.size+1+1,5,none⟩ (.bool c'.ho)).setCell ⟨w.heap.size+1+1,6,none⟩ (.bool c'.hc)).setCell ⟨w.heap.size+1+1,7,none⟩ (.bool c'.ht)).setCell ⟨w.heap.size+1+1,8,none⟩ (.bool c'.sd))).heap.size=w7.heap.size:=nine_size _ _ _ _ _ _ _ _ _ _ _
 have hb9:=below_nine (Below.refl 0 w7) (b:=w.heap.size+1+1) (Nat.zero_le _) (.slice a'.g.a a'.g.n a'.g.c) (.slice a'.o.a a'.o.n a'.o.c) (.int .u16 (c'.cl:Int)) (.int .u32 (c'.df:Int)) (.int .u32 (c'.tt:Int)) (.bool c'.ho) (.bool c'.hc) (.bool c'.ht) (.bool c'.sd)
 generalize (((((((((w7.setCell ⟨w.heap.size+1+1,0,none⟩ (.slice a'.g.a a'.g.n a'.g.c)).setCell ⟨w.heap.size+1+1,1,none⟩ (.slice a'.o.a a'.o.n a'.o.c)).setCell ⟨w.heap.size+1+1,2,none⟩ (.int .u16 (c'.cl:Int))).setCell ⟨w.heap.size+1+1,3,none⟩ (.int .u32 (c'.df:Int))).setCell ⟨w.heap.size+1+1,4,none⟩ (.int .u32 (c'.tt:Int))).setCell ⟨w.heap.size+1+1,5,none⟩ (.bool c'.ho)).setCell ⟨w.heap.size+1+1,6,none⟩ (.bool c'.hc)).setCell ⟨w.heap.size+1+1,7,none⟩ (.bool c'.ht)).setCell ⟨w.heap.size+1+1,8,none⟩ (.bool c'.sd))=V at*
 have ho:V.os=w7.os/\V.tape=w7.tape/\V.output=w7.output:=⟨hb9.os,hb9.tape,hb9.output⟩
 have hsz:=hG.sz
 have hbz:=hs.bel.size
 have hblw:∀j,j<w.heap.size->some j≠v.ownBlock->V.heap[j]?=w.heap[j]?:=fun j h1 h4=>(hh j (by omega)).trans ((hG.bl j (by omega) h4).trans (hs.bel.block j h1))
 have hgb:g≠w.heap.size+1+1:=by
  rcases hat with h|h
  ·have:=(hlt g h).2;omega
  ·omega
 have hrow:V.ownsRow B 50 8 (.slice (some ⟨g,0,none⟩) (ps.length+1) cap) (ps.length+1) (cellsR ps++cellsR [(x2,rc)]):=
  h5.kept (row:=some (w.heap.size+1+1)) ⟨ho.1,ho.2.1,ho.2.2,by omega,fun j _ hj=>hh j (fun e=>hj (by rw[e]))⟩ (.inr (by rw[hown];intro e;injection e with e;exact hgb e))
 have h7:(Value.slice (some ⟨g,0,none⟩) (ps.length+1) cap).ownBlock=v.ownBlock∨∃H,(Value.slice (some ⟨g,0,none⟩) (ps.length+1) cap).ownBlock=some H/\W2.heap.size<=H:=by
  rcases hat with h|h
  ·exact .inl (by rw[h];rfl)
  ·exact .inr ⟨g,rfl,by omega⟩
 have hp:=OwR.push2 (B2:=w.heap.size+3) (W2:=W2) h3 hl hBB (by omega) (by omega) hx (by omega) hblw (fun j e1 e2=>(hh j (by omega)).trans ((hG.bl j (by omega) (fun e=>by have:=(hlt j e.symm).2;omega)).trans (hwb.block j e2))) hrow h7
 exact ⟨hc,⟨ho.1.trans (hG.os.trans hs.bel.os),ho.2.1.trans (hG.tape.trans hs.bel.tape),ho.2.2.trans (hG.output.trans hs.bel.output),by omega,hblw⟩,hp.1,hp.2,h7.imp id fun ⟨H,e1,e2⟩=>⟨H,e1,by omega⟩⟩
theorem put_any(B:Nat)(v:Value)(rs:List Rec)(x:Sl)(e:En)(a:CA)(c:Cy)(w:World)(hv:OwR B w v rs)(hB:B<=w.heap.size)(hrs:rs.length<=2048)(h:Ws w x e.ws)(hc:CRd w a c)(hE:LayE w)(hL:LayT w):Calls Tryz.prog 38 #[v,enV x e,caV a c] w (PuP (entF e c) B v rs a w):=by
 obtain ⟨ps,rfl,hrow,hrf⟩:=hv
 have hpl:(ps.map (·.2)).length=ps.length:=by simp
 rw[hpl] at hrs
 have HRF:Hid (∀p∈ps,RfR B w v.ownBlock p.1 p.2):=hrf
 have HROW:Hid (w.ownsRow B 50 8 v ps.length (cellsR ps)):=hrow
 have HBB:Hid (B<=w.heap.size):=hB
 obtain ⟨va,vc,hvs⟩:∃va vc,v=.slice va ps.length vc:=by
  rcases hrow.2 with ⟨h1,h2⟩|⟨g,cap,cur,h1,-⟩
  ·exact ⟨none,0,by rw[h1,h2]⟩
  ·exact ⟨_,_,h1⟩
 have HS:=Lib.hid (PuS.new w (.cells #[.int .i64 e.line,.bool e.blank,.slice x.a x.n x.c] 75) a c)
 have KR:=Lib.hid (read_any x e a c _ (h.below HS.out.bel) (hc.below HS.out.bel) (hE.below HS.out.bel) (hL.below HS.out.bel))
 have HIJ:=Lib.hid inf69'
 have HPL:=Lib.hid hpl
 generalize entF e c=R at*
 clear hrow hrf h hc hE hL hpl hB
 subst hvs
 obtain ⟨i50,hi⟩:=HIJ.out
 have HJ:=Lib.hid hi
 clear hi HIJ
 go_enter Tryz.func38,Tryz.ntmps38
 go_wp2_with fail
 refine KR.out.mono ?_
 rintro r W2 ⟨x2,rc,a',c',er,rfl,HB2,HQ⟩
 have HS2:=Lib.hid (HS.out.below HB2.out)
 have HSZ:Hid (w.heap.size+2<W2.heap.size):=HS2.out.rz.lt
 have HSB:=Lib.hid (HS2.out.below ((new_below W2 (.cells #[.slice x2.o.a x2.o.n x2.o.c,.int .u16 (rc.t:Int),.int .u16 (rc.cl:Int),.int .u32 (rc.tt:Int),.slice x2.d.p1.a x2.d.p1.n x2.d.p1.c,.slice x2.d.p2.a x2.d.p2.n x2.d.p2.c,.slice x2.d.p3.a x2.d.p3.n x2.d.p3.c,.slice x2.d.p4.a x2.d.p4.n x2.d.p4.c] 50)).trans ((new_below _ (.cells #[.slice a'.g.a a'.g.n a'.g.c,.slice a'.o.a a'.o.n a'.o.c,.int .u16 (c'.cl:Int),.int .u32 (c'.df:Int),.int .u32 (c'.tt:Int),.bool c'.ho,.bool c'.hc,.bool c'.ht,.bool c'.sd] 63)).mono (by simp))))
 have HRB:Hid (RcB ((W2.alloc (.cells #[.slice x2.o.a x2.o.n x2.o.c,.int .u16 (rc.t:Int),.int .u16 (rc.cl:Int),.int .u32 (rc.tt:Int),.slice x2.d.p1.a x2.d.p1.n x2.d.p1.c,.slice x2.d.p2.a x2.d.p2.n x2.d.p2.c,.slice x2.d.p3.a x2.d.p3.n x2.d.p3.c,.slice x2.d.p4.a x2.d.p4.n x2.d.p4.c] 50)).alloc (.cells #[.slice a'.g.a a'.g.n a'.g.c,.slice a'.o.a a'.o.n a'.o.c,.int .u16 (c'.cl:Int),.int .u32 (c'.df:Int),.int .u32 (c'.tt:Int),.bool c'.ho,.bool c'.hc,.bool c'.ht,.bool c'.sd] 63)) W2.heap.size x2 rc):=((new_below _ (.cells #[.slice a'.g.a a'.g.n a'.g.c,.slice a'.o.a a'.o.n a'.o.c,.int .u16 (c'.cl:Int),.int .u32 (c'.df:Int),.int .u32 (c'.tt:Int),.bool c'.ho,.bool c'.hc,.bool c'.ht,.bool c'.sd] 63)).block _ (by simp)).trans (heap_alloc_new W2 (.cells #[.slice x2.o.a x2.o.n x2.o.c,.int .u16 (rc.t:Int),.int .u16 (rc.cl:Int),.int .u32 (rc.tt:Int),.slice x2.d.p1.a x2.d.p1.n x2.d.p1.c,.slice x2.d.p2.a x2.d.p2.n x2.d.p2.c,.slice x2.d.p3.a x2.d.p3.n x2.d.p3.c,.slice x2.d.p4.a x2.d.p4.n x2.d.p4.c] 50))
 have HCB:Hid (CyB ((W2.alloc (.cells #[.slice x2.o.a x2.o.n x2.o.c,.int .u16 (rc.t:Int),.int .u16 (rc.cl:Int),.int .u32 (rc.tt:Int),.slice x2.d.p1.a x2.d.p1.n x2.d.p1.c,.slice x2.d.p2.a x2.d.p2.n x2.d.p2.c,.slice x2.d.p3.a x2.d.p3.n x2.d.p3.c,.slice x2.d.p4.a x2.d.p4.n x2.d.p4.c] 50)).alloc (.cells #[.slice a'.g.a a'.g.n a'.g.c,.slice a'.o.a a'.o.n a'.o.c,.int .u16 (c'.cl:Int),.int .u32 (c'.df:Int),.int .u32 (c'.tt:Int),.bool c'.ho,.bool c'.hc,.bool c'.ht,.bool c'.sd] 63)) (W2.heap.size+1) a' c'):=by
  have:=CyB.new (W2.alloc (.cells #[.slice x2.o.a x2.o.n x2.o.c,.int .u16 (rc.t:Int),.int .u16 (rc.cl:Int),.int .u32 (rc.tt:Int),.slice x2.d.p1.a x2.d.p1.n x2.d.p1.c,.slice x2.d.p2.a x2.d.p2.n x2.d.p2.c,.slice x2.d.p3.a x2.d.p3.n x2.d.p3.c,.slice x2.d.p4.a x2.d.p4.n x2.d.p4.c] 50)) a' c'
  rw[World.size_alloc] at this
  exact this
 have HW2b:Hid (Below W2.heap.size W2 ((W2.alloc (.cells #[.slice x2.o.a x2.o.n x2.o.c,.int .u16 (rc.t:Int),.int .u16 (rc.cl:Int),.int .u32 (rc.tt:Int),.slice x2.d.p1.a x2.d.p1.n x2.d.p1.c,.slice x2.d.p2.a x2.d.p2.n x2.d.p2.c,.slice x2.d.p3.a x2.d.p3.n x2.d.p3.c,.slice x2.d.p4.a x2.d.p4.n x2.d.p4.c] 50)).alloc (.cells #[.slice a'.g.a a'.g.n a'.g.c,.slice a'.o.a a'.o.n a'.o.c,.int .u16 (c'.cl:Int),.int .u32 (c'.df:Int),.int .u32 (c'.tt:Int),.bool c'.ho,.bool c'.hc,.bool c'.ht,.bool c'.sd] 63))):=(new_below W2 (.cells #[.slice x2.o.a x2.o.n x2.o.c,.int .u16 (rc.t:Int),.int .u16 (rc.cl:Int),.int .u32 (rc.tt:Int),.slice x2.d.p1.a x2.d.p1.n x2.d.p1.c,.slice x2.d.p2.a x2.d.p2.n x2.d.p2.c,.slice x2.d.p3.a x2.d.p3.n x2.d.p3.c,.slice x2.d.p4.a x2.d.p4.n x2.d.p4.c] 50)).trans ((new_below _ (.cells #[.slice a'.g.a a'.g.n a'.g.c,.slice a'.o.a a'.o.n a'.o.c,.int .u16 (c'.cl:Int),.int .u32 (c'.df:Int),.int .u32 (c'.tt:Int),.bool c'.ho,.bool c'.hc,.bool c'.ht,.bool c'.sd] 63)).mono (by simp))
 have HSZb:Hid (((W2.alloc (.cells #[.slice x2.o.a x2.o.n x2.o.c,.int .u16 (rc.t:Int),.int .u16 (rc.cl:Int),.int .u32 (rc.tt:Int),.slice x2.d.p1.a x2.d.p1.n x2.d.p1.c,.slice x2.d.p2.a x2.d.p2.n x2.d.p2.c,.slice x2.d.p3.a x2.d.p3.n x2.d.p3.c,.slice x2.d.p4.a x2.d.p4.n x2.d.p4.c] 50)).alloc (.cells #[.slice a'.g.a a'.g.n a'.g.c,.slice a'.o.a a'.o.n a'.o.c,.int .u16 (c'.cl:Int),.int .u32 (c'.df:Int),.int .u32 (c'.tt:Int),.bool c'.ho,.bool c'.hc,.bool c'.ht,.bool c'.sd] 63)).heap.size=W2.heap.size+1+1):=by show _=_;simp
 have HROWb:Hid (((W2.alloc (.cells #[.slice x2.o.a x2.o.n x2.o.c,.int .u16 (rc.t:Int),.int .u16 (rc.cl:Int),.int .u32 (rc.tt:Int),.slice x2.d.p1.a x2.d.p1.n x2.d.p1.c,.slice x2.d.p2.a x2.d.p2.n x2.d.p2.c,.slice x2.d.p3.a x2.d.p3.n x2.d.p3.c,.slice x2.d.p4.a x2.d.p4.n x2.d.p4.c] 50)).alloc (.cells #[.slice a'.g.a a'.g.n a'.g.c,.slice a'.o.a a'.o.n a'.o.c,.int .u16 (c'.cl:Int),.int .u32 (c'.df:Int),.int .u32 (c'.tt:Int),.bool c'.ho,.bool c'.hc,.bool c'.ht,.bool c'.sd] 63)).ownsRow B 50 8 (.slice va ps.length vc) ps.length (cellsR ps)):=ownsRow_stays HROW.out (HS2.out.bel.trans (HW2b.out.mono HS2.out.bel.size))
 clear KR HS
 rcases HQ.out with ⟨rfl,hR,hg,ho,hx⟩|⟨hne,hR⟩
 ·have HR:=Lib.hid hR
  have HG:=Lib.hid hg
  have HO:=Lib.hid ho
  have HX0:Hid (ROwx (w.heap.size+3) W2 x2 rc):=by
   simp only[World.size_alloc] at hx
   exact hx
  clear hR hg ho hx HQ
  by_cases hfull:ps.length=2048
  ·have hf1:((ps.length:Int) == 2048)=true:=by rw[hfull];rfl
   have HF:Hid (putF R (ps.map (·.2))=.error 3):=by
    show _=_
    rw[HR.out]
    show (if _ then _ else _)=_
    rw[if_pos (by rw[HPL.out,hfull])]
   clear HX0 HJ HRF HROW HROWb
   go_wp2_with fail
   generalize (W2.alloc (.cells #[.slice x2.o.a x2.o.n x2.o.c,.int .u16 (rc.t:Int),.int .u16 (rc.cl:Int),.int .u32 (rc.tt:Int),.slice x2.d.p1.a x2.d.p1.n x2.d.p1.c,.slice x2.d.p2.a x2.d.p2.n x2.d.p2.c,.slice x2.d.p3.a x2.d.p3.n x2.d.p3.c,.slice x2.d.p4.a x2.d.p4.n x2.d.p4.c] 50)).alloc (.cells #[.slice a'.g.a a'.g.n a'.g.c,.slice a'.o.a a'.o.n a'.o.c,.int .u16 (c'.cl:Int),.int .u32 (c'.df:Int),.int .u32 (c'.tt:Int),.bool c'.ho,.bool c'.hc,.bool c'.ht,.bool c'.sd] 63)=W2b at*
   have r0:=HSB.out.cy.c0
   have r1:=HSB.out.cy.c1
   have r2:=HSB.out.cy.c2
   have r3:=HSB.out.cy.c3
   have r4:=HSB.out.cy.c4
   have r5:=HSB.out.cy.c5
   have r6:=HSB.out.cy.c6
   have r7:=HSB.out.cy.c7
   have r8:=HSB.out.cy.c8
   have q0:=HSB.out.rz.c0
   have q1:=HSB.out.rz.c1
   have q2:=HSB.out.rz.c2
   have q3:=HSB.out.rz.c3
   have q4:=HSB.out.rz.c4
   have q5:=HSB.out.rz.c5
   have q6:=HSB.out.rz.c6
   have q7:=HSB.out.rz.c7
   have q8:=HSB.out.rz.c8
   have qf0:=HSB.out.rz.fz 0
   have qf1:=HSB.out.rz.fz 1
   have qf2:=HSB.out.rz.fz 2
   have qf3:=HSB.out.rz.fz 3
   have qf4:=HSB.out.rz.fz 4
   have qf5:=HSB.out.rz.fz 5
   have qf6:=HSB.out.rz.fz 6
   have qf7:=HSB.out.rz.fz 7
   have qf8:=HSB.out.rz.fz 8
   simp only[ca0,cy0] at q0 q1 q2 q3 q4 q5 q6 q7 q8
   have ql:=HSB.out.rz.lt
   go_region_law (fail)
   all_goals
    go_wp2_with fail
    have HX:=Lib.hid (pu_exit HSB.out a c)
    generalize (((((((((W2b.setCell ⟨w.heap.size+1+1,0,none⟩ (.slice a.g.a a.g.n a.g.c)).setCell ⟨w.heap.size+1+1,1,none⟩ (.slice a.o.a a.o.n a.o.c)).setCell ⟨w.heap.size+1+1,2,none⟩ (.int .u16 (c.cl:Int))).setCell ⟨w.heap.size+1+1,3,none⟩ (.int .u32 (c.df:Int))).setCell ⟨w.heap.size+1+1,4,none⟩ (.int .u32 (c.tt:Int))).setCell ⟨w.heap.size+1+1,5,none⟩ (.bool c.ho)).setCell ⟨w.heap.size+1+1,6,none⟩ (.bool c.hc)).setCell ⟨w.heap.size+1+1,7,none⟩ (.bool c.ht)).setCell ⟨w.heap.size+1+1,8,none⟩ (.bool c.sd)).drew=W9 at*
    have y0:=HX.out.1.c0
    have y1:=HX.out.1.c1
    have y2:=HX.out.1.c2
    have y3:=HX.out.1.c3
    have y4:=HX.out.1.c4
    have y5:=HX.out.1.c5
    have y6:=HX.out.1.c6
    have y7:=HX.out.1.c7
    have y8:=HX.out.1.c8
    exact bodyPost_ret (v:=.tuple #[.slice none 0 0,caV a c,.int .i64 3]) (by simp[results,Tryz.results38,go_sem,y0,y1,y2,y3,y4,y5,y6,y7,y8]) rfl ⟨⟨none,0,0⟩,a,c,3,rfl,grown_of HX.out.2,.inr ⟨by decide,HF.out⟩⟩
  ·have hf1:((ps.length:Int) == 2048)=false:=by rw[beq_eq_false_iff_ne];omega
   have hf2:¬ (ps.length:Int)=2048:=by omega
   have HNF:Hid ((ps.map (·.2)).length≠2048):=by show _≠_;rw[HPL.out];exact hfull
   go_wp2_with fail
   generalize (W2.alloc (.cells #[.slice x2.o.a x2.o.n x2.o.c,.int .u16 (rc.t:Int),.int .u16 (rc.cl:Int),.int .u32 (rc.tt:Int),.slice x2.d.p1.a x2.d.p1.n x2.d.p1.c,.slice x2.d.p2.a x2.d.p2.n x2.d.p2.c,.slice x2.d.p3.a x2.d.p3.n x2.d.p3.c,.slice x2.d.p4.a x2.d.p4.n x2.d.p4.c] 50)).alloc (.cells #[.slice a'.g.a a'.g.n a'.g.c,.slice a'.o.a a'.o.n a'.o.c,.int .u16 (c'.cl:Int),.int .u32 (c'.df:Int),.int .u32 (c'.tt:Int),.bool c'.ho,.bool c'.hc,.bool c'.ht,.bool c'.sd] 63)=W2b at*
   have g0:=HRB.out.c0
   have g1:=HRB.out.c1
   have g2:=HRB.out.c2
   have g3:=HRB.out.c3
   have g4:=HRB.out.c4
   have g5:=HRB.out.c5
   have g6:=HRB.out.c6
   have g7:=HRB.out.c7
   have h0:=HCB.out.c0
   have h1:=HCB.out.c1
   have h2:=HCB.out.c2
   have h3:=HCB.out.c3
   have h4:=HCB.out.c4
   have h5:=HCB.out.c5
   have h6:=HCB.out.c6
   have h7:=HCB.out.c7
   have h8:=HCB.out.c8
   have HCB2:=Lib.hid (HCB.out.below (new_below W2b (.cells #[.slice x2.o.a x2.o.n x2.o.c,.int .u16 (rc.t:Int),.int .u16 (rc.cl:Int),.int .u32 (rc.tt:Int),.slice x2.d.p1.a x2.d.p1.n x2.d.p1.c,.slice x2.d.p2.a x2.d.p2.n x2.d.p2.c,.slice x2.d.p3.a x2.d.p3.n x2.d.p3.c,.slice x2.d.p4.a x2.d.p4.n x2.d.p4.c] 50)))
   have k0:=HCB2.out.c0
   have k1:=HCB2.out.c1
   have k2:=HCB2.out.c2
   have k3:=HCB2.out.c3
   have k4:=HCB2.out.c4
   have k5:=HCB2.out.c5
   have k6:=HCB2.out.c6
   have k7:=HCB2.out.c7
   have k8:=HCB2.out.c8
   go_region_law (first
    |(refine step_append_lies _ (by rfl) _ _ 25 (by rfl) B 50 i50 _ 8 128 Tryz.underlying25 HJ.out.1 HJ.out.2.1 HJ.out.2.2.1 HJ.out.2.2.2 rfl (by omega) (.slice va ps.length vc) ps.length (cellsR ps) (by rfl) ((HROWb.out).alloc _) ⟨W2b.heap.size,0,none⟩ 1 1 (cellsR [(x2,rc)]) (by rfl) (by rfl) (one_rec W2b x2 rc) (cellsR_one _) (by omega) (by simp only[maxLen];omega) (by omega) (by have h1:=HBB.out;have h2:=HSZ.out;have h3:=HSZb.out;simp;omega) (W2b.heap.size+1) (by simp) ?_;intro g cap w7 h5 h6 hat hlt7;have H5:=Lib.hid h5;have H6:=Lib.hid h6;have HAT:=Lib.hid hat;have HGR:Hid (PuG w W2b w7 (.slice va ps.length vc) a c a' c' (W2.heap.size+1)):=pu_grown HROW.out HSB.out HCB.out HSZ.out HSZb.out h6;have m0:=HGR.out.cy.c0;have m1:=HGR.out.cy.c1;have m2:=HGR.out.cy.c2;have m3:=HGR.out.cy.c3;have m4:=HGR.out.cy.c4;have m5:=HGR.out.cy.c5;have m6:=HGR.out.cy.c6;have m7:=HGR.out.cy.c7;have m8:=HGR.out.cy.c8;have q0:=HGR.out.rz.c0;have q1:=HGR.out.rz.c1;have q2:=HGR.out.rz.c2;have q3:=HGR.out.rz.c3;have q4:=HGR.out.rz.c4;have q5:=HGR.out.rz.c5;have q6:=HGR.out.rz.c6;have q7:=HGR.out.rz.c7;have q8:=HGR.out.rz.c8;have qf0:=HGR.out.rz.fz 0;have qf1:=HGR.out.rz.fz 1;have qf2:=HGR.out.rz.fz 2;have qf3:=HGR.out.rz.fz 3;have qf4:=HGR.out.rz.fz 4;have qf5:=HGR.out.rz.fz 5;have qf6:=HGR.out.rz.fz 6;have qf7:=HGR.out.rz.fz 7;have qf8:=HGR.out.rz.fz 8;simp only[ca0,cy0] at q0 q1 q2 q3 q4 q5 q6 q7 q8;have ql:=HGR.out.rz.lt;clear h5 h6 hat)
    |fail)
   all_goals
    have HX:=Lib.hid (pu_end HRF.out HROW.out HBB.out HSB.out HSZ.out HW2b.out HSZb.out HX0.out HGR.out H5.out HAT.out)
    clear H5 H6 HAT HGR HRF HROW HROWb HSB HCB HCB2 HRB
    go_wp2_with fail
    generalize (((((((((w7.setCell ⟨w.heap.size+1+1,0,none⟩ (.slice a'.g.a a'.g.n a'.g.c)).setCell ⟨w.heap.size+1+1,1,none⟩ (.slice a'.o.a a'.o.n a'.o.c)).setCell ⟨w.heap.size+1+1,2,none⟩ (.int .u16 (c'.cl:Int))).setCell ⟨w.heap.size+1+1,3,none⟩ (.int .u32 (c'.df:Int))).setCell ⟨w.heap.size+1+1,4,none⟩ (.int .u32 (c'.tt:Int))).setCell ⟨w.heap.size+1+1,5,none⟩ (.bool c'.ho)).setCell ⟨w.heap.size+1+1,6,none⟩ (.bool c'.hc)).setCell ⟨w.heap.size+1+1,7,none⟩ (.bool c'.ht)).setCell ⟨w.heap.size+1+1,8,none⟩ (.bool c'.sd))=W9 at*
    have y0:=HX.out.1.c0
    have y1:=HX.out.1.c1
    have y2:=HX.out.1.c2
    have y3:=HX.out.1.c3
    have y4:=HX.out.1.c4
    have y5:=HX.out.1.c5
    have y6:=HX.out.1.c6
    have y7:=HX.out.1.c7
    have y8:=HX.out.1.c8
    exact bodyPost_ret (v:=.tuple #[.slice (some ⟨g,0,none⟩) (ps.length+1) cap,caV a' c',.int .i64 0]) (by simp[results,Tryz.results38,go_sem,y0,y1,y2,y3,y4,y5,y6,y7,y8]) rfl ⟨⟨some ⟨g,0,none⟩,ps.length+1,cap⟩,a',c',0,rfl,HX.out.2.1,.inl ⟨rfl,rc,x2,HR.out,HNF.out,HX.out.2.2.1,HG.out,HO.out,HX.out.2.2.2.1,HX.out.2.2.2.2⟩⟩
 ·have hne2:(er == 0)=false:=by simpa using hne
  have hne3:(er != 0)=true:=by simpa using hne
  have HNE:=Lib.hid hne
  have HF:Hid (putF R (ps.map (·.2))=.error er):=by
   show _=_
   rw[hR]
   rfl
  clear HQ hR HJ HRF HROW HROWb hne
  go_wp2_with fail
  generalize (W2.alloc (.cells #[.slice x2.o.a x2.o.n x2.o.c,.int .u16 (rc.t:Int),.int .u16 (rc.cl:Int),.int .u32 (rc.tt:Int),.slice x2.d.p1.a x2.d.p1.n x2.d.p1.c,.slice x2.d.p2.a x2.d.p2.n x2.d.p2.c,.slice x2.d.p3.a x2.d.p3.n x2.d.p3.c,.slice x2.d.p4.a x2.d.p4.n x2.d.p4.c] 50)).alloc (.cells #[.slice a'.g.a a'.g.n a'.g.c,.slice a'.o.a a'.o.n a'.o.c,.int .u16 (c'.cl:Int),.int .u32 (c'.df:Int),.int .u32 (c'.tt:Int),.bool c'.ho,.bool c'.hc,.bool c'.ht,.bool c'.sd] 63)=W2b at*
  have r0:=HSB.out.cy.c0
  have r1:=HSB.out.cy.c1
  have r2:=HSB.out.cy.c2
  have r3:=HSB.out.cy.c3
  have r4:=HSB.out.cy.c4
  have r5:=HSB.out.cy.c5
  have r6:=HSB.out.cy.c6
  have r7:=HSB.out.cy.c7
  have r8:=HSB.out.cy.c8
  have q0:=HSB.out.rz.c0
  have q1:=HSB.out.rz.c1
  have q2:=HSB.out.rz.c2
  have q3:=HSB.out.rz.c3
  have q4:=HSB.out.rz.c4
  have q5:=HSB.out.rz.c5
  have q6:=HSB.out.rz.c6
  have q7:=HSB.out.rz.c7
  have q8:=HSB.out.rz.c8
  have qf0:=HSB.out.rz.fz 0
  have qf1:=HSB.out.rz.fz 1
  have qf2:=HSB.out.rz.fz 2
  have qf3:=HSB.out.rz.fz 3
  have qf4:=HSB.out.rz.fz 4
  have qf5:=HSB.out.rz.fz 5
  have qf6:=HSB.out.rz.fz 6
  have qf7:=HSB.out.rz.fz 7
  have qf8:=HSB.out.rz.fz 8
  simp only[ca0,cy0] at q0 q1 q2 q3 q4 q5 q6 q7 q8
  have ql:=HSB.out.rz.lt
  go_region_law (fail)
  all_goals
   go_wp2_with fail
   have HX:=Lib.hid (pu_exit HSB.out a c)
   generalize (((((((((W2b.setCell ⟨w.heap.size+1+1,0,none⟩ (.slice a.g.a a.g.n a.g.c)).setCell ⟨w.heap.size+1+1,1,none⟩ (.slice a.o.a a.o.n a.o.c)).setCell ⟨w.heap.size+1+1,2,none⟩ (.int .u16 (c.cl:Int))).setCell ⟨w.heap.size+1+1,3,none⟩ (.int .u32 (c.df:Int))).setCell ⟨w.heap.size+1+1,4,none⟩ (.int .u32 (c.tt:Int))).setCell ⟨w.heap.size+1+1,5,none⟩ (.bool c.ho)).setCell ⟨w.heap.size+1+1,6,none⟩ (.bool c.hc)).setCell ⟨w.heap.size+1+1,7,none⟩ (.bool c.ht)).setCell ⟨w.heap.size+1+1,8,none⟩ (.bool c.sd)).drew=W9 at*
   have y0:=HX.out.1.c0
   have y1:=HX.out.1.c1
   have y2:=HX.out.1.c2
   have y3:=HX.out.1.c3
   have y4:=HX.out.1.c4
   have y5:=HX.out.1.c5
   have y6:=HX.out.1.c6
   have y7:=HX.out.1.c7
   have y8:=HX.out.1.c8
   exact bodyPost_ret (v:=.tuple #[.slice none 0 0,caV a c,.int .i64 er]) (by simp[results,Tryz.results38,go_sem,y0,y1,y2,y3,y4,y5,y6,y7,y8]) rfl ⟨⟨none,0,0⟩,a,c,er,rfl,grown_of HX.out.2,.inr ⟨HNE.out,HF.out⟩⟩
theorem nck_nsz6{l:List ByteArray}(h:nck l=0):nsz l<=1000000000000:=by
 unfold nck at h
 split at h
 ·split at h
  ·cases h
  ·omega
 ·cases h
theorem cmd_keep{k:Nat}{ws:List Wd}{c c':Cy}(h:cmdE k ws c=.ok c')(hk:nck c.og=0):c'.ow=c.ow/\nck c'.og=0:=by
 unfold cmdE at h
 split at h
 ·split at h
  ·split at h
   ·injection h with h;subst h;exact ⟨rfl,nrel_ok6 _ _⟩
   ·cases h
  ·split at h
   ·injection h with h;subst h;exact ⟨rfl,hk⟩
   ·cases h
 ·cases h
theorem own_nck(e:En)(c:Cy)(h:nck c.ow=0):nck (ownF e c).1=0:=by
 unfold ownF
 split
 ·split
  ·exact h
  ·exact nck_nil6
 ·split
  ·exact nrel_ok6 _ _
  ·exact nck_nil6
theorem tm_og{y:Say}{d:Dat}{c c':Cy}{n:Nat}(h:tmF y d c=some (n,c')):c'.og=c.og:=by
 unfold tmF at h
 split at h
 ·injection h with h;injection h with h1 h2;rw[<- h2]
 split at h
 ·injection h with h;injection h with h1 h2;rw[<- h2]
 split at h
 ·injection h with h;injection h with h1 h2;rw[<- h2]
 split at h
 ·injection h with h;injection h with h1 h2;rw[<- h2]
 ·cases h
theorem ent_keep{e:En}{c c':Cy}{r:Rec}(h:entF e c=.ok (r,c'))(hk:nck c.ow=0):c'.og=c.og/\c'.ow=r.ow/\nck r.ow=0:=by
 unfold entF at h
 split at h
 ·cases h
 split at h
 ·cases h
 split at h
 ·cases h
 split at h
 ·cases h
 split at h
 ·cases h
 ·rename_i n c1 ht
  injection h with h
  injection h with h1 h2
  rw[<- h1,<- h2]
  have ho:=tm_og ht
  exact ⟨ho,rfl,own_nck e c hk⟩
theorem cmd_word(e:En):cmdN (foldL (opnF e))=cmdF e:=rfl
theorem cmd_cons{e:En}(h:cmdF e≠0):∃p r,e.ws=p::r:=by
 obtain ⟨ln,bl,ws⟩:=e
 cases ws with
 |cons p r=>exact ⟨p,r,rfl⟩
 |nil=>
  exfalso
  apply h
  cases bl <;> rfl
theorem stp_put{e:En}{c:Cy}{rs:List Rec}(h:cmdF e=0):stpE e c rs=putF (entF e c) rs:=by
 unfold stpE putF
 rw[if_pos h]
 cases entF e c with
 |error er=>rfl
 |ok p=>obtain ⟨r,c'⟩:=p;rfl
theorem stp_cmd{e:En}{c:Cy}{rs:List Rec}(h:cmdF e≠0):stpE e c rs=match cmdE (cmdF e) e.ws.tail c with
  | .error er=>.error er
  | .ok c'=>.ok (c',rs):=by
 unfold stpE
 rw[if_neg h]
 cases cmdE (cmdF e) e.ws.tail c <;> rfl
theorem all_cons(e:En)(es:List En)(c:Cy)(rs:List Rec):allF (e::es) c rs=match stpE e c rs with
  | .error er=>.er er e.line
  | .ok (c',rs')=>allF es c' rs':=rfl
theorem ownsMap_blk{w w':World}{m n:Nat}{D:DataW Unit}(h:w.ownsMap Tryz.prog 9 fnR m n D)(hb:w'.heap[m]?=w.heap[m]?):w'.ownsMap Tryz.prog 9 fnR m n D:=by
 obtain ⟨es,clock,h1,h2⟩:=h
 exact ⟨es,clock,hb.trans h1,h2⟩
theorem OwR.keep2{B:Nat}{w w':World}{v:Value}{rs:List Rec}(h:OwR B w v rs)(hs:w.heap.size<=w'.heap.size)(ho:w'.os=w.os/\w'.tape=w.tape/\w'.output=w.output)(hb:∀j,B<=j->j<w.heap.size->w'.heap[j]?=w.heap[j]?)(g:Nat)(hg:g<B)(hb2:∀j,j<w.heap.size->j≠g->w'.heap[j]?=w.heap[j]?):OwR B w' v rs:=by
 obtain ⟨ps,h1,h2,h3⟩:=h
 have hlt:=h2.lt
 refine ⟨ps,h1,h2.kept (row:=some g) ⟨ho.1,ho.2.1,ho.2.2,hs,fun j hj hne=>hb2 j hj (fun e=>hne (by rw[e]))⟩ ?_,fun p hp=>(h3 p hp).go hs (fun j e1 e2 _=>hb j e2 e1) (fun j _ h=>h)⟩
 cases hv:v.ownBlock with
 |none=>exact .inl rfl
 |some j=>exact .inr (by intro e;injection e with e;have:=(hlt j hv).1;omega)
theorem OwR.own{B:Nat}{w:World}{v:Value}{rs:List Rec}(h:OwR B w v rs):∀j,v.ownBlock=some j->B<=j/\j<w.heap.size:=by
 obtain ⟨ps,h1,h2,h3⟩:=h
 exact h2.lt
structure LpS(w wr:World)(m:Nat)(v:Value)(rs:List Rec)(a:CA)(c:Cy):Prop where
 cy:CyB wr w.heap.size a c
 ft:wr.heap[w.heap.size+1]?=some (.cells #[.int .i64 0,.int .i64 0] 28 (0,0))
 mp:wr.ownsMap Tryz.prog 9 fnR m 2 cmdD
 mne:v.ownBlock≠some m
 mge:w.heap.size+2<=m
 rr:OwR (w.heap.size+2) wr v rs
 cr:∀W',wr.heap.size<=W'.heap.size->(∀j,j<wr.heap.size->some j≠v.ownBlock->(j<w.heap.size∨w.heap.size+2<=j)->W'.heap[j]?=wr.heap[j]?)->CRd W' a c
 bel:Below w.heap.size w wr
 kw:nck c.ow=0
theorem LpS.rd{w wr:World}{m:Nat}{v:Value}{rs:List Rec}{a:CA}{c:Cy}(h:LpS w wr m v rs a c):CRd wr a c:=h.cr wr (Nat.le_refl _) fun _ _ _ _=>rfl
theorem LpS.below{w wr W:World}{m:Nat}{v:Value}{rs:List Rec}{a:CA}{c:Cy}(h:LpS w wr m v rs a c)(hb:Below wr.heap.size wr W):LpS w W m v rs a c:=
 ⟨h.cy.below hb,(hb.block _ (Array.getElem?_eq_some_iff.1 h.ft).1).trans h.ft,ownsMap_blk h.mp (hb.block _ h.mp.lt),h.mne,h.mge,h.rr.stays hb,fun W' h1 h2=>h.cr W' (Nat.le_trans hb.size h1) (fun j e1 e2 e3=>(h2 j (Nat.lt_of_lt_of_le e1 hb.size) e2 e3).trans (hb.block j e1)),h.bel.trans (hb.mono h.bel.size),h.kw⟩
theorem lp_cmd{w wr W2:World}{m B1:Nat}{v:Value}{rs:List Rec}{a:CA}{c:Cy}{a':CA}{c':Cy}(h:LpS w wr m v rs a c)(hb:Below wr.heap.size wr W2)(ho:a'.o=a.o)(hg:(a'.g=a.g/\c'.og=c.og)∨Own1 B1 W2 a'.g c'.og)(hB:wr.heap.size<=B1)(hw:c'.ow=c.ow)(hk:nck c'.og=0):LpS w (((((((((W2.setCell ⟨w.heap.size,0,none⟩ (.slice a'.g.a a'.g.n a'.g.c)).setCell ⟨w.heap.size,1,none⟩ (.slice a'.o.a a'.o.n a'.o.c)).setCell ⟨w.heap.size,2,none⟩ (.int .u16 (c'.cl:Int))).setCell ⟨w.heap.size,3,none⟩ (.int .u32 (c'.df:Int))).setCell ⟨w.heap.size,4,none⟩ (.int .u32 (c'.tt:Int))).setCell ⟨w.heap.size,5,none⟩ (.bool c'.ho)).setCell ⟨w.heap.size,6,none⟩ (.bool c'.hc)).setCell ⟨w.heap.size,7,none⟩ (.bool c'.ht)).setCell ⟨w.heap.size,8,none⟩ (.bool c'.sd)) m v rs a' c':=by
 have h2:=h.below hb
 have hown:=h.rr.own
 have h1:CyB (((((((((W2.setCell ⟨w.heap.size,0,none⟩ (.slice a'.g.a a'.g.n a'.g.c)).setCell ⟨w.heap.size,1,none⟩ (.slice a'.o.a a'.o.n a'.o.c)).setCell ⟨w.heap.size,2,none⟩ (.int .u16 (c'.cl:Int))).setCell ⟨w.heap.size,3,none⟩ (.int .u32 (c'.df:Int))).setCell ⟨w.heap.size,4,none⟩ (.int .u32 (c'.tt:Int))).setCell ⟨w.heap.size,5,none⟩ (.bool c'.ho)).setCell ⟨w.heap.size,6,none⟩ (.bool c'.hc)).setCell ⟨w.heap.size,7,none⟩ (.bool c'.ht)).setCell ⟨w.heap.size,8,none⟩ (.bool c'.sd)) w.heap.size a' c':=h2.cy.all a' c'
 have hh:∀j,j≠w.heap.size->((((((((((W2.setCell ⟨w.heap.size,0,none⟩ (.slice a'.g.a a'.g.n a'.g.c)).setCell ⟨w.heap.size,1,none⟩ (.slice a'.o.a a'.o.n a'.o.c)).setCell ⟨w.heap.size,2,none⟩ (.int .u16 (c'.cl:Int))).setCell ⟨w.heap.size,3,none⟩ (.int .u32 (c'.df:Int))).setCell ⟨w.heap.size,4,none⟩ (.int .u32 (c'.tt:Int))).setCell ⟨w.heap.size,5,none⟩ (.bool c'.ho)).setCell ⟨w.heap.size,6,none⟩ (.bool c'.hc)).setCell ⟨w.heap.size,7,none⟩ (.bool c'.ht)).setCell ⟨w.heap.size,8,none⟩ (.bool c'.sd))).heap[j]?=W2.heap[j]?:=fun j hj=>nine_heap W2 w.heap.size _ _ _ _ _ _ _ _ _ j hj
 have hz:((((((((((W2.setCell ⟨w.heap.size,0,none⟩ (.slice a'.g.a a'.g.n a'.g.c)).setCell ⟨w.heap.size,1,none⟩ (.slice a'.o.a a'.o.n a'.o.c)).setCell ⟨w.heap.size,2,none⟩ (.int .u16 (c'.cl:Int))).setCell ⟨w.heap.size,3,none⟩ (.int .u32 (c'.df:Int))).setCell ⟨w.heap.size,4,none⟩ (.int .u32 (c'.tt:Int))).setCell ⟨w.heap.size,5,none⟩ (.bool c'.ho)).setCell ⟨w.heap.size,6,none⟩ (.bool c'.hc)).setCell ⟨w.heap.size,7,none⟩ (.bool c'.ht)).setCell ⟨w.heap.size,8,none⟩ (.bool c'.sd))).heap.size=W2.heap.size:=nine_size _ _ _ _ _ _ _ _ _ _ _
 have hbn:=below_nine (Below.refl 0 W2) (b:=w.heap.size) (Nat.zero_le _) (.slice a'.g.a a'.g.n a'.g.c) (.slice a'.o.a a'.o.n a'.o.c) (.int .u16 (c'.cl:Int)) (.int .u32 (c'.df:Int)) (.int .u32 (c'.tt:Int)) (.bool c'.ho) (.bool c'.hc) (.bool c'.ht) (.bool c'.sd)
 have h3:=below_nine h2.bel (b:=w.heap.size) (Nat.le_refl _) (.slice a'.g.a a'.g.n a'.g.c) (.slice a'.o.a a'.o.n a'.o.c) (.int .u16 (c'.cl:Int)) (.int .u32 (c'.df:Int)) (.int .u32 (c'.tt:Int)) (.bool c'.ho) (.bool c'.hc) (.bool c'.ht) (.bool c'.sd)
 generalize (((((((((W2.setCell ⟨w.heap.size,0,none⟩ (.slice a'.g.a a'.g.n a'.g.c)).setCell ⟨w.heap.size,1,none⟩ (.slice a'.o.a a'.o.n a'.o.c)).setCell ⟨w.heap.size,2,none⟩ (.int .u16 (c'.cl:Int))).setCell ⟨w.heap.size,3,none⟩ (.int .u32 (c'.df:Int))).setCell ⟨w.heap.size,4,none⟩ (.int .u32 (c'.tt:Int))).setCell ⟨w.heap.size,5,none⟩ (.bool c'.ho)).setCell ⟨w.heap.size,6,none⟩ (.bool c'.hc)).setCell ⟨w.heap.size,7,none⟩ (.bool c'.ht)).setCell ⟨w.heap.size,8,none⟩ (.bool c'.sd))=V at*
 have hmlt:=h2.mp.lt
 have hws:=h2.bel.size
 have hmge:=h.mge
 refine ⟨h1,(hh _ (by omega)).trans h2.ft,ownsMap_blk h2.mp (hh m (by omega)),h.mne,h.mge,h2.rr.keep2 (by omega) ⟨hbn.os,hbn.tape,hbn.output⟩ (fun j e1 e2=>hh j (by omega)) w.heap.size (by omega) (fun j e1 e2=>hh j e2),fun W' e1 e2=>?_,h3,by rw[hw];exact h.kw⟩
 have hW:∀j,j<W2.heap.size->some j≠v.ownBlock->(j<w.heap.size∨w.heap.size+2<=j)->W'.heap[j]?=W2.heap[j]?:=fun j q1 q2 q3=>(e2 j (by omega) q2 q3).trans (hh j (by omega))
 have hold:=h2.cr W' (by omega) hW
 refine ⟨?_,by rw[ho,hw];exact hold.o,hk⟩
 rcases hg with ⟨g1,g2⟩|g1
 ·rw[g1,g2];exact hold.g
 ·have hwr:=h.bel.size
  have hmwr:=h.mp.lt
  have:=(g1.keep (w':=W') (fun j q1 q2 _=>hW j q2 (fun e=>by have:=(hown j e.symm).2;omega) (.inr (by omega)))).rd
  exact ⟨this.rd,this.len,nck_nsz6 hk⟩
theorem lp_put{w wr W1 W2:World}{m:Nat}{v v':Value}{rs:List Rec}{a:CA}{c:Cy}{a':CA}{c':Cy}{rc:Rec}{x:RA}(h:LpS w wr m v rs a c)(hb:Below wr.heap.size wr W1)(hgr:W1.grownBy W2 v.ownBlock)(hr:OwR (w.heap.size+2) W2 v' (rs++[rc]))(hg:a'.g=a.g)(ho:a'.o=x.o)(hx:RfR (w.heap.size+2) W2 v'.ownBlock x rc)(hv:v'.ownBlock=v.ownBlock∨∃H,v'.ownBlock=some H/\W1.heap.size<=H)(hog:c'.og=c.og)(how:c'.ow=rc.ow)(hk:nck rc.ow=0):LpS w (((((((((W2.setCell ⟨w.heap.size,0,none⟩ (.slice a'.g.a a'.g.n a'.g.c)).setCell ⟨w.heap.size,1,none⟩ (.slice a'.o.a a'.o.n a'.o.c)).setCell ⟨w.heap.size,2,none⟩ (.int .u16 (c'.cl:Int))).setCell ⟨w.heap.size,3,none⟩ (.int .u32 (c'.df:Int))).setCell ⟨w.heap.size,4,none⟩ (.int .u32 (c'.tt:Int))).setCell ⟨w.heap.size,5,none⟩ (.bool c'.ho)).setCell ⟨w.heap.size,6,none⟩ (.bool c'.hc)).setCell ⟨w.heap.size,7,none⟩ (.bool c'.ht)).setCell ⟨w.heap.size,8,none⟩ (.bool c'.sd)) m v' (rs++[rc]) a' c':=by
 have h2:=h.below hb
 have hown:=h2.rr.own
 have hc2:CyB W2 w.heap.size a c:=(hgr.block _ h2.cy.lt (fun e=>by have:=(hown _ e.symm).1;omega)).trans h2.cy
 have h1:CyB (((((((((W2.setCell ⟨w.heap.size,0,none⟩ (.slice a'.g.a a'.g.n a'.g.c)).setCell ⟨w.heap.size,1,none⟩ (.slice a'.o.a a'.o.n a'.o.c)).setCell ⟨w.heap.size,2,none⟩ (.int .u16 (c'.cl:Int))).setCell ⟨w.heap.size,3,none⟩ (.int .u32 (c'.df:Int))).setCell ⟨w.heap.size,4,none⟩ (.int .u32 (c'.tt:Int))).setCell ⟨w.heap.size,5,none⟩ (.bool c'.ho)).setCell ⟨w.heap.size,6,none⟩ (.bool c'.hc)).setCell ⟨w.heap.size,7,none⟩ (.bool c'.ht)).setCell ⟨w.heap.size,8,none⟩ (.bool c'.sd)) w.heap.size a' c':=hc2.all a' c'
 have hh:∀j,j≠w.heap.size->((((((((((W2.setCell ⟨w.heap.size,0,none⟩ (.slice a'.g.a a'.g.n a'.g.c)).setCell ⟨w.heap.size,1,none⟩ (.slice a'.o.a a'.o.n a'.o.c)).setCell ⟨w.heap.size,2,none⟩ (.int .u16 (c'.cl:Int))).setCell ⟨w.heap.size,3,none⟩ (.int .u32 (c'.df:Int))).setCell ⟨w.heap.size,4,none⟩ (.int .u32 (c'.tt:Int))).setCell ⟨w.heap.size,5,none⟩ (.bool c'.ho)).setCell ⟨w.heap.size,6,none⟩ (.bool c'.hc)).setCell ⟨w.heap.size,7,none⟩ (.bool c'.ht)).setCell ⟨w.heap.size,8,none⟩ (.bool c'.sd))).heap[j]?=W2.heap[j]?:=fun j hj=>nine_heap W2 w.heap.size _ _ _ _ _ _ _ _ _ j hj
 have hz:((((((((((W2.setCell ⟨w.heap.size,0,none⟩ (.slice a'.g.a a'.g.n a'.g.c)).setCell ⟨w.heap.size,1,none⟩ (.slice a'.o.a a'.o.n a'.o.c)).setCell ⟨w.heap.size,2,none⟩ (.int .u16 (c'.cl:Int))).setCell ⟨w.heap.size,3,none⟩ (.int .u32 (c'.df:Int))).setCell ⟨w.heap.size,4,none⟩ (.int .u32 (c'.tt:Int))).setCell ⟨w.heap.size,5,none⟩ (.bool c'.ho)).setCell ⟨w.heap.size,6,none⟩ (.bool c'.hc)).setCell ⟨w.heap.size,7,none⟩ (.bool c'.ht)).setCell ⟨w.heap.size,8,none⟩ (.bool c'.sd))).heap.size=W2.heap.size:=nine_size _ _ _ _ _ _ _ _ _ _ _
 have hbn:=below_nine (Below.refl 0 W2) (b:=w.heap.size) (Nat.zero_le _) (.slice a'.g.a a'.g.n a'.g.c) (.slice a'.o.a a'.o.n a'.o.c) (.int .u16 (c'.cl:Int)) (.int .u32 (c'.df:Int)) (.int .u32 (c'.tt:Int)) (.bool c'.ho) (.bool c'.hc) (.bool c'.ht) (.bool c'.sd)
 have hbel2:Below w.heap.size w W2:=⟨hgr.os.trans h2.bel.os,hgr.tape.trans h2.bel.tape,hgr.output.trans h2.bel.output,Nat.le_trans h2.bel.size hgr.size,fun j hj=>(hgr.block j (Nat.lt_of_lt_of_le hj h2.bel.size) (fun e=>by have:=(hown _ e.symm).1;omega)).trans (h2.bel.block j hj)⟩
 have h3:=below_nine hbel2 (b:=w.heap.size) (Nat.le_refl _) (.slice a'.g.a a'.g.n a'.g.c) (.slice a'.o.a a'.o.n a'.o.c) (.int .u16 (c'.cl:Int)) (.int .u32 (c'.df:Int)) (.int .u32 (c'.tt:Int)) (.bool c'.ho) (.bool c'.hc) (.bool c'.ht) (.bool c'.sd)
 generalize (((((((((W2.setCell ⟨w.heap.size,0,none⟩ (.slice a'.g.a a'.g.n a'.g.c)).setCell ⟨w.heap.size,1,none⟩ (.slice a'.o.a a'.o.n a'.o.c)).setCell ⟨w.heap.size,2,none⟩ (.int .u16 (c'.cl:Int))).setCell ⟨w.heap.size,3,none⟩ (.int .u32 (c'.df:Int))).setCell ⟨w.heap.size,4,none⟩ (.int .u32 (c'.tt:Int))).setCell ⟨w.heap.size,5,none⟩ (.bool c'.ho)).setCell ⟨w.heap.size,6,none⟩ (.bool c'.hc)).setCell ⟨w.heap.size,7,none⟩ (.bool c'.ht)).setCell ⟨w.heap.size,8,none⟩ (.bool c'.sd))=V at*
 have hmlt:=h2.mp.lt
 have hws:=h2.bel.size
 have hmge:=h.mge
 have hgs:=hgr.size
 have hft:=(Array.getElem?_eq_some_iff.1 h2.ft).1
 refine ⟨h1,(hh _ (by omega)).trans ((hgr.block _ hft (fun e=>by have:=(hown _ e.symm).1;omega)).trans h2.ft),ownsMap_blk h2.mp ((hh m (by omega)).trans (hgr.block m hmlt (fun e=>h.mne e.symm))),?_,h.mge,hr.keep2 (by omega) ⟨hbn.os,hbn.tape,hbn.output⟩ (fun j e1 e2=>hh j (by omega)) w.heap.size (by omega) (fun j e1 e2=>hh j e2),fun W' e1 e2=>?_,h3,by rw[how];exact hk⟩
 ·rcases hv with hv|⟨H,hv,hH⟩
  ·rw[hv];exact h.mne
  ·rw[hv];intro e;injection e with e;omega
 ·have hW:∀j,j<W2.heap.size->some j≠v'.ownBlock->(j<w.heap.size∨w.heap.size+2<=j)->W'.heap[j]?=W2.heap[j]?:=fun j q1 q2 q3=>(e2 j (by omega) q2 q3).trans (hh j (by omega))
  have hold:=h2.cr W' (by omega) (fun j q1 q2 q3=>(hW j (by omega) (by
   rcases hv with hv|⟨H,hv,hH⟩
   ·rw[hv];exact q2
   ·rw[hv];intro e;injection e with e;omega) q3).trans (hgr.block j q1 q2))
  have hnew:=(hx W' (by omega) (fun j q1 q2 q3=>hW j q1 q3 (.inr q2))).1
  refine ⟨by rw[hg,hog];exact hold.g,?_,by rw[hog];exact hold.k⟩
  rw[ho,how]
  exact ⟨hnew.rd,hnew.len,nck_nsz6 hk⟩
end Go.Proofs.YtjkljpdolhglcaaGreatDoor
