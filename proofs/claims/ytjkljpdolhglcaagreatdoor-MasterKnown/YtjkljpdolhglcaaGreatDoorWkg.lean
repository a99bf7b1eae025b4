/- Texts laid together, in parts: Ye Yf Yg Wd Nb Ps Kd Cd Aw Zca Zcb Zcc Zd. -/
import Derived.Test.YtjkljpdolhglcaaGreatDoorWkf
import Derived.WalkKit
import Derived.Laws.AppendOwn
import Derived.Laws.OwnMore
import Derived.Deep.AppendLies
set_option maxRecDepth 100000
set_option maxHeartbeats 8000000
set_option linter.unusedVariables false
set_option linter.unusedSimpArgs false
namespace Go.Proofs.YtjkljpdolhglcaaGreatDoor
open Go.ChangeShapes Go.WideShapes Go.ChangeAt Go.RowKit
def RdG(t:Nat)(w0:World)(wa:Option Addr)(ws:List Wd)(c:Nat)(oa:Option Addr)(on oc:Nat)(og:List ByteArray):Prop:=
 ∀w,RX w0 w wa ws.length c oa on oc nilDA false ⟨[],[],[],[]⟩->Calls Tryz.prog 136 #[.pointer (some ⟨w0.heap.size,0,none⟩),.int .u16 (t:Int)] w fun e w'=>∃v,e=.returned v/\Hid (∃K z,K<=900/\RG w0 w' oa on oc K z (fldF t og ws))
theorem rg_start{w0 w:World}{wa:Option Addr}{ws:List Wd}{c:Nat}{oa:Option Addr}{on oc:Nat}(hw:RdW w0 wa ws)(hc:ws.length<=c)(h63:c<=9223372036854775807)(hb:WB ws)(h:RX w0 w wa ws.length c oa on oc nilDA false ⟨[],[],[],[]⟩)(K:Nat)(z:Bool):RG w0 w oa on oc K z (some (ws,nilD)):=
 ⟨wa,c,nilDA,ws,false,nilD,hw,hc,h63,h,hb,DB.nil K z,.inl ⟨rfl,rfl⟩⟩
theorem fA(t:Nat)(ht:t=1∨t=28)(w0:World)(wa:Option Addr)(ws:List Wd)(c:Nat)(oa:Option Addr)(on oc:Nat)(og:List ByteArray)(hE:LayE w0)(hog:Nm w0 oa on og)(hw:RdW w0 wa ws)(hc:ws.length<=c)(h63:c<=9223372036854775807)(hb:WB ws):RdG t w0 wa ws c oa on oc og:=by
 intro w h
 have K1:=Lib.hid (addr_g w0 w 0 oa on oc true _ hE (rg_start hw hc h63 hb h 0 true))
 clear hE hog hw hc h63 hb h
 rcases ht with rfl|rfl
 all_goals
  go_enter Tryz.func136,Tryz.ntmps136
  go_wp2_with fail
  refine K1.out.mono ?_
  rintro e w1 ⟨v1,rfl,H1⟩
  go_wp2_with fail
  go_end0
  exact ⟨_,rfl,_,_,(by omega),H1.out⟩
theorem fNS(t:Nat)(ht:t=2∨t=5∨t=12)(w0:World)(wa:Option Addr)(ws:List Wd)(c:Nat)(oa:Option Addr)(on oc:Nat)(og:List ByteArray)(hE:LayE w0)(hog:Nm w0 oa on og)(hw:RdW w0 wa ws)(hc:ws.length<=c)(h63:c<=9223372036854775807)(hb:WB ws):RdG t w0 wa ws c oa on oc og:=by
 intro w h
 have K1:=Lib.hid (names_g w0 w 1 0 oa on oc og _ (by omega) hog (rg_start hw hc h63 hb h 0 false))
 clear hE hog hw hc h63 hb h
 rcases ht with rfl|rfl|rfl
 all_goals
  go_enter Tryz.func136,Tryz.ntmps136
  go_wp2_with fail
  refine K1.out.mono ?_
  rintro e w1 ⟨v1,rfl,H1⟩
  go_wp2_with fail
  go_end0
  exact ⟨_,rfl,_,_,(by omega),H1.out⟩
theorem fSOA(t:Nat)(ht:t=6)(w0:World)(wa:Option Addr)(ws:List Wd)(c:Nat)(oa:Option Addr)(on oc:Nat)(og:List ByteArray)(hE:LayE w0)(hog:Nm w0 oa on og)(hw:RdW w0 wa ws)(hc:ws.length<=c)(h63:c<=9223372036854775807)(hb:WB ws):RdG t w0 wa ws c oa on oc og:=by
 intro w h
 have K1:=Lib.hid (names_g w0 w 2 0 oa on oc og _ (by omega) hog (rg_start hw hc h63 hb h 0 false))
 have K2:Hid (∀W o,RG w0 W oa on oc (0+2) false o->Calls Tryz.prog 156 #[.pointer (some ⟨w0.heap.size,0,none⟩),.int .i64 5] W fun e w'=>∃v,e=.returned v/\Hid (RG w0 w' oa on oc (0+2+5) false (rep sNum 5 o))):=fun W o hW=>nums_g w0 W 5 (0+2) oa on oc false o (by omega) hE hW
 clear hE hog hw hc h63 hb h
 subst ht
 go_enter Tryz.func136,Tryz.ntmps136
 go_wp2_with fail
 refine K1.out.mono ?_
 rintro e w1 ⟨v1,rfl,H1⟩
 go_wp2_with fail
 refine (K2.out _ _ H1.out).mono ?_
 rintro e w2 ⟨v2,rfl,H2⟩
 go_wp2_with fail
 go_end0
 exact ⟨_,rfl,_,_,(by omega),H2.out⟩
theorem fMX(t:Nat)(ht:t=15)(w0:World)(wa:Option Addr)(ws:List Wd)(c:Nat)(oa:Option Addr)(on oc:Nat)(og:List ByteArray)(hE:LayE w0)(hog:Nm w0 oa on og)(hw:RdW w0 wa ws)(hc:ws.length<=c)(h63:c<=9223372036854775807)(hb:WB ws):RdG t w0 wa ws c oa on oc og:=by
 intro w h
 have K1:=Lib.hid (nums_g w0 w 1 0 oa on oc false _ (by omega) hE (rg_start hw hc h63 hb h 0 false))
 have K2:Hid (∀W o,RG w0 W oa on oc (0+1) false o->Calls Tryz.prog 155 #[.pointer (some ⟨w0.heap.size,0,none⟩),.int .i64 1] W fun e w'=>∃v,e=.returned v/\Hid (RG w0 w' oa on oc (0+1+1) false (rep (sName og) 1 o))):=fun W o hW=>names_g w0 W 1 (0+1) oa on oc og o (by omega) hog hW
 clear hE hog hw hc h63 hb h
 subst ht
 go_enter Tryz.func136,Tryz.ntmps136
 go_wp2_with fail
 refine K1.out.mono ?_
 rintro e w1 ⟨v1,rfl,H1⟩
 go_wp2_with fail
 refine (K2.out _ _ H1.out).mono ?_
 rintro e w2 ⟨v2,rfl,H2⟩
 go_wp2_with fail
 go_end0
 exact ⟨_,rfl,_,_,(by omega),H2.out⟩
theorem fSRV(t:Nat)(ht:t=33)(w0:World)(wa:Option Addr)(ws:List Wd)(c:Nat)(oa:Option Addr)(on oc:Nat)(og:List ByteArray)(hE:LayE w0)(hog:Nm w0 oa on og)(hw:RdW w0 wa ws)(hc:ws.length<=c)(h63:c<=9223372036854775807)(hb:WB ws):RdG t w0 wa ws c oa on oc og:=by
 intro w h
 have K1:=Lib.hid (nums_g w0 w 3 0 oa on oc false _ (by omega) hE (rg_start hw hc h63 hb h 0 false))
 have K2:Hid (∀W o,RG w0 W oa on oc (0+3) false o->Calls Tryz.prog 155 #[.pointer (some ⟨w0.heap.size,0,none⟩),.int .i64 1] W fun e w'=>∃v,e=.returned v/\Hid (RG w0 w' oa on oc (0+3+1) false (rep (sName og) 1 o))):=fun W o hW=>names_g w0 W 1 (0+3) oa on oc og o (by omega) hog hW
 clear hE hog hw hc h63 hb h
 subst ht
 go_enter Tryz.func136,Tryz.ntmps136
 go_wp2_with fail
 refine K1.out.mono ?_
 rintro e w1 ⟨v1,rfl,H1⟩
 go_wp2_with fail
 refine (K2.out _ _ H1.out).mono ?_
 rintro e w2 ⟨v2,rfl,H2⟩
 go_wp2_with fail
 go_end0
 exact ⟨_,rfl,_,_,(by omega),H2.out⟩
theorem fCAA(t:Nat)(ht:t=257)(w0:World)(wa:Option Addr)(ws:List Wd)(c:Nat)(oa:Option Addr)(on oc:Nat)(og:List ByteArray)(hE:LayE w0)(hog:Nm w0 oa on og)(hw:RdW w0 wa ws)(hc:ws.length<=c)(h63:c<=9223372036854775807)(hb:WB ws):RdG t w0 wa ws c oa on oc og:=by
 intro w h
 have K1:=Lib.hid (nums_g w0 w 1 0 oa on oc true _ (by omega) hE (rg_start hw hc h63 hb h 0 true))
 have K2:Hid (∀W o,RG w0 W oa on oc (0+1) true o->Calls Tryz.prog 158 #[.pointer (some ⟨w0.heap.size,0,none⟩)] W fun e w'=>∃v,e=.returned v/\Hid (RG w0 w' oa on oc (0+1+1) true (rep sTag 1 o))):=fun W o hW=>tag_g w0 W (0+1) oa on oc o (by omega) hW
 have K3:Hid (∀W o,RG w0 W oa on oc (0+1+1) true o->Calls Tryz.prog 157 #[.pointer (some ⟨w0.heap.size,0,none⟩),.int .i64 1] W fun e w'=>∃v,e=.returned v/\Hid (RG w0 w' oa on oc (0+1+1+1) true (rep sText 1 o))):=fun W o hW=>texts_g w0 W 1 (0+1+1) oa on oc o (by omega) hE hW
 clear hE hog hw hc h63 hb h
 subst ht
 go_enter Tryz.func136,Tryz.ntmps136
 go_wp2_with fail
 refine K1.out.mono ?_
 rintro e w1 ⟨v1,rfl,H1⟩
 go_wp2_with fail
 refine (K2.out _ _ H1.out).mono ?_
 rintro e w2 ⟨v2,rfl,H2⟩
 go_wp2_with fail
 refine (K3.out _ _ H2.out).mono ?_
 rintro e w3 ⟨v3,rfl,H3⟩
 go_wp2_with fail
 go_end0
 exact ⟨_,rfl,_,_,(by omega),H3.out⟩
theorem fTXT(w0:World)(wa:Option Addr)(ws:List Wd)(c:Nat)(oa:Option Addr)(on oc:Nat)(og:List ByteArray)(hE:LayE w0)(hw:RdW w0 wa ws)(hc:ws.length<=c)(h63:c<=9223372036854775807)(hb:WB ws):RdG 16 w0 wa ws c oa on oc og:=by
 intro w h
 have HF:Hid (fldF 16 og ws=rep sText (max 1 ws.length) (some (ws,nilD))):=rfl
 rw[HF.out]
 have K1:=Lib.hid (texts_g w0 w (max 1 ws.length) 0 oa on oc _ (by have:=hb.1;omega) hE (rg_start hw hc h63 hb h 0 true))
 have d0:=h.blk.cells.1
 have hN:=hb.1
 obtain ⟨M,hM⟩:∃M,max 1 ws.length=M:=⟨_,rfl⟩
 rw[hM] at K1 ⊢
 obtain ⟨L,hL⟩:∃L,ws.length=L:=⟨_,rfl⟩
 rw[hL] at hM hN d0
 have hmax:max (1:Int) (L:Int)=(M:Int):=by omega
 have HM:Hid (M<=900):=by show _<=_;omega
 clear hE hw hc h63 hb h HF hL hM
 go_enter Tryz.func136,Tryz.ntmps136
 go_wp2_with fail
 refine K1.out.mono ?_
 rintro e w1 ⟨v1,rfl,H1⟩
 go_wp2_with fail
 go_end0
 exact ⟨_,rfl,_,_,(by have:=HM.out;omega),H1.out⟩
def knT(t:Nat):Prop:=t=1∨t=28∨t=2∨t=5∨t=12∨t=6∨t=15∨t=33∨t=16∨t=257
theorem fOther(t:Nat)(ht:¬ knT t)(w0:World)(wa:Option Addr)(ws:List Wd)(c:Nat)(oa:Option Addr)(on oc:Nat)(og:List ByteArray)(hw:RdW w0 wa ws)(hc:ws.length<=c)(h63:c<=9223372036854775807)(hb:WB ws):RdG t w0 wa ws c oa on oc og:=by
 intro w h
 unfold knT at ht
 have HF:Hid (fldF t og ws=none):=by
  show _=_
  unfold fldF
  rw[if_neg (by omega),if_neg (by omega),if_neg (by omega),if_neg (by omega),if_neg (by omega),if_neg (by omega),if_neg (by omega)]
 have HR:Hid (∀W,RX w0 W wa ws.length c oa on oc nilDA true ⟨[],[],[],[]⟩->RG w0 W oa on oc 0 true none):=fun W hW=>⟨wa,c,nilDA,ws,true,nilD,hw,hc,h63,hW,hb,DB.nil 0 true,.inr ⟨rfl,rfl⟩⟩
 rw[HF.out]
 have q1:((t:Int) == 1)=false:=by rw[beq_eq_false_iff_ne];omega
 have q28:((t:Int) == 28)=false:=by rw[beq_eq_false_iff_ne];omega
 have q2:((t:Int) == 2)=false:=by rw[beq_eq_false_iff_ne];omega
 have q5:((t:Int) == 5)=false:=by rw[beq_eq_false_iff_ne];omega
 have q12:((t:Int) == 12)=false:=by rw[beq_eq_false_iff_ne];omega
 have q6:((t:Int) == 6)=false:=by rw[beq_eq_false_iff_ne];omega
 have q15:((t:Int) == 15)=false:=by rw[beq_eq_false_iff_ne];omega
 have q33:((t:Int) == 33)=false:=by rw[beq_eq_false_iff_ne];omega
 have q16:((t:Int) == 16)=false:=by rw[beq_eq_false_iff_ne];omega
 have q257:((t:Int) == 257)=false:=by rw[beq_eq_false_iff_ne];omega
 have HX:=Lib.hid (h.bad true)
 have f6:=h.blk.fz 6
 have d6:=h.blk.cells.2.2.2.2.2.2
 clear h hw hc h63 hb ht HF
 go_enter Tryz.func136,Tryz.ntmps136
 go_wp2_with fail
 go_end0
 exact ⟨_,rfl,0,true,(by omega),HR.out _ HX.out⟩
theorem fields_g(t:Nat)(w0:World)(wa:Option Addr)(ws:List Wd)(c:Nat)(oa:Option Addr)(on oc:Nat)(og:List ByteArray)(hE:LayE w0)(hog:Nm w0 oa on og)(hw:RdW w0 wa ws)(hc:ws.length<=c)(h63:c<=9223372036854775807)(hb:WB ws):RdG t w0 wa ws c oa on oc og:=by
 by_cases h:knT t
 ·rcases h with h|h|h|h|h|h|h|h|h|h
  ·exact fA t (.inl h) w0 wa ws c oa on oc og hE hog hw hc h63 hb
  ·exact fA t (.inr h) w0 wa ws c oa on oc og hE hog hw hc h63 hb
  ·exact fNS t (.inl h) w0 wa ws c oa on oc og hE hog hw hc h63 hb
  ·exact fNS t (.inr (.inl h)) w0 wa ws c oa on oc og hE hog hw hc h63 hb
  ·exact fNS t (.inr (.inr h)) w0 wa ws c oa on oc og hE hog hw hc h63 hb
  ·exact fSOA t h w0 wa ws c oa on oc og hE hog hw hc h63 hb
  ·exact fMX t h w0 wa ws c oa on oc og hE hog hw hc h63 hb
  ·exact fSRV t h w0 wa ws c oa on oc og hE hog hw hc h63 hb
  ·subst h;exact fTXT w0 wa ws c oa on oc og hE hw hc h63 hb
  ·exact fCAA t h w0 wa ws c oa on oc og hE hog hw hc h63 hb
 ·exact fOther t h w0 wa ws c oa on oc og hw hc h63 hb
theorem wrd_y{t:Nat}{og:List ByteArray}{ws wsb:List Wd}{B:Nat}{W:World}{x:DA}{d:Dat}(hw:wrdF t og ws=(fldF t og ws).bind fun p=>if p.1=[] then some p.2 else none)(h:RGo false wsb d (fldF t og ws))(hl:wsb.length=0)(ho:DOwn B W x d):∃d,wrdF t og ws=some d/\DOwn B W x d:=by
 rcases h with ⟨_,h⟩|⟨h,_⟩
 ·have:wsb=[]:=List.length_eq_zero_iff.1 hl
  subst this
  exact ⟨d,by rw[hw,h];rfl,ho⟩
 ·cases h
theorem wrd_n1{t:Nat}{og:List ByteArray}{ws wsb:List Wd}{d:Dat}(hw:wrdF t og ws=(fldF t og ws).bind fun p=>if p.1=[] then some p.2 else none)(h:RGo false wsb d (fldF t og ws))(hl:¬ wsb.length=0):wrdF t og ws=none:=by
 rcases h with ⟨_,h⟩|⟨h,_⟩
 ·rw[hw,h]
  simp only[Option.bind_some]
  rw[if_neg (fun e=>hl (by rw[e];rfl))]
 ·cases h
theorem wrd_n2{t:Nat}{og:List ByteArray}{ws wsb:List Wd}{d:Dat}(hw:wrdF t og ws=(fldF t og ws).bind fun p=>if p.1=[] then some p.2 else none)(h:RGo true wsb d (fldF t og ws)):wrdF t og ws=none:=by
 rcases h with ⟨h,_⟩|⟨_,h⟩
 ·cases h
 ·rw[hw,h];rfl
theorem read_g1(t:Nat)(a:Option Addr)(ws:List Wd)(c:Nat)(oa:Option Addr)(on oc:Nat)(og:List ByteArray)(w:World)(hne:ws.head?≠some hash6)(hw:RdW w a ws)(h:∀w0,Below w.heap.size w w0->RdG t w0 a ws c oa on oc og) :
  Calls Tryz.prog 111 #[.int .u16 (t:Int),.slice a ws.length c,.slice oa on oc] w (HsP (wrdF t og ws) w):=by
 have HZ:Hid (Below w.heap.size w (w.alloc (.cells #[.slice none 0 0,.slice none 0 0,.slice none 0 0,.slice none 0 0] 48))/\DBlk (w.alloc (.cells #[.slice none 0 0,.slice none 0 0,.slice none 0 0,.slice none 0 0] 48)) w.heap.size nilDA):=⟨new_below _ _,heap_alloc_new _ _⟩
 have hsz0:(w.alloc (.cells #[.slice none 0 0,.slice none 0 0,.slice none 0 0,.slice none 0 0] 48)).heap.size=w.heap.size+1:=by simp
 have K:=Lib.hid (h _ HZ.out.1 _ (start_rx (w.alloc (.cells #[.slice none 0 0,.slice none 0 0,.slice none 0 0,.slice none 0 0] 48)) a ws.length c oa on oc))
 rw[hsz0] at K
 have HW:Hid (wrdF t og ws=(fldF t og ws).bind fun p=>if p.1=[] then some p.2 else none):=by show _=_;unfold wrdF;rw[if_neg hne]
 clear h
 have hcase:ws=[]∨∃s q r b o,ws=(s,q)::r/\a=some ⟨b,o,none⟩/\b<w.heap.size/\w.cell? ⟨b,o,none⟩=some (.string s)/\w.cell? ⟨b,o+1,none⟩=some (.bool q)/\((s.toList=[92,35]/\q=true)∨(s.toList == [92,35])=false):=by
  cases ws with
  |nil=>exact .inl rfl
  |cons y r=>
   obtain ⟨s,q⟩:=y
   obtain ⟨b,o,e,hb,c1,c2,hrr⟩:=hw.head
   refine .inr ⟨s,q,r,b,o,rfl,e,hb,c1,c2,?_⟩
   by_cases hq:s.toList=[92,35]
   ·refine .inl ⟨hq,?_⟩
    cases q with
    |true=>rfl
    |false=>
     exfalso
     apply hne
     have:s=⟨#[92,35]⟩:=by
      have h2:s.data.toList=[92,35]:=by rw[<- Lib.toList_data];exact hq
      cases s with|mk da=>simp at h2;rw[show da=#[92,35] from by rw[<- Array.toArray_toList (xs:=da),h2]]
     rw[this];rfl
   ·right;simpa using hq
 clear hne hw
 obtain ⟨ws9,hws9⟩:∃ws9,ws9=ws:=⟨_,rfl⟩
 rw[<- hws9] at K HW ⊢
 generalize hlen:ws9.length=len at K ⊢
 rcases hcase with rfl|⟨s,q,r,b,o,rfl,rfl,hbs,c1,c2,hs|hs⟩
 ·have hl:len=0:=by rw[<- hlen,hws9];rfl
  subst hl
  clear hlen hws9
  go_enter Tryz.func111,Tryz.ntmps111
  go_wp2_with fail
  refine K.out.mono ?_
  rintro e w1 ⟨v,rfl,H2⟩
  obtain ⟨K7,z7,hk9,wa,c',x,wsb,bd,d,h1,h2,h3,h4,h5,h6,h7⟩:=H2.out
  obtain ⟨⟨d0,d2,d3,d4,d5,d6⟩,k1,k2,k3⟩:=rx_facts h4
  have HK:Hid (DBlk w1 w.heap.size nilDA/\Below w.heap.size w w1/\DOwn (w.heap.size+2) w1 x d):=⟨k1,k2,k3⟩
  have HO:Hid (RGo bd wsb d (fldF t og ws9)):=h7
  have er0:=k1.box.1
  have er1:=k1.box.2.1
  have er2:=k1.box.2.2.1
  have er3:=k1.box.2.2.2.1
  have ez0:=k1.fz 0
  have ez1:=k1.fz 1
  have ez2:=k1.fz 2
  have ez3:=k1.fz 3
  simp only at er0 er1 er2 er3
  have hne1:¬ w.heap.size=w.heap.size+1:=by omega
  clear k1 k2 k3 h1 h2 h3 h4 h5 h6 h7 H2 K HZ hsz0 hk9
  rcases bd with _|_
  ·obtain ⟨L,hL⟩:∃L,wsb.length=L:=⟨_,rfl⟩
   have HL:Hid (wsb.length=L):=hL
   rw[hL] at d0
   clear hL
   by_cases hL0:L=0
   ·subst hL0
    go_wp2_with fail
    go_region_held3 (fun W=>W.cell? ⟨w.heap.size+1,0,none⟩=some (.slice wa 0 c')/\W.cell? ⟨w.heap.size+1,2,none⟩=some (.slice x.p1.a x.p1.n x.p1.c)/\W.cell? ⟨w.heap.size+1,3,none⟩=some (.slice x.p2.a x.p2.n x.p2.c)/\W.cell? ⟨w.heap.size+1,4,none⟩=some (.slice x.p3.a x.p3.n x.p3.c)/\W.cell? ⟨w.heap.size+1,5,none⟩=some (.slice x.p4.a x.p4.n x.p4.c)/\W.cell? ⟨w.heap.size+1,6,none⟩=some (.bool false)) (exact ⟨by go_keep,by go_keep,by go_keep,by go_keep,by go_keep,by go_keep⟩) (fail)
    all_goals
     go_wp2_with fail
     have HX:Hid (DBlk (((((w1.setCell ⟨w.heap.size,0,none⟩ (.slice x.p1.a x.p1.n x.p1.c)).setCell ⟨w.heap.size,1,none⟩ (.slice x.p2.a x.p2.n x.p2.c)).setCell ⟨w.heap.size,2,none⟩ (.slice x.p3.a x.p3.n x.p3.c)).setCell ⟨w.heap.size,3,none⟩ (.slice x.p4.a x.p4.n x.p4.c)).drew) w.heap.size x/\DOwn w.heap.size (((((w1.setCell ⟨w.heap.size,0,none⟩ (.slice x.p1.a x.p1.n x.p1.c)).setCell ⟨w.heap.size,1,none⟩ (.slice x.p2.a x.p2.n x.p2.c)).setCell ⟨w.heap.size,2,none⟩ (.slice x.p3.a x.p3.n x.p3.c)).setCell ⟨w.heap.size,3,none⟩ (.slice x.p4.a x.p4.n x.p4.c)).drew) x d/\Below w.heap.size w (((((w1.setCell ⟨w.heap.size,0,none⟩ (.slice x.p1.a x.p1.n x.p1.c)).setCell ⟨w.heap.size,1,none⟩ (.slice x.p2.a x.p2.n x.p2.c)).setCell ⟨w.heap.size,2,none⟩ (.slice x.p3.a x.p3.n x.p3.c)).setCell ⟨w.heap.size,3,none⟩ (.slice x.p4.a x.p4.n x.p4.c)).drew)):=⟨HK.out.1.four x,(HK.out.2.2.ret4 (by omega) (by omega)).stays (Below.refl _ _).drew,(ret4 HK.out.1 HK.out.2.1 (Nat.le_refl _) x).2.drew⟩
     generalize (((((w1.setCell ⟨w.heap.size,0,none⟩ (.slice x.p1.a x.p1.n x.p1.c)).setCell ⟨w.heap.size,1,none⟩ (.slice x.p2.a x.p2.n x.p2.c)).setCell ⟨w.heap.size,2,none⟩ (.slice x.p3.a x.p3.n x.p3.c)).setCell ⟨w.heap.size,3,none⟩ (.slice x.p4.a x.p4.n x.p4.c)).drew)=W9 at*
     have z0:=HX.out.1.box.1
     have z1:=HX.out.1.box.2.1
     have z2:=HX.out.1.box.2.2.1
     have z3:=HX.out.1.box.2.2.2.1
     exact bodyPost_ret (v:=.tuple #[.agg #[.slice x.p1.a x.p1.n x.p1.c,.slice x.p2.a x.p2.n x.p2.c,.slice x.p3.a x.p3.n x.p3.c,.slice x.p4.a x.p4.n x.p4.c],.bool true]) (by simp[results,Tryz.results111,go_sem,z0,z1,z2,z3]) rfl ⟨x,true,rfl,⟨HX.out.2.2,fun _=>wrd_y HW.out HO.out HL.out HX.out.2.1,fun h=>by (cases h)⟩⟩
   ·have hL1:((L:Int) == 0)=false:=by rw[beq_eq_false_iff_ne];omega
    go_wp2_with fail
    go_region_held3 (fun W=>W.cell? ⟨w.heap.size+1,0,none⟩=some (.slice wa L c')/\W.cell? ⟨w.heap.size+1,2,none⟩=some (.slice x.p1.a x.p1.n x.p1.c)/\W.cell? ⟨w.heap.size+1,3,none⟩=some (.slice x.p2.a x.p2.n x.p2.c)/\W.cell? ⟨w.heap.size+1,4,none⟩=some (.slice x.p3.a x.p3.n x.p3.c)/\W.cell? ⟨w.heap.size+1,5,none⟩=some (.slice x.p4.a x.p4.n x.p4.c)/\W.cell? ⟨w.heap.size+1,6,none⟩=some (.bool false)) (exact ⟨by go_keep,by go_keep,by go_keep,by go_keep,by go_keep,by go_keep⟩) (fail)
    all_goals
     go_wp2_with fail
     have HX:Hid (DBlk (((((w1.setCell ⟨w.heap.size,0,none⟩ (.slice x.p1.a x.p1.n x.p1.c)).setCell ⟨w.heap.size,1,none⟩ (.slice x.p2.a x.p2.n x.p2.c)).setCell ⟨w.heap.size,2,none⟩ (.slice x.p3.a x.p3.n x.p3.c)).setCell ⟨w.heap.size,3,none⟩ (.slice x.p4.a x.p4.n x.p4.c)).drew) w.heap.size x/\DOwn w.heap.size (((((w1.setCell ⟨w.heap.size,0,none⟩ (.slice x.p1.a x.p1.n x.p1.c)).setCell ⟨w.heap.size,1,none⟩ (.slice x.p2.a x.p2.n x.p2.c)).setCell ⟨w.heap.size,2,none⟩ (.slice x.p3.a x.p3.n x.p3.c)).setCell ⟨w.heap.size,3,none⟩ (.slice x.p4.a x.p4.n x.p4.c)).drew) x d/\Below w.heap.size w (((((w1.setCell ⟨w.heap.size,0,none⟩ (.slice x.p1.a x.p1.n x.p1.c)).setCell ⟨w.heap.size,1,none⟩ (.slice x.p2.a x.p2.n x.p2.c)).setCell ⟨w.heap.size,2,none⟩ (.slice x.p3.a x.p3.n x.p3.c)).setCell ⟨w.heap.size,3,none⟩ (.slice x.p4.a x.p4.n x.p4.c)).drew)):=⟨HK.out.1.four x,(HK.out.2.2.ret4 (by omega) (by omega)).stays (Below.refl _ _).drew,(ret4 HK.out.1 HK.out.2.1 (Nat.le_refl _) x).2.drew⟩
     generalize (((((w1.setCell ⟨w.heap.size,0,none⟩ (.slice x.p1.a x.p1.n x.p1.c)).setCell ⟨w.heap.size,1,none⟩ (.slice x.p2.a x.p2.n x.p2.c)).setCell ⟨w.heap.size,2,none⟩ (.slice x.p3.a x.p3.n x.p3.c)).setCell ⟨w.heap.size,3,none⟩ (.slice x.p4.a x.p4.n x.p4.c)).drew)=W9 at*
     have z0:=HX.out.1.box.1
     have z1:=HX.out.1.box.2.1
     have z2:=HX.out.1.box.2.2.1
     have z3:=HX.out.1.box.2.2.2.1
     exact bodyPost_ret (v:=.tuple #[.agg #[.slice x.p1.a x.p1.n x.p1.c,.slice x.p2.a x.p2.n x.p2.c,.slice x.p3.a x.p3.n x.p3.c,.slice x.p4.a x.p4.n x.p4.c],.bool false]) (by simp[results,Tryz.results111,go_sem,z0,z1,z2,z3]) rfl ⟨x,false,rfl,⟨HX.out.2.2,fun h=>by (cases h),fun _=>wrd_n1 HW.out HO.out (by rw[HL.out];exact hL0)⟩⟩
  ·go_wp2_with fail
   first|(go_region_law (fail))|fail
   all_goals
    go_wp2_with fail
    have HX:Hid (DBlk (((((w1.setCell ⟨w.heap.size,0,none⟩ (.slice x.p1.a x.p1.n x.p1.c)).setCell ⟨w.heap.size,1,none⟩ (.slice x.p2.a x.p2.n x.p2.c)).setCell ⟨w.heap.size,2,none⟩ (.slice x.p3.a x.p3.n x.p3.c)).setCell ⟨w.heap.size,3,none⟩ (.slice x.p4.a x.p4.n x.p4.c)).drew) w.heap.size x/\DOwn w.heap.size (((((w1.setCell ⟨w.heap.size,0,none⟩ (.slice x.p1.a x.p1.n x.p1.c)).setCell ⟨w.heap.size,1,none⟩ (.slice x.p2.a x.p2.n x.p2.c)).setCell ⟨w.heap.size,2,none⟩ (.slice x.p3.a x.p3.n x.p3.c)).setCell ⟨w.heap.size,3,none⟩ (.slice x.p4.a x.p4.n x.p4.c)).drew) x d/\Below w.heap.size w (((((w1.setCell ⟨w.heap.size,0,none⟩ (.slice x.p1.a x.p1.n x.p1.c)).setCell ⟨w.heap.size,1,none⟩ (.slice x.p2.a x.p2.n x.p2.c)).setCell ⟨w.heap.size,2,none⟩ (.slice x.p3.a x.p3.n x.p3.c)).setCell ⟨w.heap.size,3,none⟩ (.slice x.p4.a x.p4.n x.p4.c)).drew)):=⟨HK.out.1.four x,(HK.out.2.2.ret4 (by omega) (by omega)).stays (Below.refl _ _).drew,(ret4 HK.out.1 HK.out.2.1 (Nat.le_refl _) x).2.drew⟩
    generalize (((((w1.setCell ⟨w.heap.size,0,none⟩ (.slice x.p1.a x.p1.n x.p1.c)).setCell ⟨w.heap.size,1,none⟩ (.slice x.p2.a x.p2.n x.p2.c)).setCell ⟨w.heap.size,2,none⟩ (.slice x.p3.a x.p3.n x.p3.c)).setCell ⟨w.heap.size,3,none⟩ (.slice x.p4.a x.p4.n x.p4.c)).drew)=W9 at*
    have z0:=HX.out.1.box.1
    have z1:=HX.out.1.box.2.1
    have z2:=HX.out.1.box.2.2.1
    have z3:=HX.out.1.box.2.2.2.1
    exact bodyPost_ret (v:=.tuple #[.agg #[.slice x.p1.a x.p1.n x.p1.c,.slice x.p2.a x.p2.n x.p2.c,.slice x.p3.a x.p3.n x.p3.c,.slice x.p4.a x.p4.n x.p4.c],.bool false]) (by simp[results,Tryz.results111,go_sem,z0,z1,z2,z3]) rfl ⟨x,false,rfl,⟨HX.out.2.2,fun h=>by (cases h),fun _=>wrd_n2 HW.out HO.out⟩⟩
 ·obtain ⟨hs,rfl⟩:=hs
  have hl0:(0:Int)<(len:Int):=by have:len=r.length+1:=(by rw[<- hlen,hws9];rfl);omega
  clear hlen hws9
  go_enter Tryz.func111,Tryz.ntmps111
  go_wp2_with fail
  refine K.out.mono ?_
  rintro e w1 ⟨v,rfl,H2⟩
  obtain ⟨K7,z7,hk9,wa,c',x,wsb,bd,d,h1,h2,h3,h4,h5,h6,h7⟩:=H2.out
  obtain ⟨⟨d0,d2,d3,d4,d5,d6⟩,k1,k2,k3⟩:=rx_facts h4
  have HK:Hid (DBlk w1 w.heap.size nilDA/\Below w.heap.size w w1/\DOwn (w.heap.size+2) w1 x d):=⟨k1,k2,k3⟩
  have HO:Hid (RGo bd wsb d (fldF t og ws9)):=h7
  have er0:=k1.box.1
  have er1:=k1.box.2.1
  have er2:=k1.box.2.2.1
  have er3:=k1.box.2.2.2.1
  have ez0:=k1.fz 0
  have ez1:=k1.fz 1
  have ez2:=k1.fz 2
  have ez3:=k1.fz 3
  simp only at er0 er1 er2 er3
  have hne1:¬ w.heap.size=w.heap.size+1:=by omega
  clear k1 k2 k3 h1 h2 h3 h4 h5 h6 h7 H2 K HZ hsz0 hk9
  rcases bd with _|_
  ·obtain ⟨L,hL⟩:∃L,wsb.length=L:=⟨_,rfl⟩
   have HL:Hid (wsb.length=L):=hL
   rw[hL] at d0
   clear hL
   by_cases hL0:L=0
   ·subst hL0
    go_wp2_with fail
    go_region_held3 (fun W=>W.cell? ⟨w.heap.size+1,0,none⟩=some (.slice wa 0 c')/\W.cell? ⟨w.heap.size+1,2,none⟩=some (.slice x.p1.a x.p1.n x.p1.c)/\W.cell? ⟨w.heap.size+1,3,none⟩=some (.slice x.p2.a x.p2.n x.p2.c)/\W.cell? ⟨w.heap.size+1,4,none⟩=some (.slice x.p3.a x.p3.n x.p3.c)/\W.cell? ⟨w.heap.size+1,5,none⟩=some (.slice x.p4.a x.p4.n x.p4.c)/\W.cell? ⟨w.heap.size+1,6,none⟩=some (.bool false)) (exact ⟨by go_keep,by go_keep,by go_keep,by go_keep,by go_keep,by go_keep⟩) (fail)
    all_goals
     go_wp2_with fail
     have HX:Hid (DBlk (((((w1.setCell ⟨w.heap.size,0,none⟩ (.slice x.p1.a x.p1.n x.p1.c)).setCell ⟨w.heap.size,1,none⟩ (.slice x.p2.a x.p2.n x.p2.c)).setCell ⟨w.heap.size,2,none⟩ (.slice x.p3.a x.p3.n x.p3.c)).setCell ⟨w.heap.size,3,none⟩ (.slice x.p4.a x.p4.n x.p4.c)).drew) w.heap.size x/\DOwn w.heap.size (((((w1.setCell ⟨w.heap.size,0,none⟩ (.slice x.p1.a x.p1.n x.p1.c)).setCell ⟨w.heap.size,1,none⟩ (.slice x.p2.a x.p2.n x.p2.c)).setCell ⟨w.heap.size,2,none⟩ (.slice x.p3.a x.p3.n x.p3.c)).setCell ⟨w.heap.size,3,none⟩ (.slice x.p4.a x.p4.n x.p4.c)).drew) x d/\Below w.heap.size w (((((w1.setCell ⟨w.heap.size,0,none⟩ (.slice x.p1.a x.p1.n x.p1.c)).setCell ⟨w.heap.size,1,none⟩ (.slice x.p2.a x.p2.n x.p2.c)).setCell ⟨w.heap.size,2,none⟩ (.slice x.p3.a x.p3.n x.p3.c)).setCell ⟨w.heap.size,3,none⟩ (.slice x.p4.a x.p4.n x.p4.c)).drew)):=⟨HK.out.1.four x,(HK.out.2.2.ret4 (by omega) (by omega)).stays (Below.refl _ _).drew,(ret4 HK.out.1 HK.out.2.1 (Nat.le_refl _) x).2.drew⟩
     generalize (((((w1.setCell ⟨w.heap.size,0,none⟩ (.slice x.p1.a x.p1.n x.p1.c)).setCell ⟨w.heap.size,1,none⟩ (.slice x.p2.a x.p2.n x.p2.c)).setCell ⟨w.heap.size,2,none⟩ (.slice x.p3.a x.p3.n x.p3.c)).setCell ⟨w.heap.size,3,none⟩ (.slice x.p4.a x.p4.n x.p4.c)).drew)=W9 at*
     have z0:=HX.out.1.box.1
     have z1:=HX.out.1.box.2.1
     have z2:=HX.out.1.box.2.2.1
     have z3:=HX.out.1.box.2.2.2.1
     exact bodyPost_ret (v:=.tuple #[.agg #[.slice x.p1.a x.p1.n x.p1.c,.slice x.p2.a x.p2.n x.p2.c,.slice x.p3.a x.p3.n x.p3.c,.slice x.p4.a x.p4.n x.p4.c],.bool true]) (by simp[results,Tryz.results111,go_sem,z0,z1,z2,z3]) rfl ⟨x,true,rfl,⟨HX.out.2.2,fun _=>wrd_y HW.out HO.out HL.out HX.out.2.1,fun h=>by (cases h)⟩⟩
   ·have hL1:((L:Int) == 0)=false:=by rw[beq_eq_false_iff_ne];omega
    go_wp2_with fail
    go_region_held3 (fun W=>W.cell? ⟨w.heap.size+1,0,none⟩=some (.slice wa L c')/\W.cell? ⟨w.heap.size+1,2,none⟩=some (.slice x.p1.a x.p1.n x.p1.c)/\W.cell? ⟨w.heap.size+1,3,none⟩=some (.slice x.p2.a x.p2.n x.p2.c)/\W.cell? ⟨w.heap.size+1,4,none⟩=some (.slice x.p3.a x.p3.n x.p3.c)/\W.cell? ⟨w.heap.size+1,5,none⟩=some (.slice x.p4.a x.p4.n x.p4.c)/\W.cell? ⟨w.heap.size+1,6,none⟩=some (.bool false)) (exact ⟨by go_keep,by go_keep,by go_keep,by go_keep,by go_keep,by go_keep⟩) (fail)
    all_goals
     go_wp2_with fail
     have HX:Hid (DBlk (((((w1.setCell ⟨w.heap.size,0,none⟩ (.slice x.p1.a x.p1.n x.p1.c)).setCell ⟨w.heap.size,1,none⟩ (.slice x.p2.a x.p2.n x.p2.c)).setCell ⟨w.heap.size,2,none⟩ (.slice x.p3.a x.p3.n x.p3.c)).setCell ⟨w.heap.size,3,none⟩ (.slice x.p4.a x.p4.n x.p4.c)).drew) w.heap.size x/\DOwn w.heap.size (((((w1.setCell ⟨w.heap.size,0,none⟩ (.slice x.p1.a x.p1.n x.p1.c)).setCell ⟨w.heap.size,1,none⟩ (.slice x.p2.a x.p2.n x.p2.c)).setCell ⟨w.heap.size,2,none⟩ (.slice x.p3.a x.p3.n x.p3.c)).setCell ⟨w.heap.size,3,none⟩ (.slice x.p4.a x.p4.n x.p4.c)).drew) x d/\Below w.heap.size w (((((w1.setCell ⟨w.heap.size,0,none⟩ (.slice x.p1.a x.p1.n x.p1.c)).setCell ⟨w.heap.size,1,none⟩ (.slice x.p2.a x.p2.n x.p2.c)).setCell ⟨w.heap.size,2,none⟩ (.slice x.p3.a x.p3.n x.p3.c)).setCell ⟨w.heap.size,3,none⟩ (.slice x.p4.a x.p4.n x.p4.c)).drew)):=⟨HK.out.1.four x,(HK.out.2.2.ret4 (by omega) (by omega)).stays (Below.refl _ _).drew,(ret4 HK.out.1 HK.out.2.1 (Nat.le_refl _) x).2.drew⟩
     generalize (((((w1.setCell ⟨w.heap.size,0,none⟩ (.slice x.p1.a x.p1.n x.p1.c)).setCell ⟨w.heap.size,1,none⟩ (.slice x.p2.a x.p2.n x.p2.c)).setCell ⟨w.heap.size,2,none⟩ (.slice x.p3.a x.p3.n x.p3.c)).setCell ⟨w.heap.size,3,none⟩ (.slice x.p4.a x.p4.n x.p4.c)).drew)=W9 at*
     have z0:=HX.out.1.box.1
     have z1:=HX.out.1.box.2.1
     have z2:=HX.out.1.box.2.2.1
     have z3:=HX.out.1.box.2.2.2.1
     exact bodyPost_ret (v:=.tuple #[.agg #[.slice x.p1.a x.p1.n x.p1.c,.slice x.p2.a x.p2.n x.p2.c,.slice x.p3.a x.p3.n x.p3.c,.slice x.p4.a x.p4.n x.p4.c],.bool false]) (by simp[results,Tryz.results111,go_sem,z0,z1,z2,z3]) rfl ⟨x,false,rfl,⟨HX.out.2.2,fun h=>by (cases h),fun _=>wrd_n1 HW.out HO.out (by rw[HL.out];exact hL0)⟩⟩
  ·go_wp2_with fail
   first|(go_region_law (fail))|fail
   all_goals
    go_wp2_with fail
    have HX:Hid (DBlk (((((w1.setCell ⟨w.heap.size,0,none⟩ (.slice x.p1.a x.p1.n x.p1.c)).setCell ⟨w.heap.size,1,none⟩ (.slice x.p2.a x.p2.n x.p2.c)).setCell ⟨w.heap.size,2,none⟩ (.slice x.p3.a x.p3.n x.p3.c)).setCell ⟨w.heap.size,3,none⟩ (.slice x.p4.a x.p4.n x.p4.c)).drew) w.heap.size x/\DOwn w.heap.size (((((w1.setCell ⟨w.heap.size,0,none⟩ (.slice x.p1.a x.p1.n x.p1.c)).setCell ⟨w.heap.size,1,none⟩ (.slice x.p2.a x.p2.n x.p2.c)).setCell ⟨w.heap.size,2,none⟩ (.slice x.p3.a x.p3.n x.p3.c)).setCell ⟨w.heap.size,3,none⟩ (.slice x.p4.a x.p4.n x.p4.c)).drew) x d/\Below w.heap.size w (((((w1.setCell ⟨w.heap.size,0,none⟩ (.slice x.p1.a x.p1.n x.p1.c)).setCell ⟨w.heap.size,1,none⟩ (.slice x.p2.a x.p2.n x.p2.c)).setCell ⟨w.heap.size,2,none⟩ (.slice x.p3.a x.p3.n x.p3.c)).setCell ⟨w.heap.size,3,none⟩ (.slice x.p4.a x.p4.n x.p4.c)).drew)):=⟨HK.out.1.four x,(HK.out.2.2.ret4 (by omega) (by omega)).stays (Below.refl _ _).drew,(ret4 HK.out.1 HK.out.2.1 (Nat.le_refl _) x).2.drew⟩
    generalize (((((w1.setCell ⟨w.heap.size,0,none⟩ (.slice x.p1.a x.p1.n x.p1.c)).setCell ⟨w.heap.size,1,none⟩ (.slice x.p2.a x.p2.n x.p2.c)).setCell ⟨w.heap.size,2,none⟩ (.slice x.p3.a x.p3.n x.p3.c)).setCell ⟨w.heap.size,3,none⟩ (.slice x.p4.a x.p4.n x.p4.c)).drew)=W9 at*
    have z0:=HX.out.1.box.1
    have z1:=HX.out.1.box.2.1
    have z2:=HX.out.1.box.2.2.1
    have z3:=HX.out.1.box.2.2.2.1
    exact bodyPost_ret (v:=.tuple #[.agg #[.slice x.p1.a x.p1.n x.p1.c,.slice x.p2.a x.p2.n x.p2.c,.slice x.p3.a x.p3.n x.p3.c,.slice x.p4.a x.p4.n x.p4.c],.bool false]) (by simp[results,Tryz.results111,go_sem,z0,z1,z2,z3]) rfl ⟨x,false,rfl,⟨HX.out.2.2,fun h=>by (cases h),fun _=>wrd_n2 HW.out HO.out⟩⟩
 ·have hl0:(0:Int)<(len:Int):=by have:len=r.length+1:=(by rw[<- hlen,hws9];rfl);omega
  clear hlen hws9
  go_enter Tryz.func111,Tryz.ntmps111
  go_wp2_with fail
  refine K.out.mono ?_
  rintro e w1 ⟨v,rfl,H2⟩
  obtain ⟨K7,z7,hk9,wa,c',x,wsb,bd,d,h1,h2,h3,h4,h5,h6,h7⟩:=H2.out
  obtain ⟨⟨d0,d2,d3,d4,d5,d6⟩,k1,k2,k3⟩:=rx_facts h4
  have HK:Hid (DBlk w1 w.heap.size nilDA/\Below w.heap.size w w1/\DOwn (w.heap.size+2) w1 x d):=⟨k1,k2,k3⟩
  have HO:Hid (RGo bd wsb d (fldF t og ws9)):=h7
  have er0:=k1.box.1
  have er1:=k1.box.2.1
  have er2:=k1.box.2.2.1
  have er3:=k1.box.2.2.2.1
  have ez0:=k1.fz 0
  have ez1:=k1.fz 1
  have ez2:=k1.fz 2
  have ez3:=k1.fz 3
  simp only at er0 er1 er2 er3
  have hne1:¬ w.heap.size=w.heap.size+1:=by omega
  clear k1 k2 k3 h1 h2 h3 h4 h5 h6 h7 H2 K HZ hsz0 hk9
  rcases bd with _|_
  ·obtain ⟨L,hL⟩:∃L,wsb.length=L:=⟨_,rfl⟩
   have HL:Hid (wsb.length=L):=hL
   rw[hL] at d0
   clear hL
   by_cases hL0:L=0
   ·subst hL0
    go_wp2_with fail
    go_region_held3 (fun W=>W.cell? ⟨w.heap.size+1,0,none⟩=some (.slice wa 0 c')/\W.cell? ⟨w.heap.size+1,2,none⟩=some (.slice x.p1.a x.p1.n x.p1.c)/\W.cell? ⟨w.heap.size+1,3,none⟩=some (.slice x.p2.a x.p2.n x.p2.c)/\W.cell? ⟨w.heap.size+1,4,none⟩=some (.slice x.p3.a x.p3.n x.p3.c)/\W.cell? ⟨w.heap.size+1,5,none⟩=some (.slice x.p4.a x.p4.n x.p4.c)/\W.cell? ⟨w.heap.size+1,6,none⟩=some (.bool false)) (exact ⟨by go_keep,by go_keep,by go_keep,by go_keep,by go_keep,by go_keep⟩) (fail)
    all_goals
     go_wp2_with fail
     have HX:Hid (DBlk (((((w1.setCell ⟨w.heap.size,0,none⟩ (.slice x.p1.a x.p1.n x.p1.c)).setCell ⟨w.heap.size,1,none⟩ (.slice x.p2.a x.p2.n x.p2.c)).setCell ⟨w.heap.size,2,none⟩ (.slice x.p3.a x.p3.n x.p3.c)).setCell ⟨w.heap.size,3,none⟩ (.slice x.p4.a x.p4.n x.p4.c)).drew) w.heap.size x/\DOwn w.heap.size (((((w1.setCell ⟨w.heap.size,0,none⟩ (.slice x.p1.a x.p1.n x.p1.c)).setCell ⟨w.heap.size,1,none⟩ (.slice x.p2.a x.p2.n x.p2.c)).setCell ⟨w.heap.size,2,none⟩ (.slice x.p3.a x.p3.n x.p3.c)).setCell ⟨w.heap.size,3,none⟩ (.slice x.p4.a x.p4.n x.p4.c)).drew) x d/\Below w.heap.size w (((((w1.setCell ⟨w.heap.size,0,none⟩ (.slice x.p1.a x.p1.n x.p1.c)).setCell ⟨w.heap.size,1,none⟩ (.slice x.p2.a x.p2.n x.p2.c)).setCell ⟨w.heap.size,2,none⟩ (.slice x.p3.a x.p3.n x.p3.c)).setCell ⟨w.heap.size,3,none⟩ (.slice x.p4.a x.p4.n x.p4.c)).drew)):=⟨HK.out.1.four x,(HK.out.2.2.ret4 (by omega) (by omega)).stays (Below.refl _ _).drew,(ret4 HK.out.1 HK.out.2.1 (Nat.le_refl _) x).2.drew⟩
     generalize (((((w1.setCell ⟨w.heap.size,0,none⟩ (.slice x.p1.a x.p1.n x.p1.c)).setCell ⟨w.heap.size,1,none⟩ (.slice x.p2.a x.p2.n x.p2.c)).setCell ⟨w.heap.size,2,none⟩ (.slice x.p3.a x.p3.n x.p3.c)).setCell ⟨w.heap.size,3,none⟩ (.slice x.p4.a x.p4.n x.p4.c)).drew)=W9 at*
     have z0:=HX.out.1.box.1
     have z1:=HX.out.1.box.2.1
     have z2:=HX.out.1.box.2.2.1
     have z3:=HX.out.1.box.2.2.2.1
     exact bodyPost_ret (v:=.tuple #[.agg #[.slice x.p1.a x.p1.n x.p1.c,.slice x.p2.a x.p2.n x.p2.c,.slice x.p3.a x.p3.n x.p3.c,.slice x.p4.a x.p4.n x.p4.c],.bool true]) (by simp[results,Tryz.results111,go_sem,z0,z1,z2,z3]) rfl ⟨x,true,rfl,⟨HX.out.2.2,fun _=>wrd_y HW.out HO.out HL.out HX.out.2.1,fun h=>by (cases h)⟩⟩
   ·have hL1:((L:Int) == 0)=false:=by rw[beq_eq_false_iff_ne];omega
    go_wp2_with fail
    go_region_held3 (fun W=>W.cell? ⟨w.heap.size+1,0,none⟩=some (.slice wa L c')/\W.cell? ⟨w.heap.size+1,2,none⟩=some (.slice x.p1.a x.p1.n x.p1.c)/\W.cell? ⟨w.heap.size+1,3,none⟩=some (.slice x.p2.a x.p2.n x.p2.c)/\W.cell? ⟨w.heap.size+1,4,none⟩=some (.slice x.p3.a x.p3.n x.p3.c)/\W.cell? ⟨w.heap.size+1,5,none⟩=some (.slice x.p4.a x.p4.n x.p4.c)/\W.cell? ⟨w.heap.size+1,6,none⟩=some (.bool false)) (exact ⟨by go_keep,by go_keep,by go_keep,by go_keep,by go_keep,by go_keep⟩) (fail)
    all_goals
     go_wp2_with fail
     have HX:Hid (DBlk (((((w1.setCell ⟨w.heap.size,0,none⟩ (.slice x.p1.a x.p1.n x.p1.c)).setCell ⟨w.heap.size,1,none⟩ (.slice x.p2.a x.p2.n x.p2.c)).setCell ⟨w.heap.size,2,none⟩ (.slice x.p3.a x.p3.n x.p3.c)).setCell ⟨w.heap.size,3,none⟩ (.slice x.p4.a x.p4.n x.p4.c)).drew) w.heap.size x/\DOwn w.heap.size (((((w1.setCell ⟨w.heap.size,0,none⟩ (.slice x.p1.a x.p1.n x.p1.c)).setCell ⟨w.heap.size,1,none⟩ (.slice x.p2.a x.p2.n x.p2.c)).setCell ⟨w.heap.size,2,none⟩ (.slice x.p3.a x.p3.n x.p3.c)).setCell ⟨w.heap.size,3,none⟩ (.slice x.p4.a x.p4.n x.p4.c)).drew) x d/\Below w.heap.size w (((((w1.setCell ⟨w.heap.size,0,none⟩ (.slice x.p1.a x.p1.n x.p1.c)).setCell ⟨w.heap.size,1,none⟩ (.slice x.p2.a x.p2.n x.p2.c)).setCell ⟨w.heap.size,2,none⟩ (.slice x.p3.a x.p3.n x.p3.c)).setCell ⟨w.heap.size,3,none⟩ (.slice x.p4.a x.p4.n x.p4.c)).drew)):=⟨HK.out.1.four x,(HK.out.2.2.ret4 (by omega) (by omega)).stays (Below.refl _ _).drew,(ret4 HK.out.1 HK.out.2.1 (Nat.le_refl _) x).2.drew⟩
     generalize (((((w1.setCell ⟨w.heap.size,0,none⟩ (.slice x.p1.a x.p1.n x.p1.c)).setCell ⟨w.heap.size,1,none⟩ (.slice x.p2.a x.p2.n x.p2.c)).setCell ⟨w.heap.size,2,none⟩ (.slice x.p3.a x.p3.n x.p3.c)).setCell ⟨w.heap.size,3,none⟩ (.slice x.p4.a x.p4.n x.p4.c)).drew)=W9 at*
     have z0:=HX.out.1.box.1
     have z1:=HX.out.1.box.2.1
     have z2:=HX.out.1.box.2.2.1
     have z3:=HX.out.1.box.2.2.2.1
     exact bodyPost_ret (v:=.tuple #[.agg #[.slice x.p1.a x.p1.n x.p1.c,.slice x.p2.a x.p2.n x.p2.c,.slice x.p3.a x.p3.n x.p3.c,.slice x.p4.a x.p4.n x.p4.c],.bool false]) (by simp[results,Tryz.results111,go_sem,z0,z1,z2,z3]) rfl ⟨x,false,rfl,⟨HX.out.2.2,fun h=>by (cases h),fun _=>wrd_n1 HW.out HO.out (by rw[HL.out];exact hL0)⟩⟩
  ·go_wp2_with fail
   first|(go_region_law (fail))|fail
   all_goals
    go_wp2_with fail
    have HX:Hid (DBlk (((((w1.setCell ⟨w.heap.size,0,none⟩ (.slice x.p1.a x.p1.n x.p1.c)).setCell ⟨w.heap.size,1,none⟩ (.slice x.p2.a x.p2.n x.p2.c)).setCell ⟨w.heap.size,2,none⟩ (.slice x.p3.a x.p3.n x.p3.c)).setCell ⟨w.heap.size,3,none⟩ (.slice x.p4.a x.p4.n x.p4.c)).drew) w.heap.size x/\DOwn w.heap.size (((((w1.setCell ⟨w.heap.size,0,none⟩ (.slice x.p1.a x.p1.n x.p1.c)).setCell ⟨w.heap.size,1,none⟩ (.slice x.p2.a x.p2.n x.p2.c)).setCell ⟨w.heap.size,2,none⟩ (.slice x.p3.a x.p3.n x.p3.c)).setCell ⟨w.heap.size,3,none⟩ (.slice x.p4.a x.p4.n x.p4.c)).drew) x d/\Below w.heap.size w (((((w1.setCell ⟨w.heap.size,0,none⟩ (.slice x.p1.a x.p1.n x.p1.c)).setCell ⟨w.heap.size,1,none⟩ (.slice x.p2.a x.p2.n x.p2.c)).setCell ⟨w.heap.size,2,none⟩ (.slice x.p3.a x.p3.n x.p3.c)).setCell ⟨w.heap.size,3,none⟩ (.slice x.p4.a x.p4.n x.p4.c)).drew)):=⟨HK.out.1.four x,(HK.out.2.2.ret4 (by omega) (by omega)).stays (Below.refl _ _).drew,(ret4 HK.out.1 HK.out.2.1 (Nat.le_refl _) x).2.drew⟩
    generalize (((((w1.setCell ⟨w.heap.size,0,none⟩ (.slice x.p1.a x.p1.n x.p1.c)).setCell ⟨w.heap.size,1,none⟩ (.slice x.p2.a x.p2.n x.p2.c)).setCell ⟨w.heap.size,2,none⟩ (.slice x.p3.a x.p3.n x.p3.c)).setCell ⟨w.heap.size,3,none⟩ (.slice x.p4.a x.p4.n x.p4.c)).drew)=W9 at*
    have z0:=HX.out.1.box.1
    have z1:=HX.out.1.box.2.1
    have z2:=HX.out.1.box.2.2.1
    have z3:=HX.out.1.box.2.2.2.1
    exact bodyPost_ret (v:=.tuple #[.agg #[.slice x.p1.a x.p1.n x.p1.c,.slice x.p2.a x.p2.n x.p2.c,.slice x.p3.a x.p3.n x.p3.c,.slice x.p4.a x.p4.n x.p4.c],.bool false]) (by simp[results,Tryz.results111,go_sem,z0,z1,z2,z3]) rfl ⟨x,false,rfl,⟨HX.out.2.2,fun h=>by (cases h),fun _=>wrd_n2 HW.out HO.out⟩⟩
theorem getd_bd(s:ByteArray)(k:Nat):0<=(nums s).getD k 0/\(nums s).getD k 0<=255:=by
 rw[List.getD_eq_getElem?_getD]
 cases h:(nums s)[k]? with
 |none=>simp
 |some z=>exact nums_all s z (List.mem_of_getElem? h)
theorem raw_bd6{t:Nat}{ws:List Wd}{d:Dat}(h:hshF t ws=some d):Bd d:=by
 cases ws with
 |nil=>cases h
 |cons p ps=>
  simp only[hshF] at h
  rw[Option.bind_eq_some_iff] at h
  obtain ⟨m,hm,h⟩:=h
  split at h
  ·rename_i hc
   split at h
   ·rename_i h2
    injection h with h
    subst h
    obtain ⟨h3,h4,h5⟩:=readF_ok h2
    have hpl:(prs (nums ⟨(catL ps).toArray⟩) m).length<=65535:=h5
    have hmay:mayT t=true:=by
     cases hmt:mayT t with
     |true=>rfl
     |false=>unfold checkF at h3;rw[hmt] at h3;simp at h3
    have hb:∀z∈prs (nums ⟨(catL ps).toArray⟩) m,0<=z/\z<=255:=by
     intro z hz
     unfold prs at hz
     rw[List.mem_map] at hz
     obtain ⟨k,hk,rfl⟩:=hz
     have hok:=List.all_eq_true.1 hc.2.2 k hk
     simp only[decide_eq_true_eq] at hok
     have hb1:=wv_bd ((nums ⟨(catL ps).toArray⟩).getD (2*k) 0) (getd_bd _ _)
     have hb2:=wv_bd ((nums ⟨(catL ps).toArray⟩).getD (2*k+1) 0) (getd_bd _ _)
     unfold okp at hok
     unfold pv
     omega
    rw[readF_at t _ hb hmay hpl] at h2 ⊢
    split at h2
    ·rename_i h6
     split at h2
     ·rename_i h7
      rw[if_pos h6,if_pos h7]
      exact pread_bd t _ hpl
     ·cases h2
    ·cases h2
   ·cases h
  ·cases h
theorem db_bd{K:Nat}{z:Bool}{d:Dat}(hK:K<=900)(h:DB K z d):Bd d:=by
 refine ⟨by have:=h.n;omega,h.nl,by have:=h.u;omega,?_,by have:=h.r;omega⟩
 unfold tsum
 have h1:=sum_le (d.ts.map tz) 1000001 (fun x hx=>by
  rw[List.mem_map] at hx
  obtain ⟨s,hs,rfl⟩:=hx
  have:=h.tl s hs
  unfold tz;omega)
 rw[List.length_map] at h1
 have:=h.t
 have h2:d.ts.length*1000001<=900*1000001:=Nat.mul_le_mul_right _ (by omega)
 omega
structure PB(K:Nat)(p:Pst):Prop where
 d:DB K false p.2
 w:WB p.1
theorem WB.sub{ws ws':List Wd}{s:ByteArray}(h:WB ws)(h2:tkN ws=some (s,ws')):WB ws'/\s.size<=1000000:=by
 cases ws with
 |nil=>cases h2
 |cons p r=>
  obtain ⟨a,q⟩:=p
  simp only[tkN,Option.some.injEq,Prod.mk.injEq] at h2
  obtain ⟨rfl,rfl⟩:=h2
  exact ⟨h.tail,h.2 (a,q) (by simp)⟩
theorem tkB_N{ws ws':List Wd}{s:ByteArray}(h2:tkB ws=some (s,ws')):tkN ws=some (s,ws'):=by
 cases ws with
 |nil=>cases h2
 |cons p r=>
  obtain ⟨a,q⟩:=p
  cases q with
  |true=>cases h2
  |false=>exact h2
theorem stp_pb{α:Type}{tk:List Wd->Option (ByteArray × List Wd)}{g:ByteArray->Option α}{put:Dat->α->Dat}{K K':Nat}{p p':Pst}(htk:∀ws s ws',tk ws=some (s,ws')->tkN ws=some (s,ws'))(hput:∀d s v,DB K false d->s.size<=1000000->g s=some v->DB K' false (put d v))(h:PB K p)(h2:stp tk g put p=some p'):PB K' p':=by
 unfold stp at h2
 rw[Option.bind_eq_some_iff] at h2
 obtain ⟨q,hq,h2⟩:=h2
 rw[Option.map_eq_some_iff] at h2
 obtain ⟨v,hv,rfl⟩:=h2
 obtain ⟨s,ws'⟩:=q
 obtain ⟨h3,h4⟩:=h.w.sub (htk _ _ _ hq)
 exact ⟨hput _ s v h.d h4 hv,h3⟩
theorem rep_pb{f:Pst->Option Pst}(hf:∀K p p',PB K p->f p=some p'->PB (K+1) p'):∀(k K:Nat) (o:Option Pst),(∀p,o=some p->PB K p)->∀p,rep f k o=some p->PB (K+k) p
 |0,K,o,h,p,hp=>h p hp
 |k+1,K,o,h,p,hp=>by
  rw[rep_succ,Option.bind_eq_some_iff] at hp
  obtain ⟨p1,h1,h2⟩:=hp
  exact hf _ _ _ (rep_pb hf k K o h p1 h1) h2
theorem name_pb(og:List ByteArray):∀K p p',PB K p->sName og p=some p'->PB (K+1) p':=fun K p p' h h2=>stp_pb (fun _ _ _=>tkB_N) (fun d s v hd hs hv=>by
 unfold gName6 at hv
 split at hv
 ·injection hv with hv;subst hv;exact hd.name (nrel_len6 s og)
 ·cases hv) h h2
theorem num_pb:∀K p p',PB K p->sNum p=some p'->PB (K+1) p':=fun K p p' h h2=>stp_pb (fun _ _ _=>tkB_N) (fun d s v hd hs hv=>hd.num v) h h2
theorem gStr6_len{s v:ByteArray}(hs:s.size<=1000000)(hv:gStr6 s=some v):v.size<=1000000:=by
 have h1:=xstrR_size s
 unfold gStr6 at hv
 unfold xstrR at h1
 cases hx:xstr (nums s) with
 |none=>rw[hx] at hv;cases hv
 |some o=>rw[hx] at hv h1;simp at hv;subst hv;simp at h1;omega
theorem text_pb:∀K p p',PB K p->sText p=some p'->PB (K+1) p':=fun K p p' h h2=>stp_pb (fun _ _ _ h=>h) (fun d s v hd hs hv=>hd.text (gStr6_len hs hv)) h h2
theorem tag_pb:∀K p p',PB K p->sTag p=some p'->PB (K+1) p':=fun K p p' h h2=>stp_pb (fun _ _ _ h=>h) (fun d s v hd hs hv=>by injection hv with hv;subst hv;exact hd.text hs) h h2
theorem DB.up{K:Nat}{z:Bool}{d:Dat}(h:DB K z d):DB (K+1) z d:=⟨Nat.le_succ_of_le h.n,Nat.le_succ_of_le h.u,Nat.le_succ_of_le h.t,h.z,h.nl,h.tl,h.r⟩
theorem addr_pb:∀K p p',PB K p->sAddr p=some p'->PB (K+1) p':=fun K p p' h h2=>stp_pb (fun _ _ _=>tkB_N) (fun d s v hd hs hv=>(hd.addr (xpaddr_len hv)).up) h h2
theorem fld_pb{t:Nat}{og:List ByteArray}{ws:List Wd}{p:Pst}(hb:WB ws)(h:fldF t og ws=some p):∃K,K<=900/\PB K p:=by
 have h0:∀p,some (ws,nilD)=some p->PB 0 p:=fun p hp=>by injection hp with hp;subst hp;exact ⟨DB.nil 0 false,hb⟩
 unfold fldF at h
 split at h
 ·exact ⟨_,by omega,rep_pb addr_pb 1 0 _ h0 p h⟩
 split at h
 ·exact ⟨_,by omega,rep_pb (name_pb og) 1 0 _ h0 p h⟩
 split at h
 ·exact ⟨_,by omega,rep_pb num_pb 5 _ _ (rep_pb (name_pb og) 2 0 _ h0) p h⟩
 split at h
 ·exact ⟨_,by omega,rep_pb (name_pb og) 1 _ _ (rep_pb num_pb 1 0 _ h0) p h⟩
 split at h
 ·exact ⟨_,by omega,rep_pb (name_pb og) 1 _ _ (rep_pb num_pb 3 0 _ h0) p h⟩
 split at h
 ·exact ⟨_,by have:=hb.1;omega,rep_pb text_pb (max 1 ws.length) 0 _ h0 p h⟩
 split at h
 ·exact ⟨_,by omega,rep_pb text_pb 1 _ _ (rep_pb tag_pb 1 _ _ (rep_pb num_pb 1 0 _ h0)) p h⟩
 ·cases h
theorem wrd_bd{t:Nat}{og:List ByteArray}{ws:List Wd}{d:Dat}(hb:WB ws)(h:wrdF t og ws=some d):Bd d:=by
 unfold wrdF at h
 split at h
 ·exact raw_bd6 h
 ·rw[Option.bind_eq_some_iff] at h
  obtain ⟨p,hp,h⟩:=h
  split at h
  ·injection h with h;subst h
   obtain ⟨K,hK,hpb⟩:=fld_pb hb hp
   exact db_bd hK hpb.d
  ·cases h
theorem cat_bd{ps:List Wd}(h:WB ps):(catL ps).length<=1000000000:=by
 have h1:∀ps:List Wd,(∀p∈ps,p.1.size<=1000000)->(catL ps).length<=ps.length*1000000:=by
  intro ps
  induction ps with
  |nil=>intro _;simp[catL]
  |cons p r ih=>
   intro h
   have a:=ih (fun q hq=>h q (by simp[hq]))
   have b:=h p (by simp)
   have c:p.1.data.toList.length=p.1.size:=rfl
   have e:catL (p::r)=p.1.data.toList++catL r:=by simp[catL]
   rw[e,List.length_append,List.length_cons,Nat.succ_mul];omega
 have:=h1 ps h.2
 have h2:ps.length*1000000<=500*1000000:=Nat.mul_le_mul_right _ h.1
 omega
theorem hash_nil (t : Nat) (a : Option Addr) (c : Nat) (w : World) : Calls Tryz.prog 135 #[.int .u16 (t : Int), .slice a 0 c] w (HsP none w) := by
  have HRB : Hid (DBlk (w.alloc (.cells #[.slice none 0 0, .slice none 0 0, .slice none 0 0, .slice none 0 0] 48)) w.heap.size nilDA) := heap_alloc_new _ _
  have HBW6 : Hid (Below w.heap.size w (w.alloc (.cells #[.slice none 0 0, .slice none 0 0, .slice none 0 0, .slice none 0 0] 48))) := new_below _ _
  have er0 := HRB.out.box.1
  have er1 := HRB.out.box.2.1
  have er2 := HRB.out.box.2.2.1
  have er3 := HRB.out.box.2.2.2.1
  have ez0 := HRB.out.fz 0
  have ez1 := HRB.out.fz 1
  have ez2 := HRB.out.fz 2
  have ez3 := HRB.out.fz 3
  simp only at er0 er1 er2 er3
  go_enter Tryz.func135, Tryz.ntmps135
  go_wp2_with fail
  first
  | exact bodyPost_ret (v := .tuple #[.agg #[.slice none 0 0, .slice none 0 0, .slice none 0 0, .slice none 0 0], .bool false]) (by simp [results, Tryz.results135, go_sem, er0, er1, er2, er3]) rfl ⟨nilDA, false, rfl, ⟨HBW6.out, fun h => by (cases h), fun _ => rfl⟩⟩
  | (have HX : Hid (DBlk ((((((w.alloc (.cells #[.slice none 0 0, .slice none 0 0, .slice none 0 0, .slice none 0 0] 48)).setCell ⟨w.heap.size, 0, none⟩ (.slice none 0 0)).setCell ⟨w.heap.size, 1, none⟩ (.slice none 0 0)).setCell ⟨w.heap.size, 2, none⟩ (.slice none 0 0)).setCell ⟨w.heap.size, 3, none⟩ (.slice none 0 0))) w.heap.size nilDA /\ Below w.heap.size w ((((((w.alloc (.cells #[.slice none 0 0, .slice none 0 0, .slice none 0 0, .slice none 0 0] 48)).setCell ⟨w.heap.size, 0, none⟩ (.slice none 0 0)).setCell ⟨w.heap.size, 1, none⟩ (.slice none 0 0)).setCell ⟨w.heap.size, 2, none⟩ (.slice none 0 0)).setCell ⟨w.heap.size, 3, none⟩ (.slice none 0 0)))) := ret4 HRB.out HBW6.out (Nat.le_refl _) nilDA
     generalize ((((((w.alloc (.cells #[.slice none 0 0, .slice none 0 0, .slice none 0 0, .slice none 0 0] 48)).setCell ⟨w.heap.size, 0, none⟩ (.slice none 0 0)).setCell ⟨w.heap.size, 1, none⟩ (.slice none 0 0)).setCell ⟨w.heap.size, 2, none⟩ (.slice none 0 0)).setCell ⟨w.heap.size, 3, none⟩ (.slice none 0 0))) = W9 at *
     have z0 := HX.out.1.box.1
     have z1 := HX.out.1.box.2.1
     have z2 := HX.out.1.box.2.2.1
     have z3 := HX.out.1.box.2.2.2.1
     exact bodyPost_ret (v := .tuple #[.agg #[.slice none 0 0, .slice none 0 0, .slice none 0 0, .slice none 0 0], .bool false]) (by simp [results, Tryz.results135, go_sem, z0, z1, z2, z3]) rfl ⟨nilDA, false, rfl, ⟨HX.out.2, fun h => by (cases h), fun _ => rfl⟩⟩)
theorem readH_g (t : Nat) (b o : Nat) (r : List Wd) (c : Nat) (oa : Option Addr) (on oc : Nat) (w : World) (hw : RdW w (some ⟨b, o, none⟩) (hash6 :: r)) (hc : r.length + 1 <= c) (h63 : c <= 9223372036854775807) (hb5 : WB r) (hE : LayE w) :
    Calls Tryz.prog 111 #[.int .u16 (t : Int), .slice (some ⟨b, o, none⟩) (r.length + 1) c, .slice oa on oc] w (HsP (hshF t r) w) := by
  obtain ⟨b', o', e', hb, c1, c2, hrr⟩ := hw.head
  injection e' with e'
  injection e' with e1 e2
  subst e1; subst e2
  have HZ : Hid (Below w.heap.size w (nilB w) /\ DBlk (nilB w) w.heap.size nilDA) := ⟨new_below _ _, heap_alloc_new _ _⟩
  have hs0 : (nilB w).heap.size = w.heap.size + 1 := by simp [nilB]
  cases r with
  | nil =>
    have KA : Hid (∀ a c, Calls Tryz.prog 135 #[.int .u16 (t : Int), .slice a 0 c] (nilB w) (HsP (hshF t []) (nilB w))) := fun a c => hash_nil t a c (nilB w)
    obtain ⟨OO, hOO⟩ : ∃ OO, hshF t [] = OO := ⟨_, rfl⟩
    rw [hOO] at KA ⊢
    clear hw hrr hb5 hE hOO
    simp only [List.length_nil, Nat.zero_add] at hc ⊢
    by_cases hc1 : c = 1
    · subst hc1
      go_enter Tryz.func111, Tryz.ntmps111
      go_wp2_with fail
      have K := Lib.hid (KA.out (some ⟨b, o, none⟩) 0)
      have K' := Lib.hid (KA.out (some ⟨b, o + 2, none⟩) 0)
      have K'' := Lib.hid (KA.out none 0)
      first
      | (refine K.out.mono ?_
         rintro e w6 ⟨x, q, rfl, H6⟩
         have HB6 : Hid (Below (w.heap.size + 1) (nilB w) w6) := by rw [<- hs0]; exact H6.out.1
         have hs6 : w.heap.size + 1 <= w6.heap.size := by have := HB6.out.size; rw [hs0] at this; exact this
         have HRB : Hid (DBlk w6 w.heap.size nilDA) := (HB6.out.block _ (by omega)).trans HZ.out.2
         have HBW6 : Hid (Below w.heap.size w w6) := HZ.out.1.trans (HB6.out.mono (by omega))
         have HO : Hid (q = true -> ∃ d, OO = some d /\ DOwn (w.heap.size + 1) w6 x d) := by rw [<- hs0]; exact H6.out.2.1
         have HO2 : Hid (q = false -> OO = none) := H6.out.2.2
         have er0 := HRB.out.box.1
         have er1 := HRB.out.box.2.1
         have er2 := HRB.out.box.2.2.1
         have er3 := HRB.out.box.2.2.2.1
         have ez0 := HRB.out.fz 0
         have ez1 := HRB.out.fz 1
         have ez2 := HRB.out.fz 2
         have ez3 := HRB.out.fz 3
         simp only at er0 er1 er2 er3
         clear K K' K'' KA H6 HB6
         go_wp2_with fail
         have HX : Hid (DBlk (((((w6.setCell ⟨w.heap.size, 0, none⟩ (.slice x.p1.a x.p1.n x.p1.c)).setCell ⟨w.heap.size, 1, none⟩ (.slice x.p2.a x.p2.n x.p2.c)).setCell ⟨w.heap.size, 2, none⟩ (.slice x.p3.a x.p3.n x.p3.c)).setCell ⟨w.heap.size, 3, none⟩ (.slice x.p4.a x.p4.n x.p4.c))) w.heap.size x /\ Below w.heap.size w (((((w6.setCell ⟨w.heap.size, 0, none⟩ (.slice x.p1.a x.p1.n x.p1.c)).setCell ⟨w.heap.size, 1, none⟩ (.slice x.p2.a x.p2.n x.p2.c)).setCell ⟨w.heap.size, 2, none⟩ (.slice x.p3.a x.p3.n x.p3.c)).setCell ⟨w.heap.size, 3, none⟩ (.slice x.p4.a x.p4.n x.p4.c)))) := ret4 HRB.out HBW6.out (Nat.le_refl _) x
         have HX2 : Hid (q = true -> ∃ d, OO = some d /\ DOwn w.heap.size (((((w6.setCell ⟨w.heap.size, 0, none⟩ (.slice x.p1.a x.p1.n x.p1.c)).setCell ⟨w.heap.size, 1, none⟩ (.slice x.p2.a x.p2.n x.p2.c)).setCell ⟨w.heap.size, 2, none⟩ (.slice x.p3.a x.p3.n x.p3.c)).setCell ⟨w.heap.size, 3, none⟩ (.slice x.p4.a x.p4.n x.p4.c))) x d) := fun h => by
           obtain ⟨d, h1, h2⟩ := HO.out h
           exact ⟨d, h1, h2.ret4 (by omega) (by omega)⟩
         generalize (((((w6.setCell ⟨w.heap.size, 0, none⟩ (.slice x.p1.a x.p1.n x.p1.c)).setCell ⟨w.heap.size, 1, none⟩ (.slice x.p2.a x.p2.n x.p2.c)).setCell ⟨w.heap.size, 2, none⟩ (.slice x.p3.a x.p3.n x.p3.c)).setCell ⟨w.heap.size, 3, none⟩ (.slice x.p4.a x.p4.n x.p4.c))) = W9 at *
         have z0 := HX.out.1.box.1
         have z1 := HX.out.1.box.2.1
         have z2 := HX.out.1.box.2.2.1
         have z3 := HX.out.1.box.2.2.2.1
         exact bodyPost_ret (v := .tuple #[.agg #[.slice x.p1.a x.p1.n x.p1.c, .slice x.p2.a x.p2.n x.p2.c, .slice x.p3.a x.p3.n x.p3.c, .slice x.p4.a x.p4.n x.p4.c], .bool q]) (by simp [results, Tryz.results111, go_sem, z0, z1, z2, z3]) rfl ⟨x, q, rfl, ⟨HX.out.2, HX2.out, HO2.out⟩⟩)
      | (refine K'.out.mono ?_
         rintro e w6 ⟨x, q, rfl, H6⟩
         have HB6 : Hid (Below (w.heap.size + 1) (nilB w) w6) := by rw [<- hs0]; exact H6.out.1
         have hs6 : w.heap.size + 1 <= w6.heap.size := by have := HB6.out.size; rw [hs0] at this; exact this
         have HRB : Hid (DBlk w6 w.heap.size nilDA) := (HB6.out.block _ (by omega)).trans HZ.out.2
         have HBW6 : Hid (Below w.heap.size w w6) := HZ.out.1.trans (HB6.out.mono (by omega))
         have HO : Hid (q = true -> ∃ d, OO = some d /\ DOwn (w.heap.size + 1) w6 x d) := by rw [<- hs0]; exact H6.out.2.1
         have HO2 : Hid (q = false -> OO = none) := H6.out.2.2
         have er0 := HRB.out.box.1
         have er1 := HRB.out.box.2.1
         have er2 := HRB.out.box.2.2.1
         have er3 := HRB.out.box.2.2.2.1
         have ez0 := HRB.out.fz 0
         have ez1 := HRB.out.fz 1
         have ez2 := HRB.out.fz 2
         have ez3 := HRB.out.fz 3
         simp only at er0 er1 er2 er3
         clear K K' K'' KA H6 HB6
         go_wp2_with fail
         have HX : Hid (DBlk (((((w6.setCell ⟨w.heap.size, 0, none⟩ (.slice x.p1.a x.p1.n x.p1.c)).setCell ⟨w.heap.size, 1, none⟩ (.slice x.p2.a x.p2.n x.p2.c)).setCell ⟨w.heap.size, 2, none⟩ (.slice x.p3.a x.p3.n x.p3.c)).setCell ⟨w.heap.size, 3, none⟩ (.slice x.p4.a x.p4.n x.p4.c))) w.heap.size x /\ Below w.heap.size w (((((w6.setCell ⟨w.heap.size, 0, none⟩ (.slice x.p1.a x.p1.n x.p1.c)).setCell ⟨w.heap.size, 1, none⟩ (.slice x.p2.a x.p2.n x.p2.c)).setCell ⟨w.heap.size, 2, none⟩ (.slice x.p3.a x.p3.n x.p3.c)).setCell ⟨w.heap.size, 3, none⟩ (.slice x.p4.a x.p4.n x.p4.c)))) := ret4 HRB.out HBW6.out (Nat.le_refl _) x
         have HX2 : Hid (q = true -> ∃ d, OO = some d /\ DOwn w.heap.size (((((w6.setCell ⟨w.heap.size, 0, none⟩ (.slice x.p1.a x.p1.n x.p1.c)).setCell ⟨w.heap.size, 1, none⟩ (.slice x.p2.a x.p2.n x.p2.c)).setCell ⟨w.heap.size, 2, none⟩ (.slice x.p3.a x.p3.n x.p3.c)).setCell ⟨w.heap.size, 3, none⟩ (.slice x.p4.a x.p4.n x.p4.c))) x d) := fun h => by
           obtain ⟨d, h1, h2⟩ := HO.out h
           exact ⟨d, h1, h2.ret4 (by omega) (by omega)⟩
         generalize (((((w6.setCell ⟨w.heap.size, 0, none⟩ (.slice x.p1.a x.p1.n x.p1.c)).setCell ⟨w.heap.size, 1, none⟩ (.slice x.p2.a x.p2.n x.p2.c)).setCell ⟨w.heap.size, 2, none⟩ (.slice x.p3.a x.p3.n x.p3.c)).setCell ⟨w.heap.size, 3, none⟩ (.slice x.p4.a x.p4.n x.p4.c))) = W9 at *
         have z0 := HX.out.1.box.1
         have z1 := HX.out.1.box.2.1
         have z2 := HX.out.1.box.2.2.1
         have z3 := HX.out.1.box.2.2.2.1
         exact bodyPost_ret (v := .tuple #[.agg #[.slice x.p1.a x.p1.n x.p1.c, .slice x.p2.a x.p2.n x.p2.c, .slice x.p3.a x.p3.n x.p3.c, .slice x.p4.a x.p4.n x.p4.c], .bool q]) (by simp [results, Tryz.results111, go_sem, z0, z1, z2, z3]) rfl ⟨x, q, rfl, ⟨HX.out.2, HX2.out, HO2.out⟩⟩)
      | (refine K''.out.mono ?_
         rintro e w6 ⟨x, q, rfl, H6⟩
         have HB6 : Hid (Below (w.heap.size + 1) (nilB w) w6) := by rw [<- hs0]; exact H6.out.1
         have hs6 : w.heap.size + 1 <= w6.heap.size := by have := HB6.out.size; rw [hs0] at this; exact this
         have HRB : Hid (DBlk w6 w.heap.size nilDA) := (HB6.out.block _ (by omega)).trans HZ.out.2
         have HBW6 : Hid (Below w.heap.size w w6) := HZ.out.1.trans (HB6.out.mono (by omega))
         have HO : Hid (q = true -> ∃ d, OO = some d /\ DOwn (w.heap.size + 1) w6 x d) := by rw [<- hs0]; exact H6.out.2.1
         have HO2 : Hid (q = false -> OO = none) := H6.out.2.2
         have er0 := HRB.out.box.1
         have er1 := HRB.out.box.2.1
         have er2 := HRB.out.box.2.2.1
         have er3 := HRB.out.box.2.2.2.1
         have ez0 := HRB.out.fz 0
         have ez1 := HRB.out.fz 1
         have ez2 := HRB.out.fz 2
         have ez3 := HRB.out.fz 3
         simp only at er0 er1 er2 er3
         clear K K' K'' KA H6 HB6
         go_wp2_with fail
         have HX : Hid (DBlk (((((w6.setCell ⟨w.heap.size, 0, none⟩ (.slice x.p1.a x.p1.n x.p1.c)).setCell ⟨w.heap.size, 1, none⟩ (.slice x.p2.a x.p2.n x.p2.c)).setCell ⟨w.heap.size, 2, none⟩ (.slice x.p3.a x.p3.n x.p3.c)).setCell ⟨w.heap.size, 3, none⟩ (.slice x.p4.a x.p4.n x.p4.c))) w.heap.size x /\ Below w.heap.size w (((((w6.setCell ⟨w.heap.size, 0, none⟩ (.slice x.p1.a x.p1.n x.p1.c)).setCell ⟨w.heap.size, 1, none⟩ (.slice x.p2.a x.p2.n x.p2.c)).setCell ⟨w.heap.size, 2, none⟩ (.slice x.p3.a x.p3.n x.p3.c)).setCell ⟨w.heap.size, 3, none⟩ (.slice x.p4.a x.p4.n x.p4.c)))) := ret4 HRB.out HBW6.out (Nat.le_refl _) x
         have HX2 : Hid (q = true -> ∃ d, OO = some d /\ DOwn w.heap.size (((((w6.setCell ⟨w.heap.size, 0, none⟩ (.slice x.p1.a x.p1.n x.p1.c)).setCell ⟨w.heap.size, 1, none⟩ (.slice x.p2.a x.p2.n x.p2.c)).setCell ⟨w.heap.size, 2, none⟩ (.slice x.p3.a x.p3.n x.p3.c)).setCell ⟨w.heap.size, 3, none⟩ (.slice x.p4.a x.p4.n x.p4.c))) x d) := fun h => by
           obtain ⟨d, h1, h2⟩ := HO.out h
           exact ⟨d, h1, h2.ret4 (by omega) (by omega)⟩
         generalize (((((w6.setCell ⟨w.heap.size, 0, none⟩ (.slice x.p1.a x.p1.n x.p1.c)).setCell ⟨w.heap.size, 1, none⟩ (.slice x.p2.a x.p2.n x.p2.c)).setCell ⟨w.heap.size, 2, none⟩ (.slice x.p3.a x.p3.n x.p3.c)).setCell ⟨w.heap.size, 3, none⟩ (.slice x.p4.a x.p4.n x.p4.c))) = W9 at *
         have z0 := HX.out.1.box.1
         have z1 := HX.out.1.box.2.1
         have z2 := HX.out.1.box.2.2.1
         have z3 := HX.out.1.box.2.2.2.1
         exact bodyPost_ret (v := .tuple #[.agg #[.slice x.p1.a x.p1.n x.p1.c, .slice x.p2.a x.p2.n x.p2.c, .slice x.p3.a x.p3.n x.p3.c, .slice x.p4.a x.p4.n x.p4.c], .bool q]) (by simp [results, Tryz.results111, go_sem, z0, z1, z2, z3]) rfl ⟨x, q, rfl, ⟨HX.out.2, HX2.out, HO2.out⟩⟩)
    · have hc2 : ¬ (c : Int) - 1 = 0 := by omega
      have hc1' : ¬ c - 1 = 0 := by omega
      go_enter Tryz.func111, Tryz.ntmps111
      go_wp2_with fail
      have K := Lib.hid (KA.out (some ⟨b, o + 2, none⟩) (c - 1))
      clear KA
      refine K.out.mono ?_
      rintro e w6 ⟨x, q, rfl, H6⟩
      have HB6 : Hid (Below (w.heap.size + 1) (nilB w) w6) := by rw [<- hs0]; exact H6.out.1
      have hs6 : w.heap.size + 1 <= w6.heap.size := by have := HB6.out.size; rw [hs0] at this; exact this
      have HRB : Hid (DBlk w6 w.heap.size nilDA) := (HB6.out.block _ (by omega)).trans HZ.out.2
      have HBW6 : Hid (Below w.heap.size w w6) := HZ.out.1.trans (HB6.out.mono (by omega))
      have HO : Hid (q = true -> ∃ d, OO = some d /\ DOwn (w.heap.size + 1) w6 x d) := by rw [<- hs0]; exact H6.out.2.1
      have HO2 : Hid (q = false -> OO = none) := H6.out.2.2
      have er0 := HRB.out.box.1
      have er1 := HRB.out.box.2.1
      have er2 := HRB.out.box.2.2.1
      have er3 := HRB.out.box.2.2.2.1
      have ez0 := HRB.out.fz 0
      have ez1 := HRB.out.fz 1
      have ez2 := HRB.out.fz 2
      have ez3 := HRB.out.fz 3
      simp only at er0 er1 er2 er3
      clear K H6 HB6
      go_wp2_with fail
      have HX : Hid (DBlk (((((w6.setCell ⟨w.heap.size, 0, none⟩ (.slice x.p1.a x.p1.n x.p1.c)).setCell ⟨w.heap.size, 1, none⟩ (.slice x.p2.a x.p2.n x.p2.c)).setCell ⟨w.heap.size, 2, none⟩ (.slice x.p3.a x.p3.n x.p3.c)).setCell ⟨w.heap.size, 3, none⟩ (.slice x.p4.a x.p4.n x.p4.c))) w.heap.size x /\ Below w.heap.size w (((((w6.setCell ⟨w.heap.size, 0, none⟩ (.slice x.p1.a x.p1.n x.p1.c)).setCell ⟨w.heap.size, 1, none⟩ (.slice x.p2.a x.p2.n x.p2.c)).setCell ⟨w.heap.size, 2, none⟩ (.slice x.p3.a x.p3.n x.p3.c)).setCell ⟨w.heap.size, 3, none⟩ (.slice x.p4.a x.p4.n x.p4.c)))) := ret4 HRB.out HBW6.out (Nat.le_refl _) x
      have HX2 : Hid (q = true -> ∃ d, OO = some d /\ DOwn w.heap.size (((((w6.setCell ⟨w.heap.size, 0, none⟩ (.slice x.p1.a x.p1.n x.p1.c)).setCell ⟨w.heap.size, 1, none⟩ (.slice x.p2.a x.p2.n x.p2.c)).setCell ⟨w.heap.size, 2, none⟩ (.slice x.p3.a x.p3.n x.p3.c)).setCell ⟨w.heap.size, 3, none⟩ (.slice x.p4.a x.p4.n x.p4.c))) x d) := fun h => by
        obtain ⟨d, h1, h2⟩ := HO.out h
        exact ⟨d, h1, h2.ret4 (by omega) (by omega)⟩
      generalize (((((w6.setCell ⟨w.heap.size, 0, none⟩ (.slice x.p1.a x.p1.n x.p1.c)).setCell ⟨w.heap.size, 1, none⟩ (.slice x.p2.a x.p2.n x.p2.c)).setCell ⟨w.heap.size, 2, none⟩ (.slice x.p3.a x.p3.n x.p3.c)).setCell ⟨w.heap.size, 3, none⟩ (.slice x.p4.a x.p4.n x.p4.c))) = W9 at *
      have z0 := HX.out.1.box.1
      have z1 := HX.out.1.box.2.1
      have z2 := HX.out.1.box.2.2.1
      have z3 := HX.out.1.box.2.2.2.1
      exact bodyPost_ret (v := .tuple #[.agg #[.slice x.p1.a x.p1.n x.p1.c, .slice x.p2.a x.p2.n x.p2.c, .slice x.p3.a x.p3.n x.p3.c, .slice x.p4.a x.p4.n x.p4.c], .bool q]) (by simp [results, Tryz.results111, go_sem, z0, z1, z2, z3]) rfl ⟨x, q, rfl, ⟨HX.out.2, HX2.out, HO2.out⟩⟩
  | cons p ps =>
    obtain ⟨num, qn⟩ := p
    have K : Hid (Calls Tryz.prog 135 #[.int .u16 (t : Int), .slice (some ⟨b, o + 2, none⟩) (ps.length + 1) (c - 1)] (nilB w) (HsP (hshF t ((num, qn) :: ps)) (nilB w))) := hash_g t b (o + 2) num qn ps (c - 1) (nilB w) (hrr.below HZ.out.1) (by simp at hc; omega) (by omega) (hb5.2 (num, qn) (by simp)) (cat_bd hb5.tail) (hE.below HZ.out.1)
    obtain ⟨OO, hOO⟩ : ∃ OO, hshF t ((num, qn) :: ps) = OO := ⟨_, rfl⟩
    rw [hOO] at K ⊢
    simp only [List.length_cons] at hc ⊢
    obtain ⟨N, hN⟩ : ∃ N, ps.length = N := ⟨_, rfl⟩
    rw [hN] at hc K ⊢
    have hN0 : (0 : Int) < (N : Int) + 2 := by omega
    have hN9 : (0 : Int) < (N : Int) + 1 + 1 := by omega
    have hc2 : ¬ (c : Int) - 1 = 0 := by omega
    have hc1' : ¬ c - 1 = 0 := by omega
    have hsub : N + 1 + 1 - 1 = N + 1 := by omega
    have hsub2 : (N : Int) + 1 + 1 - 1 = (N : Int) + 1 := by omega
    clear hw hN hrr hb5 hE hOO
    go_enter Tryz.func111, Tryz.ntmps111
    go_wp2_with fail
    refine K.out.mono ?_
    rintro e w6 ⟨x, q, rfl, H6⟩
    have HB6 : Hid (Below (w.heap.size + 1) (nilB w) w6) := by rw [<- hs0]; exact H6.out.1
    have hs6 : w.heap.size + 1 <= w6.heap.size := by have := HB6.out.size; rw [hs0] at this; exact this
    have HRB : Hid (DBlk w6 w.heap.size nilDA) := (HB6.out.block _ (by omega)).trans HZ.out.2
    have HBW6 : Hid (Below w.heap.size w w6) := HZ.out.1.trans (HB6.out.mono (by omega))
    have HO : Hid (q = true -> ∃ d, OO = some d /\ DOwn (w.heap.size + 1) w6 x d) := by rw [<- hs0]; exact H6.out.2.1
    have HO2 : Hid (q = false -> OO = none) := H6.out.2.2
    have er0 := HRB.out.box.1
    have er1 := HRB.out.box.2.1
    have er2 := HRB.out.box.2.2.1
    have er3 := HRB.out.box.2.2.2.1
    have ez0 := HRB.out.fz 0
    have ez1 := HRB.out.fz 1
    have ez2 := HRB.out.fz 2
    have ez3 := HRB.out.fz 3
    simp only at er0 er1 er2 er3
    clear K H6 HB6
    go_wp2_with fail
    have HX : Hid (DBlk (((((w6.setCell ⟨w.heap.size, 0, none⟩ (.slice x.p1.a x.p1.n x.p1.c)).setCell ⟨w.heap.size, 1, none⟩ (.slice x.p2.a x.p2.n x.p2.c)).setCell ⟨w.heap.size, 2, none⟩ (.slice x.p3.a x.p3.n x.p3.c)).setCell ⟨w.heap.size, 3, none⟩ (.slice x.p4.a x.p4.n x.p4.c))) w.heap.size x /\ Below w.heap.size w (((((w6.setCell ⟨w.heap.size, 0, none⟩ (.slice x.p1.a x.p1.n x.p1.c)).setCell ⟨w.heap.size, 1, none⟩ (.slice x.p2.a x.p2.n x.p2.c)).setCell ⟨w.heap.size, 2, none⟩ (.slice x.p3.a x.p3.n x.p3.c)).setCell ⟨w.heap.size, 3, none⟩ (.slice x.p4.a x.p4.n x.p4.c)))) := ret4 HRB.out HBW6.out (Nat.le_refl _) x
    have HX2 : Hid (q = true -> ∃ d, OO = some d /\ DOwn w.heap.size (((((w6.setCell ⟨w.heap.size, 0, none⟩ (.slice x.p1.a x.p1.n x.p1.c)).setCell ⟨w.heap.size, 1, none⟩ (.slice x.p2.a x.p2.n x.p2.c)).setCell ⟨w.heap.size, 2, none⟩ (.slice x.p3.a x.p3.n x.p3.c)).setCell ⟨w.heap.size, 3, none⟩ (.slice x.p4.a x.p4.n x.p4.c))) x d) := fun h => by
      obtain ⟨d, h1, h2⟩ := HO.out h
      exact ⟨d, h1, h2.ret4 (by omega) (by omega)⟩
    generalize (((((w6.setCell ⟨w.heap.size, 0, none⟩ (.slice x.p1.a x.p1.n x.p1.c)).setCell ⟨w.heap.size, 1, none⟩ (.slice x.p2.a x.p2.n x.p2.c)).setCell ⟨w.heap.size, 2, none⟩ (.slice x.p3.a x.p3.n x.p3.c)).setCell ⟨w.heap.size, 3, none⟩ (.slice x.p4.a x.p4.n x.p4.c))) = W9 at *
    have z0 := HX.out.1.box.1
    have z1 := HX.out.1.box.2.1
    have z2 := HX.out.1.box.2.2.1
    have z3 := HX.out.1.box.2.2.2.1
    exact bodyPost_ret (v := .tuple #[.agg #[.slice x.p1.a x.p1.n x.p1.c, .slice x.p2.a x.p2.n x.p2.c, .slice x.p3.a x.p3.n x.p3.c, .slice x.p4.a x.p4.n x.p4.c], .bool q]) (by simp [results, Tryz.results111, go_sem, z0, z1, z2, z3]) rfl ⟨x, q, rfl, ⟨HX.out.2, HX2.out, HO2.out⟩⟩
theorem read_g(t:Nat)(a:Option Addr)(ws:List Wd)(c:Nat)(oa:Option Addr)(on oc:Nat)(og:List ByteArray)(w:World)(hw:RdW w a ws)(hc:ws.length<=c)(h63:c<=9223372036854775807)(hb:WB ws)(hog:Nm w oa on og)(hE:LayE w) :
  Calls Tryz.prog 111 #[.int .u16 (t:Int),.slice a ws.length c,.slice oa on oc] w (HsP (wrdF t og ws) w):=by
 by_cases hh:ws.head?=some hash6
 ·cases ws with
  |nil=>cases hh
  |cons p r=>
   simp only[List.head?_cons,Option.some.injEq] at hh
   subst hh
   obtain ⟨b,o,rfl,-⟩:=hw.head
   have:=readH_g t b o r c oa on oc w hw hc h63 hb.tail hE
   have e:wrdF t og (hash6::r)=hshF t r:=by unfold wrdF;rw[if_pos (show (hash6::r).head?=some hash6 from rfl)];rfl
   rw[e]
   exact this
 ·exact read_g1 t a ws c oa on oc og w hh hw (fun w0 h0=>fields_g t w0 a ws c oa on oc og (hE.below h0) (hog.below h0) (hw.below h0) hc h63 hb)
def PsP(o:Option Dat)(w:World)(e:Ending)(w':World):Prop:=
 ∃(x:DA) (er:Int),e=.returned (.tuple #[.agg #[.slice x.p1.a x.p1.n x.p1.c,.slice x.p2.a x.p2.n x.p2.c,.slice x.p3.a x.p3.n x.p3.c,.slice x.p4.a x.p4.n x.p4.c],.int .i64 er])/\Hid (Below w.heap.size w w'/\((er=0/\∃d,o=some d/\DOwn w.heap.size w' x d)∨(er=7/\o=none/\x=nilDA)))
theorem parse_g(t:Nat)(a:Option Addr)(ws:List Wd)(c:Nat)(oa:Option Addr)(on oc:Nat)(og:List ByteArray)(w:World)(hw:RdW w a ws)(hc:ws.length<=c)(h63:c<=9223372036854775807)(hb:WB ws)(hog:Nm w oa on og)(hE:LayE w)(hck:nck og=0)(hmay:mayT t=true) :
  Calls Tryz.prog 89 #[.int .u16 (t:Int),.slice a ws.length c,.slice oa on oc] w (PsP (prsF t og ws) w):=by
 have HZ:Hid (Below w.heap.size w (w.alloc (.cells #[.slice none 0 0,.slice none 0 0,.slice none 0 0,.slice none 0 0] 48))/\DBlk (w.alloc (.cells #[.slice none 0 0,.slice none 0 0,.slice none 0 0,.slice none 0 0] 48)) w.heap.size nilDA):=⟨new_below _ _,heap_alloc_new _ _⟩
 have hs0:w.heap.size<(w.alloc (.cells #[.slice none 0 0,.slice none 0 0,.slice none 0 0,.slice none 0 0] 48)).heap.size:=by simp
 have KN:Hid (Calls Tryz.prog 17 #[.slice oa on oc] (w.alloc (.cells #[.slice none 0 0,.slice none 0 0,.slice none 0 0,.slice none 0 0] 48)) fun e w'=>e=.returned (.int .i64 0)/\w'=(w.alloc (.cells #[.slice none 0 0,.slice none 0 0,.slice none 0 0,.slice none 0 0] 48))):=by
  have:=pm_check oc (hog.below HZ.out.1)
  rw[hck] at this
  exact this
 have KH:Hid (∀W,Calls Tryz.prog 110 #[.int .u16 (t:Int)] W fun e w'=>e=.returned (.bool true)/\w'=W):=fun W=>by have:=hasT_any t W;rw[hmay] at this;exact this
 have K:Hid (Calls Tryz.prog 111 #[.int .u16 (t:Int),.slice a ws.length c,.slice oa on oc] (w.alloc (.cells #[.slice none 0 0,.slice none 0 0,.slice none 0 0,.slice none 0 0] 48)) (HsP (wrdF t og ws) (w.alloc (.cells #[.slice none 0 0,.slice none 0 0,.slice none 0 0,.slice none 0 0] 48)))):=read_g t a ws c oa on oc og _ (hw.below HZ.out.1) hc h63 hb (hog.below HZ.out.1) (hE.below HZ.out.1)
 have KC:Hid (∀W x d,wrdF t og ws=some d->DRd W x d->Calls Tryz.prog 112 #[.int .u16 (t:Int),.agg #[.slice x.p1.a x.p1.n x.p1.c,.slice x.p2.a x.p2.n x.p2.c,.slice x.p3.a x.p3.n x.p3.c,.slice x.p4.a x.p4.n x.p4.c]] W fun e w'=>e=.returned (.int .i64 (checkF t d))/\Hid (Below W.heap.size W w')):=fun W x d hd hW=>check_any t x d W hW (wrd_bd hb hd)
 have HPR:Hid (prsF t og ws=(wrdF t og ws).bind fun d=>if checkF t d=0 then some d else none):=rfl
 generalize wrdF t og ws=OO at*
 generalize prsF t og ws=PP at*
 obtain ⟨len,hlen⟩:∃len,ws.length=len:=⟨_,rfl⟩
 rw[hlen] at K ⊢
 clear hw hc h63 hb hog hE hck hmay hlen
 go_enter Tryz.func89,Tryz.ntmps89
 generalize hw0:w.alloc (.cells #[.slice none 0 0,.slice none 0 0,.slice none 0 0,.slice none 0 0] 48)=w0 at*
 go_wp2_with fail
 try rw[hw0]
 refine KN.out.mono ?_
 rintro e w1 ⟨rfl,rfl⟩
 go_wp2_with fail
 refine (KH.out _).mono ?_
 rintro e w2 ⟨rfl,rfl⟩
 go_wp2_with fail
 refine K.out.mono ?_
 rintro e w3 ⟨x,q,rfl,H3⟩
 rcases q with _|_
 ·have HP0:Hid (PP=none):=by show _=_;rw[HPR.out,H3.out.2.2 rfl];rfl
  have HB34:Hid (Below w3.heap.size w3 (w3.alloc (.cells #[.slice x.p1.a x.p1.n x.p1.c,.slice x.p2.a x.p2.n x.p2.c,.slice x.p3.a x.p3.n x.p3.c,.slice x.p4.a x.p4.n x.p4.c] 48))):=new_below _ _
  have hs3:=Nat.lt_of_lt_of_le hs0 H3.out.1.size
  have HRB:Hid (DBlk w3 w.heap.size nilDA):=(H3.out.1.block _ hs0).trans HZ.out.2
  have HBW:Hid (Below w.heap.size w w3):=HZ.out.1.trans (H3.out.1.mono (by omega))
  have er0:=HRB.out.box.1
  have er1:=HRB.out.box.2.1
  have er2:=HRB.out.box.2.2.1
  have er3:=HRB.out.box.2.2.2.1
  have ez0:=HRB.out.fz 0
  have ez1:=HRB.out.fz 1
  have ez2:=HRB.out.fz 2
  have ez3:=HRB.out.fz 3
  simp only at er0 er1 er2 er3
  have hne1:¬ w.heap.size=w3.heap.size:=by omega
  have hne2:¬ w3.heap.size=w.heap.size:=by omega
  clear KN KH K HZ H3 KC HPR
  go_wp2_with fail
  have HX0:Hid (DBlk (((((w3.setCell ⟨w.heap.size,0,none⟩ (.slice none 0 0)).setCell ⟨w.heap.size,1,none⟩ (.slice none 0 0)).setCell ⟨w.heap.size,2,none⟩ (.slice none 0 0)).setCell ⟨w.heap.size,3,none⟩ (.slice none 0 0))) w.heap.size nilDA/\Below w.heap.size w (((((w3.setCell ⟨w.heap.size,0,none⟩ (.slice none 0 0)).setCell ⟨w.heap.size,1,none⟩ (.slice none 0 0)).setCell ⟨w.heap.size,2,none⟩ (.slice none 0 0)).setCell ⟨w.heap.size,3,none⟩ (.slice none 0 0)))):=ret4 HRB.out HBW.out (Nat.le_refl _) nilDA
  have HX:Hid (DBlk ((((((w3.setCell ⟨w.heap.size,0,none⟩ (.slice none 0 0)).setCell ⟨w.heap.size,1,none⟩ (.slice none 0 0)).setCell ⟨w.heap.size,2,none⟩ (.slice none 0 0)).setCell ⟨w.heap.size,3,none⟩ (.slice none 0 0))).alloc (.cells #[.slice x.p1.a x.p1.n x.p1.c,.slice x.p2.a x.p2.n x.p2.c,.slice x.p3.a x.p3.n x.p3.c,.slice x.p4.a x.p4.n x.p4.c] 48)) w.heap.size nilDA/\Below w.heap.size w ((((((w3.setCell ⟨w.heap.size,0,none⟩ (.slice none 0 0)).setCell ⟨w.heap.size,1,none⟩ (.slice none 0 0)).setCell ⟨w.heap.size,2,none⟩ (.slice none 0 0)).setCell ⟨w.heap.size,3,none⟩ (.slice none 0 0))).alloc (.cells #[.slice x.p1.a x.p1.n x.p1.c,.slice x.p2.a x.p2.n x.p2.c,.slice x.p3.a x.p3.n x.p3.c,.slice x.p4.a x.p4.n x.p4.c] 48))):=⟨((new_below (((((w3.setCell ⟨w.heap.size,0,none⟩ (.slice none 0 0)).setCell ⟨w.heap.size,1,none⟩ (.slice none 0 0)).setCell ⟨w.heap.size,2,none⟩ (.slice none 0 0)).setCell ⟨w.heap.size,3,none⟩ (.slice none 0 0))) (.cells #[.slice x.p1.a x.p1.n x.p1.c,.slice x.p2.a x.p2.n x.p2.c,.slice x.p3.a x.p3.n x.p3.c,.slice x.p4.a x.p4.n x.p4.c] 48)).block _ HX0.out.1.lt).trans HX0.out.1,HX0.out.2.trans ((new_below (((((w3.setCell ⟨w.heap.size,0,none⟩ (.slice none 0 0)).setCell ⟨w.heap.size,1,none⟩ (.slice none 0 0)).setCell ⟨w.heap.size,2,none⟩ (.slice none 0 0)).setCell ⟨w.heap.size,3,none⟩ (.slice none 0 0))) (.cells #[.slice x.p1.a x.p1.n x.p1.c,.slice x.p2.a x.p2.n x.p2.c,.slice x.p3.a x.p3.n x.p3.c,.slice x.p4.a x.p4.n x.p4.c] 48)).mono HX0.out.2.size)⟩
  generalize ((((((w3.setCell ⟨w.heap.size,0,none⟩ (.slice none 0 0)).setCell ⟨w.heap.size,1,none⟩ (.slice none 0 0)).setCell ⟨w.heap.size,2,none⟩ (.slice none 0 0)).setCell ⟨w.heap.size,3,none⟩ (.slice none 0 0))).alloc (.cells #[.slice x.p1.a x.p1.n x.p1.c,.slice x.p2.a x.p2.n x.p2.c,.slice x.p3.a x.p3.n x.p3.c,.slice x.p4.a x.p4.n x.p4.c] 48))=W9 at*
  have z0:=HX.out.1.box.1
  have z1:=HX.out.1.box.2.1
  have z2:=HX.out.1.box.2.2.1
  have z3:=HX.out.1.box.2.2.2.1
  exact bodyPost_ret (v:=.tuple #[.agg #[.slice none 0 0,.slice none 0 0,.slice none 0 0,.slice none 0 0],.int .i64 7]) (by simp[results,Tryz.results89,go_sem,z0,z1,z2,z3]) rfl ⟨nilDA,7,rfl,⟨HX.out.2,.inr ⟨rfl,HP0.out,rfl⟩⟩⟩
 ·obtain ⟨d,hd1,hd2⟩:=H3.out.2.1 rfl
  have HD1:Hid (OO=some d):=hd1
  have HD2:Hid (DOwn w2.heap.size w3 x d):=hd2
  have HN:Hid (DRd (w3.alloc (.cells #[.slice x.p1.a x.p1.n x.p1.c,.slice x.p2.a x.p2.n x.p2.c,.slice x.p3.a x.p3.n x.p3.c,.slice x.p4.a x.p4.n x.p4.c] 48)) x d/\Below w3.heap.size w3 (w3.alloc (.cells #[.slice x.p1.a x.p1.n x.p1.c,.slice x.p2.a x.p2.n x.p2.c,.slice x.p3.a x.p3.n x.p3.c,.slice x.p4.a x.p4.n x.p4.c] 48))):=⟨hd2.rd.below (new_below _ _),new_below _ _⟩
  clear hd1 hd2
  go_wp2_with fail
  refine (KC.out _ x d HD1.out HN.out.1).mono ?_
  rintro e w4 ⟨rfl,H4⟩
  have HD:Hid (DBlk w4 w3.heap.size x):=(H4.out.block _ (by simp)).trans (heap_alloc_new _ _)
  have d0:w4.cell? ⟨w3.heap.size,0,none⟩=_:=HD.out.box.1
  have d1:w4.cell? ⟨w3.heap.size,1,none⟩=_:=HD.out.box.2.1
  have d2:w4.cell? ⟨w3.heap.size,2,none⟩=_:=HD.out.box.2.2.1
  have d3:w4.cell? ⟨w3.heap.size,3,none⟩=_:=HD.out.box.2.2.2.1
  have HB34:Hid (Below w3.heap.size w3 w4):=HN.out.2.trans (H4.out.mono HN.out.2.size)
  have HRB:Hid (DBlk w4 w.heap.size nilDA):=(HB34.out.block _ (Nat.lt_of_lt_of_le hs0 H3.out.1.size)).trans ((H3.out.1.block _ hs0).trans HZ.out.2)
  have HBW:Hid (Below w.heap.size w w4):=(HZ.out.1.trans (H3.out.1.mono (by omega))).trans (HB34.out.mono (by have:=H3.out.1.size;omega))
  have HO:Hid (DOwn w2.heap.size w4 x d):=HD2.out.stays HB34.out
  have hne1:¬ w.heap.size=w3.heap.size:=by have:=H3.out.1.size;omega
  have hne2:¬ w3.heap.size=w.heap.size:=by omega
  have HPY:Hid (checkF t d=0->PP=some d):=fun h=>by rw[HPR.out,HD1.out];simp[h]
  have HPN:Hid (¬ checkF t d=0->PP=none):=fun h=>by rw[HPR.out,HD1.out];simp[h]
  have er0:=HRB.out.box.1
  have er1:=HRB.out.box.2.1
  have er2:=HRB.out.box.2.2.1
  have er3:=HRB.out.box.2.2.2.1
  have ez0:=HRB.out.fz 0
  have ez1:=HRB.out.fz 1
  have ez2:=HRB.out.fz 2
  have ez3:=HRB.out.fz 3
  simp only at er0 er1 er2 er3
  clear KN KH K KC HN H4 HB34 HZ H3 HD HPR HD1 HD2
  generalize checkF t d=ck at*
  by_cases hk:ck=0
  ·subst hk
   go_wp2_with fail
   have HX:Hid (DBlk (((((w4.setCell ⟨w.heap.size,0,none⟩ (.slice x.p1.a x.p1.n x.p1.c)).setCell ⟨w.heap.size,1,none⟩ (.slice x.p2.a x.p2.n x.p2.c)).setCell ⟨w.heap.size,2,none⟩ (.slice x.p3.a x.p3.n x.p3.c)).setCell ⟨w.heap.size,3,none⟩ (.slice x.p4.a x.p4.n x.p4.c))) w.heap.size x/\DOwn w.heap.size (((((w4.setCell ⟨w.heap.size,0,none⟩ (.slice x.p1.a x.p1.n x.p1.c)).setCell ⟨w.heap.size,1,none⟩ (.slice x.p2.a x.p2.n x.p2.c)).setCell ⟨w.heap.size,2,none⟩ (.slice x.p3.a x.p3.n x.p3.c)).setCell ⟨w.heap.size,3,none⟩ (.slice x.p4.a x.p4.n x.p4.c))) x d/\Below w.heap.size w (((((w4.setCell ⟨w.heap.size,0,none⟩ (.slice x.p1.a x.p1.n x.p1.c)).setCell ⟨w.heap.size,1,none⟩ (.slice x.p2.a x.p2.n x.p2.c)).setCell ⟨w.heap.size,2,none⟩ (.slice x.p3.a x.p3.n x.p3.c)).setCell ⟨w.heap.size,3,none⟩ (.slice x.p4.a x.p4.n x.p4.c)))):=⟨(ret4 HRB.out HBW.out (Nat.le_refl _) x).1,HO.out.ret4 hs0 (Nat.le_of_lt hs0),(ret4 HRB.out HBW.out (Nat.le_refl _) x).2⟩
   generalize (((((w4.setCell ⟨w.heap.size,0,none⟩ (.slice x.p1.a x.p1.n x.p1.c)).setCell ⟨w.heap.size,1,none⟩ (.slice x.p2.a x.p2.n x.p2.c)).setCell ⟨w.heap.size,2,none⟩ (.slice x.p3.a x.p3.n x.p3.c)).setCell ⟨w.heap.size,3,none⟩ (.slice x.p4.a x.p4.n x.p4.c)))=W9 at*
   have z0:=HX.out.1.box.1
   have z1:=HX.out.1.box.2.1
   have z2:=HX.out.1.box.2.2.1
   have z3:=HX.out.1.box.2.2.2.1
   exact bodyPost_ret (v:=.tuple #[.agg #[.slice x.p1.a x.p1.n x.p1.c,.slice x.p2.a x.p2.n x.p2.c,.slice x.p3.a x.p3.n x.p3.c,.slice x.p4.a x.p4.n x.p4.c],.int .i64 0]) (by simp[results,Tryz.results89,go_sem,z0,z1,z2,z3]) rfl ⟨x,0,rfl,⟨HX.out.2.2,.inl ⟨rfl,d,HPY.out (by simp),HX.out.2.1⟩⟩⟩
  ·have hk2:(ck == 0)=false:=by simpa using hk
   have hk3:(ck != 0)=true:=by simpa using hk
   go_wp2_with fail
   have HX:Hid (DBlk (((((w4.setCell ⟨w.heap.size,0,none⟩ (.slice none 0 0)).setCell ⟨w.heap.size,1,none⟩ (.slice none 0 0)).setCell ⟨w.heap.size,2,none⟩ (.slice none 0 0)).setCell ⟨w.heap.size,3,none⟩ (.slice none 0 0))) w.heap.size nilDA/\Below w.heap.size w (((((w4.setCell ⟨w.heap.size,0,none⟩ (.slice none 0 0)).setCell ⟨w.heap.size,1,none⟩ (.slice none 0 0)).setCell ⟨w.heap.size,2,none⟩ (.slice none 0 0)).setCell ⟨w.heap.size,3,none⟩ (.slice none 0 0)))):=ret4 HRB.out HBW.out (Nat.le_refl _) nilDA
   generalize (((((w4.setCell ⟨w.heap.size,0,none⟩ (.slice none 0 0)).setCell ⟨w.heap.size,1,none⟩ (.slice none 0 0)).setCell ⟨w.heap.size,2,none⟩ (.slice none 0 0)).setCell ⟨w.heap.size,3,none⟩ (.slice none 0 0)))=W9 at*
   have z0:=HX.out.1.box.1
   have z1:=HX.out.1.box.2.1
   have z2:=HX.out.1.box.2.2.1
   have z3:=HX.out.1.box.2.2.2.1
   exact bodyPost_ret (v:=.tuple #[.agg #[.slice none 0 0,.slice none 0 0,.slice none 0 0,.slice none 0 0],.int .i64 7]) (by simp[results,Tryz.results89,go_sem,z0,z1,z2,z3]) rfl ⟨nilDA,7,rfl,⟨HX.out.2,.inr ⟨rfl,HPN.out hk,rfl⟩⟩⟩
def Box(w:World)(b:Nat)(s pre:ByteArray)(most:Int):Prop:=
 w.cell? ⟨b,0,none⟩=some (.string s)/\w.cell? ⟨b,1,none⟩=some (.string pre)/\w.cell? ⟨b,2,none⟩=some (.int .i64 most)/\b<w.heap.size
theorem Box.new(w:World)(s pre:ByteArray)(most:Int):Box (w.alloc (.cells #[.string s,.string pre,.int .i64 most] 218)) w.heap.size s pre most:=by
 refine ⟨?_,?_,?_,by simp⟩ <;> (unfold World.cell?;rw[heap_alloc_new];rfl)
theorem Box.below{w w':World}{b:Nat}{s pre:ByteArray}{most:Int}(h:Box w b s pre most)(hb:Below w.heap.size w w'):Box w' b s pre most:=
 ⟨(hb.cell (p:=⟨b,0,none⟩) h.2.2.2).trans h.1,(hb.cell (p:=⟨b,1,none⟩) h.2.2.2).trans h.2.1,(hb.cell (p:=⟨b,2,none⟩) h.2.2.2).trans h.2.2.1,Nat.lt_of_lt_of_le h.2.2.2 hb.size⟩
def Res(o:Option Nat)(x y:Int):Prop:=(∀n,o=some n->x=(n:Int)/\y=0)/\(o=none->x=0/\y=6)
theorem Res.no{o:Option Nat}(h:o=none):Res o 0 6:=⟨fun n hn=>(by rw[h] at hn;cases hn),fun _=>⟨rfl,rfl⟩⟩
theorem Res.yes{o:Option Nat}{n:Nat}(h:o=some n):Res o (n:Int) 0:=⟨fun m hm=>(by rw[h] at hm;cases hm;exact ⟨rfl,rfl⟩),fun hn=>(by rw[h] at hn;cases hn)⟩
theorem numc_any(s pre:ByteArray)(most:Nat)(hm:most<65536)(t:ByteArray)(ht:t.size<=140737488355328)(w:World)(hL:LayT w)(hE:LayE w) :
  Calls Tryz.prog 169 #[.agg #[.string s,.string pre,.int .i64 most],.string t] w fun e w'=>∃x y,e=.returned (.tuple #[.int .i64 x,.int .i64 y])/\Hid (Res (numF t.data.toList (most+1)) x y)/\Hid (Below w.heap.size w w'):=by
 have HL:Hid (LayT w):=hL
 have HX:Hid (Box (w.alloc (.cells #[.string s,.string pre,.int .i64 most] 218)) w.heap.size s pre most):=Box.new w s pre most
 have HB:Hid (Below w.heap.size w (w.alloc (.cells #[.string s,.string pre,.int .i64 most] 218))):=(Below.refl _ _).alloc (Nat.le_refl _) _
 have HE:Hid (LayE (w.alloc (.cells #[.string s,.string pre,.int .i64 most] 218))):=hE.below HB.out
 clear hL hE
 cases ha:Lib.atoiAll t.data.toList with
 |ok v=>
  have HA:Hid (Lib.atoiAll t.data.toList=.ok v):=ha
  clear ha
  go_enter Tryz.func169,Tryz.ntmps169
  go_wp2_with fail
  generalize (w.alloc (.cells #[.string s,.string pre,.int .i64 most] 218))=W1 at*
  refine (Tryz.strconv_Atoi_ok t (by omega) v HA.out W1).mono ?_
  rintro e W2 ⟨rfl,hW2⟩
  have H2:Hid (Below W1.heap.size W1 W2):=by
   rcases hW2 with rfl|⟨u,rfl⟩
   ·exact Below.refl _ _
   ·exact Lib.bytesWorld_below _ _ _
  clear hW2
  have HX2:Hid (Box W2 w.heap.size s pre most):=HX.out.below H2.out
  have HB2:Hid (Below w.heap.size w W2):=HB.out.trans (H2.out.mono HB.out.size)
  have c2:=HX2.out.2.2.1
  clear HX HB H2 HE
  have HD:Hid (∀n,n<most+1->t.data.toList=Lib.decDigits n->v=(n:Int)):=by
   intro n hn he
   have:=HA.out
   rw[he,atoi_dec n (by omega)] at this
   injection this with this
   exact this.symm
  by_cases h1:v<0
  ·go_wp2_with fail
   go_ret2
   refine ⟨_,_,rfl,⟨?_,fun _=>⟨rfl,rfl⟩⟩,HB2.out⟩
   intro n hn
   obtain ⟨e1,e2⟩:=numF_some hn
   have:=HD.out n e2 e1
   omega
  ·by_cases h2:(most:Int)<v
   ·go_wp2_with fail
    go_ret2
    refine ⟨_,_,rfl,⟨?_,fun _=>⟨rfl,rfl⟩⟩,HB2.out⟩
    intro n hn
    obtain ⟨e1,e2⟩:=numF_some hn
    have:=HD.out n e2 e1
    omega
   ·obtain ⟨n,rfl⟩:∃n:Nat,v=(n:Int):=⟨v.toNat,by omega⟩
    go_wp2_with fail
    refine (itoa_nat n (by omega) W2 (HL.out.below HB2.out)).mono ?_
    rintro e W3 ⟨rfl,H3⟩
    have HB3:Hid (Below w.heap.size w W3):=HB2.out.trans (H3.out.mono HB2.out.size)
    clear HX2 HB2 H3 c2
    by_cases h3:Lib.decDigits n=t.data.toList
    ·have hq:(Lib.decDigits n == t.toList)=true:=by rw[ByteArray.toList_eq,h3];simp
     have HQ:Hid (numF t.data.toList (most+1)=some n):=by
      show _=_
      rw[<- h3]
      exact numF_dec n _ (by omega)
     clear h3
     go_wp2_with fail
     go_ret2
     exact ⟨_,_,rfl,Res.yes HQ.out,HB3.out⟩
    ·have hq:(Lib.decDigits n == t.toList)=false:=by
      rw[ByteArray.toList_eq]
      cases h:Lib.decDigits n == t.data.toList with
      |false=>rfl
      |true=>exact absurd (eq_of_beq h) h3
     have HQ:Hid (numF t.data.toList (most+1)=none):=by
      refine numF_none fun k hk he=>?_
      have:=HD.out k hk he
      have e:n=k:=by omega
      subst e
      exact h3 he.symm
     clear h3
     go_wp2_with fail
     go_ret2
     exact ⟨_,_,rfl,Res.no HQ.out,HB3.out⟩
 |«syntax»=>
  have HQ:Hid (numF t.data.toList (most+1)=none):=by
   refine numF_none fun k hk he=>?_
   rw[he,atoi_dec k (by omega)] at ha
   cases ha
  have HA:Hid (Lib.atoiAll t.data.toList=.«syntax»):=ha
  clear ha
  go_enter Tryz.func169,Tryz.ntmps169
  go_wp2_with fail
  generalize (w.alloc (.cells #[.string s,.string pre,.int .i64 most] 218))=W1 at*
  obtain ⟨tp,p,hv⟩:=HE.out.1
  refine (Tryz.strconv_Atoi_syntax_var t (by omega) HA.out tp p W1 hv).mono ?_
  rintro e W2 ⟨N,rfl,-,-,hb⟩
  have HB2:Hid (Below w.heap.size w W2):=HB.out.trans (hb.mono HB.out.size)
  clear hv hb HX HB HE
  go_wp2_with fail
  go_ret2
  exact ⟨_,_,rfl,Res.no HQ.out,HB2.out⟩
 |range=>
  have HQ:Hid (numF t.data.toList (most+1)=none):=by
   refine numF_none fun k hk he=>?_
   rw[he,atoi_dec k (by omega)] at ha
   cases ha
  have HA:Hid (Lib.atoiAll t.data.toList=.range):=ha
  clear ha
  go_enter Tryz.func169,Tryz.ntmps169
  go_wp2_with fail
  generalize (w.alloc (.cells #[.string s,.string pre,.int .i64 most] 218))=W1 at*
  obtain ⟨tp,p,hv⟩:=HE.out.2.1
  refine (Tryz.strconv_Atoi_range_var t (by omega) HA.out tp p W1 hv).mono ?_
  rintro e W2 ⟨N,rfl,-,-,hb⟩
  have HB2:Hid (Below w.heap.size w W2):=HB.out.trans (hb.mono HB.out.size)
  clear hv hb HX HB HE
  generalize Lib.atoiSat t.data.toList=v
  go_wp2_with fail
  go_ret2
  exact ⟨_,_,rfl,Res.no HQ.out,HB2.out⟩
theorem digits_any(s pre:ByteArray)(most:Int)(ps:Own4)(t:ByteArray)(w:World)(hK:KOk s ps)(hL:LayT w) :
  Calls Tryz.prog 167 #[.agg #[.string s,.string pre,.int .i64 most],.string t] w fun e w'=>∃(l:List UInt8) (b:Bool),e=.returned (.tuple #[.string ⟨l.toArray⟩,.bool b])/\Hid (digF ps pre.data.toList t.data.toList=if b then some l else none)/\Hid (Below w.heap.size w w'):=by
 have HL:Hid (LayT w):=hL
 have HK:Hid (KOk s ps):=hK
 have HX:Hid (Box (w.alloc (.cells #[.string s,.string pre,.int .i64 most] 218)) w.heap.size s pre most):=Box.new w s pre most
 have HB:Hid (Below w.heap.size w (w.alloc (.cells #[.string s,.string pre,.int .i64 most] 218))):=(Below.refl _ _).alloc (Nat.le_refl _) _
 clear hL hK
 go_enter Tryz.func167,Tryz.ntmps167
 go_wp2_with fail
 generalize (w.alloc (.cells #[.string s,.string pre,.int .i64 most] 218))=W1 at*
 refine (fields_any s ps W1 HK.out (HL.out.below HB.out)).mono ?_
 rintro e W3 ⟨rfl,H3⟩
 have HX3:Hid (Box W3 w.heap.size s pre most):=HX.out.below H3.out.1
 have HB3:Hid (Below w.heap.size w W3):=HB.out.trans (H3.out.1.mono HB.out.size)
 have HC:Hid (∀j p,ps[j]?=some p->W3.cell? ⟨W1.heap.size,2*j,none⟩=some (.string ⟨p.1.toArray⟩)/\W3.cell? ⟨W1.heap.size,2*j+1,none⟩=some (.string ⟨(Lib.decDigits p.2).toArray⟩)):=H3.out.2
 have hN:=HK.out.2.2.2.1
 obtain ⟨N,eN⟩:∃N,ps.length=N:=⟨_,rfl⟩
 have HN:Hid (ps.length=N):=eN
 rw[eN] at hN ⊢
 clear HX HB H3 eN HK
 generalize W1.heap.size=g at*
 go_wp2_with fail
 go_loopw [7] (fun x wr=>wr=W3/\∃j:Nat,j<=N/\x=.int .i64 ((2*j+1:Nat):Int)/\Hid (∀p∈ps.take j,(p.1 == t.data.toList)=false)) (fun x _=>2*N+1 - (intOf x).toNat)
 case atStart=>exact ⟨rfl,0,Nat.zero_le _,rfl,by intro p hp;simp at hp⟩
 case round=>
  obtain ⟨rfl,j,hj,rfl,HF⟩:=hrel
  obtain ⟨i,ei⟩:∃i:Nat,2*j+1=i:=⟨_,rfl⟩
  by_cases hlt:j<N
  ·obtain ⟨p,hp⟩:∃p,ps[j]?=some p:=⟨_,List.getElem?_eq_getElem (by rw[HN.out];exact hlt)⟩
   obtain ⟨c1,c2⟩:=HC.out j p hp
   rw[ei] at c2 ⊢
   have hb1:(i:Int)<((2*N:Nat):Int):=by omega
   have hs1:IntKind.i64.wrap ((i:Int) - 1)=((2*j:Nat):Int):=by rw[IntKind.wrap_i64];omega
   have hs2:(((2*j:Nat):Int))<((2*N:Nat):Int):=by omega
   have HS:Hid (((p.1 == t.data.toList)=true->ps.find? (fun q=>q.1 == t.data.toList)=some p)/\((p.1 == t.data.toList)=false->∀q∈ps.take (j+1),(q.1 == t.data.toList)=false)):=find_step (fun (q:List UInt8 × Nat)=>q.1 == t.data.toList) ps j HF.out p hp
   obtain ⟨m,hm⟩:∃m,2*j=m:=⟨_,rfl⟩
   rw[hm] at c1 hs1 hs2
   cases he:p.1 == t.data.toList with
   |true=>
    have hq:(p.1 == t.toList)=true:=by rw[ByteArray.toList_eq];exact he
    have HS1:=HS.out.1 he
    have HS2:Hid (ps.find? (fun q=>q.1 == t.data.toList)=some p):=HS1
    clear HS HS1 he
    go_wp2_with fail
    go_ret2
    refine ⟨_,_,rfl,?_,HB3.out⟩
    show _=_
    have:=HS2.out
    simp[digF,this]
   |false=>
    have hq:(p.1 == t.toList)=false:=by rw[ByteArray.toList_eq];exact he
    have HS2:Hid (∀q∈ps.take (j+1),(q.1 == t.data.toList)=false):=HS.out.2 he
    clear HS he c2
    go_wp2_with fail
    refine ⟨⟨by first|rfl|trivial,j+1,by omega,?_,HS2⟩,?_⟩
    ·rw[<- ei];go_num
    ·simp[intOf];omega
  ·have hjN:j=N:=by omega
   have hb1:¬ (i:Int)<((2*N:Nat):Int):=by omega
   have HT:Hid (ps.find? (fun (q:List UInt8 × Nat)=>q.1 == t.data.toList)=none):=find_end (fun (q:List UInt8 × Nat)=>q.1 == t.data.toList) ps j HF.out (by rw[HN.out];omega)
   have c1:=HX3.out.2.1
   rw[ei]
   clear HF HC
   go_wp2_with fail
   refine (Tryz.strings_CutPrefix t pre wr).mono ?_
   rintro e W4 ⟨rfl,rfl⟩
   go_wp2_with fail
   go_ret2
   refine ⟨_,_,rfl,?_,HB3.out⟩
   show _=_
   have:=HT.out
   simp only[digF,this,Lib.trimPrefix,Lib.hasPrefix]
   split <;> simp_all
def up(t:ByteArray):ByteArray:=⟨(txt ((nums t).map uz)).toArray⟩
theorem up_size(t:ByteArray):(up t).size=t.size:=by
 show (txt ((nums t).map uz)).toArray.size=t.size
 rw[List.size_toArray,txt_len,List.length_map,nums_len]
theorem digF_len(ps:Own4)(pre t l:List UInt8)(hp:∀p∈ps,p.2<65536)(h:digF ps pre t=some l):l.length<=t.length+5:=by
 unfold digF at h
 split at h
 ·rename_i p hf
  have:=dec_len p.2 (by have:=hp p (List.mem_of_find?_eq_some hf);omega)
  cases h
  omega
 ·split at h
  ·cases h
   simp
   omega
  ·cases h
theorem parsec_any(s pre:ByteArray)(most:Nat)(hm:most<65536)(ps:Own4)(t:ByteArray)(ht:t.size<=140737488355000)(w:World)(hK:KOk s ps)(hL:LayT w)(hE:LayE w) :
  Calls Tryz.prog 149 #[.agg #[.string s,.string pre,.int .i64 most],.string t] w fun e w'=>∃x y,e=.returned (.tuple #[.int .i64 x,.int .i64 y])/\Hid (Res (readC ps pre.data.toList (most+1) (up t).data.toList) x y)/\Hid (Below w.heap.size w w'):=by
 have HL:Hid (LayT w/\LayE w):=⟨hL,hE⟩
 have HK:Hid (KOk s ps):=hK
 have HX:Hid (Box (w.alloc (.cells #[.string s,.string pre,.int .i64 most] 218)) w.heap.size s pre most):=Box.new w s pre most
 have HB:Hid (Below w.heap.size w (w.alloc (.cells #[.string s,.string pre,.int .i64 most] 218))):=(Below.refl _ _).alloc (Nat.le_refl _) _
 clear hL hK hE
 go_enter Tryz.func149,Tryz.ntmps149
 go_wp2_with fail
 generalize (w.alloc (.cells #[.string s,.string pre,.int .i64 most] 218))=W1 at*
 have HLd:Hid (LayT W1.drew/\LayE W1.drew):=⟨HL.out.1.below HB.out.drew,HL.out.2.below HB.out.drew⟩
 have HBd:Hid (Below w.heap.size w W1.drew/\w.heap.size<=W1.drew.heap.size):=⟨HB.out.drew,HB.out.size⟩
 have c0:=HX.out.1
 have c1:=HX.out.2.1
 have c2:=HX.out.2.2.1
 have hbl:=HX.out.2.2.2
 have HG:Hid (∀w',Below w.heap.size w w'->w.heap.size=w.heap.size):=fun _ _=>rfl
 have KG:Hid (∀W,Calls Tryz.prog 168 #[.string t] W fun e w'=>e=.returned (.string (up t))/\Hid (Below W.heap.size W w')):=fun W=>great_any t W (by omega)
 have KD:Hid (∀W,LayT W->Calls Tryz.prog 167 #[.agg #[.string s,.string pre,.int .i64 most],.string (up t)] W fun e w'=>∃(l:List UInt8) (b:Bool),e=.returned (.tuple #[.string ⟨l.toArray⟩,.bool b])/\Hid (digF ps pre.data.toList (up t).data.toList=if b then some l else none)/\Hid (Below W.heap.size W w')):=fun W h=>digits_any s pre most ps (up t) W HK.out h
 clear HL HB HX HG
 obtain ⟨b,hb⟩:∃b,b=w.heap.size:=⟨_,rfl⟩
 rw[<- hb] at c0 c1 c2 hbl HBd ⊢
 have Hb:Hid (b=w.heap.size):=hb
 clear hb
 go_region_held3 (fun W=>W.cell? ⟨b,0,none⟩=some (.string s)/\W.cell? ⟨b,1,none⟩=some (.string pre)/\W.cell? ⟨b,2,none⟩=some (.int .i64 most)) (go_keep) (first
  |(go_at_call 168;refine (KG.out _).mono ?_;rintro e W2 ⟨rfl,H2⟩;have d0:W2.cell? ⟨b,0,none⟩=some (.string s):=(H2.out.cell (p:=⟨b,0,none⟩) hbl).trans c0;have d1:W2.cell? ⟨b,1,none⟩=some (.string pre):=(H2.out.cell (p:=⟨b,1,none⟩) hbl).trans c1;have d2:W2.cell? ⟨b,2,none⟩=some (.int .i64 most):=(H2.out.cell (p:=⟨b,2,none⟩) hbl).trans c2;have HL2:Hid (LayT W2/\LayE W2):=⟨HLd.out.1.below H2.out,HLd.out.2.below H2.out⟩;have HB2:Hid (Below b w W2/\b<W2.heap.size):=⟨HBd.out.1.trans (H2.out.mono HBd.out.2),Nat.lt_of_lt_of_le hbl H2.out.size⟩;clear H2)
  |(go_at_call 167;refine (KD.out _ HL2.out.1).mono ?_;rintro e W3 ⟨l,q,rfl,HD,H3⟩;have e0:W3.cell? ⟨b,0,none⟩=some (.string s):=(H3.out.cell (p:=⟨b,0,none⟩) HB2.out.2).trans d0;have e1:W3.cell? ⟨b,1,none⟩=some (.string pre):=(H3.out.cell (p:=⟨b,1,none⟩) HB2.out.2).trans d1;have e2:W3.cell? ⟨b,2,none⟩=some (.int .i64 most):=(H3.out.cell (p:=⟨b,2,none⟩) HB2.out.2).trans d2;have HL3:Hid (LayT W3/\LayE W3):=⟨HL2.out.1.below H3.out,HL2.out.2.below H3.out⟩;have HB3:Hid (Below b w W3):=HB2.out.1.trans (H3.out.mono (Nat.le_of_lt HB2.out.2))))
 clear c0 c1 c2 d0 d1 d2 HLd HBd KG KD HL2 HB2 H3 hbl
 cases q with
 |false=>
  go_wp2_with fail
  go_ret2
  refine ⟨_,_,rfl,Res.no ?_,by rw[<- Hb.out];exact HB3.out⟩
  unfold readC
  rw[HD.out]
  rfl
 |true=>
  have hd:digF ps pre.data.toList (up t).data.toList=some l:=HD.out
  have hl:(⟨l.toArray⟩:ByteArray).size<=140737488355328:=by
   have:=digF_len ps pre.data.toList (up t).data.toList l HK.out.2.2.2.2 hd
   have e1:(up t).data.toList.length=t.size:=(Lib.size_eq _).symm.trans (up_size t)
   show l.toArray.size<=_
   rw[List.size_toArray]
   omega
  have HR:Hid (readC ps pre.data.toList (most+1) (up t).data.toList=numF l (most+1)):=by
   show readC _ _ _ _=_
   unfold readC;rw[hd];rfl
  clear HD hd
  go_wp2_with fail
  refine (numc_any s pre most hm ⟨l.toArray⟩ hl W3 HL3.out.1 HL3.out.2).mono ?_
  rintro e W4 ⟨x,y,rfl,HQ,H4⟩
  clear e0 e1 e2
  go_wp2_with fail
  go_ret2
  exact ⟨_,_,rfl,by rw[HR.out];exact HQ.out,by rw[<- Hb.out];exact HB3.out.trans (H4.out.mono (by rw[Hb.out];rw[Hb.out] at HB3;exact HB3.out.size))⟩
def typesB:ByteArray:=⟨#[65,32,49,32,78,83,32,50,32,67,78,65,77,69,32,53,32,83,79,65,32,54,32,80,84,82,32,49,50,32,77,88,32,49,53,32,84,88,84,32,49,54,32,65,65,65,65,32,50,56,32,83,82,86,32,51,51,32,79,80,84,32,52,49,32,65,78,89,32,50,53,53,32,67,65,65,32,50,53,55]⟩
def typesP:ByteArray:=⟨#[84,89,80,69]⟩
def typesW:Own4:=[([65],1),([78,83],2),([67,78,65,77,69],5),([83,79,65],6),([80,84,82],12),([77,88],15),([84,88,84],16),([65,65,65,65],28),([83,82,86],33),([79,80,84],41),([65,78,89],255),([67,65,65],257)]
theorem typesOk:KOk typesB typesW:=by
 refine ⟨by decide +kernel,?_,?_,by decide,by decide⟩
 ·intro j b h
  have:∀x∈typesB.data.toList,x.toNat<128:=by decide +kernel
  exact this b (List.mem_of_getElem? h)
 ·have e:flatC typesW=[[65],[49],[78,83],[50],[67,78,65,77,69],[53],[83,79,65],[54],[80,84,82],[49,50],[77,88],[49,53],[84,88,84],[49,54],[65,65,65,65],[50,56],[83,82,86],[51,51],[79,80,84],[52,49],[65,78,89],[50,53,53],[67,65,65],[50,53,55]]:=by simp[flatC,typesW,dec_small,dec_big]
  rw[e]
  decide +kernel
theorem types_any(w:World):Calls Tryz.prog 166 #[] w fun e w'=>e=.returned (.agg #[.string typesB,.string typesP,.int .i64 (65535:Nat)])/\Hid (Below w.heap.size w w'):=by
 go_enter Tryz.func166,Tryz.ntmps166
 go_wp2_with fail
 refine bodyPost_ret (v:=.agg #[.string typesB,.string typesP,.int .i64 (65535:Nat)]) (by simp[results,Tryz.results166,go_sem];exact ⟨rfl,rfl⟩) rfl ⟨rfl,?_⟩
 exact (Below.refl _ _).alloc (Nat.le_refl _) _
def classesB:ByteArray:=⟨#[73,78,32,49,32,67,72,32,51,32,72,83,32,52,32,78,79,78,69,32,50,53,52,32,65,78,89,32,50,53,53]⟩
def classesP:ByteArray:=⟨#[67,76,65,83,83]⟩
def classesW:Own4:=[([73,78],1),([67,72],3),([72,83],4),([78,79,78,69],254),([65,78,89],255)]
theorem classesOk:KOk classesB classesW:=by
 refine ⟨by decide +kernel,?_,?_,by decide,by decide⟩
 ·intro j b h
  have:∀x∈classesB.data.toList,x.toNat<128:=by decide +kernel
  exact this b (List.mem_of_getElem? h)
 ·have e:flatC classesW=[[73,78],[49],[67,72],[51],[72,83],[52],[78,79,78,69],[50,53,52],[65,78,89],[50,53,53]]:=by simp[flatC,classesW,dec_small,dec_big]
  rw[e]
  decide +kernel
theorem classes_any(w:World):Calls Tryz.prog 148 #[] w fun e w'=>e=.returned (.agg #[.string classesB,.string classesP,.int .i64 (65535:Nat)])/\Hid (Below w.heap.size w w'):=by
 go_enter Tryz.func148,Tryz.ntmps148
 go_wp2_with fail
 refine bodyPost_ret (v:=.agg #[.string classesB,.string classesP,.int .i64 (65535:Nat)]) (by simp[results,Tryz.results148,go_sem];exact ⟨rfl,rfl⟩) rfl ⟨rfl,?_⟩
 exact (Below.refl _ _).alloc (Nat.le_refl _) _
theorem readF_lt(ps:Own4)(pre:List UInt8)(below:Nat)(s:List UInt8)(n:Nat)(h:readC ps pre below s=some n):n<below:=by
 unfold readC at h
 cases hd:digF ps pre s with
 |none=>rw[hd] at h;cases h
 |some l=>rw[hd] at h;exact (numF_some h).2
theorem res_bd(o:Option Nat)(x y:Int){b:Nat}(h:∀n,o=some n->n<b)(hr:Res o x y):0<=x/\(x<b∨x=0):=by
 cases ho:o with
 |none=>have:=(hr.2 ho).1;omega
 |some n=>have:=(hr.1 n ho).1;have:=h n ho;omega
theorem ptype_any(t:ByteArray)(ht:t.size<=140737488355000)(w:World)(hL:LayT w)(hE:LayE w):Calls Tryz.prog 147 #[.string t] w fun e w'=>∃x y,e=.returned (.tuple #[.int .u16 x,.int .i64 y])/\Hid (Res (readC typesW typesP.data.toList 65536 (up t).data.toList) x y)/\Hid (Below w.heap.size w w'):=by
 have HL:Hid (LayT w/\LayE w):=⟨hL,hE⟩
 clear hL hE
 go_enter Tryz.func147,Tryz.ntmps147
 go_wp2_with fail
 refine (types_any w).mono ?_
 rintro e W1 ⟨rfl,H1⟩
 go_wp2_with fail
 refine (parsec_any typesB typesP 65535 (by decide) typesW t ht W1 typesOk (HL.out.1.below H1.out) (HL.out.2.below H1.out)).mono ?_
 rintro e W2 ⟨x,y,rfl,HR,H2⟩
 have hw:IntKind.u16.wrap x=x:=by
  have hb:=res_bd _ x y (fun n hn=>readF_lt typesW _ 65536 _ n hn) HR.out
  rw[IntKind.wrap_u16];omega
 go_wp2_with fail
 go_ret2
 exact ⟨_,_,rfl,HR.out,H1.out.trans (H2.out.mono H1.out.size)⟩
theorem pclass_any(t:ByteArray)(ht:t.size<=140737488355000)(w:World)(hL:LayT w)(hE:LayE w):Calls Tryz.prog 132 #[.string t] w fun e w'=>∃x y,e=.returned (.tuple #[.int .u16 x,.int .i64 y])/\Hid (Res (readC classesW classesP.data.toList 65536 (up t).data.toList) x y)/\Hid (Below w.heap.size w w'):=by
 have HL:Hid (LayT w/\LayE w):=⟨hL,hE⟩
 clear hL hE
 go_enter Tryz.func132,Tryz.ntmps132
 go_wp2_with fail
 refine (classes_any w).mono ?_
 rintro e W1 ⟨rfl,H1⟩
 go_wp2_with fail
 refine (parsec_any classesB classesP 65535 (by decide) classesW t ht W1 classesOk (HL.out.1.below H1.out) (HL.out.2.below H1.out)).mono ?_
 rintro e W2 ⟨x,y,rfl,HR,H2⟩
 have hw:IntKind.u16.wrap x=x:=by
  have hb:=res_bd _ x y (fun n hn=>readF_lt classesW _ 65536 _ n hn) HR.out
  rw[IntKind.wrap_u16];omega
 go_wp2_with fail
 go_ret2
 exact ⟨_,_,rfl,HR.out,H1.out.trans (H2.out.mono H1.out.size)⟩
def storedF(t:Int):Bool:=decide (t≠0) && decide (t≠41) && (decide (t<128) || decide (255<t))
theorem stored_any(t:Int)(w:World):Calls Tryz.prog 134 #[.int .u16 t] w fun e w'=>e=.returned (.bool (storedF t))/\w'=w:=by
 go_enter Tryz.func134,Tryz.ntmps134
 by_cases h0:t=0
 ·subst h0
  go_wp2_with fail
  go_ret
  exact ⟨ret_bool (by decide),rfl⟩
 ·by_cases h1:t=41
  ·subst h1
   go_wp2_with fail
   go_ret
   exact ⟨ret_bool (by decide),rfl⟩
  ·have q0:(t == 0)=false:=by simp[h0]
   have q1:(t == 41)=false:=by simp[h1]
   go_wp2_with fail
   refine (asked_any t w).mono ?_
   rintro e W ⟨rfl,rfl⟩
   go_wp2_with fail
   go_ret
   refine ⟨ret_bool ?_,rfl⟩
   simp[storedF,h0,h1]
   by_cases h2:t<128
   ·simp[h2];omega
   ·by_cases h3:255<t
    ·simp[h3];omega
    ·simp[h2,h3];omega
end Go.Proofs.YtjkljpdolhglcaaGreatDoor
namespace Go.Proofs.YtjkljpdolhglcaaGreatDoor
abbrev WdZ:=ByteArray × Bool
structure En where
 line:Int
 blank:Bool
 ws:List WdZ
def isB(c:UInt8):Bool:=c == 32 || c == 9 || c == 13
def endsW(c:UInt8):Bool:=isB c || c == 10 || c == 59 || c == 40 || c == 41
structure Cf where
 st:Nat
 line:Nat
 op:Nat
 cur:List UInt8
 el:Int
 bl:Bool
 ws:List WdZ
 es:List En
def addW(q:Cf)(w:WdZ):Cf:={ q with cur:=w.1.data.toList,el:=if q.ws.isEmpty then q.line else q.el,ws:=q.ws++[w] }
def keepF(q:Cf)(b:Bool):Option Cf:=if q.ws.length=64 then none else some (addW q (⟨q.cur.toArray⟩,b))
def closeF(q:Cf):Cf:={ q with es:=if q.ws.isEmpty then q.es else q.es++[⟨q.el,q.bl,q.ws⟩] }
def headB(r:List UInt8):Bool:=match r with|[]=>false|c::_=>isB c
def beginF(q:Cf)(r:List UInt8):Cf:={ q with el:=0,bl:=headB r,ws:=[] }
def outF(q:Cf)(c:UInt8)(r:List UInt8):Option Cf:=
 if c=59 then some { q with st:=6 }
 else if c=40 then some { q with st:=0,op:=q.op+1 }
 else if c=41 then (if q.op=0 then none else some { q with st:=0,op:=q.op - 1 })
 else if c=10 then (if q.op=0 then some (beginF (closeF { q with st:=0,line:=q.line+1 }) r) else some { q with st:=0,line:=q.line+1 })
 else some { q with st:=0 }
inductive Rs where
 |er (e:Nat)
 |ok (q:Cf)
def outR(q:Cf)(c:UInt8)(r:List UInt8):Rs:=match outF q c r with|none=>.er 230|some q'=>.ok q'
def firstF(q:Cf)(c:UInt8)(r:List UInt8):Rs:=
 if endsW c then outR q c r
 else if c=34 then .ok { q with st:=3,cur:=[] }
 else if c=92 then .ok { q with st:=2,cur:=[c] }
 else .ok { q with st:=1,cur:=[c] }
def nextF(q:Cf)(c:UInt8)(r:List UInt8):Rs:=
 if endsW c then (match keepF q false with|none=>.er 3|some q'=>outR q' c r)
 else if c=34 then .er 230
 else if c=92 then .ok { q with st:=2,cur:=q.cur++[c] }
 else .ok { q with st:=1,cur:=q.cur++[c] }
def quotF(q:Cf)(c:UInt8):Rs:=
 if c=34 then (match keepF q true with|none=>.er 3|some q'=>.ok { q' with st:=5 })
 else if c=92 then .ok { q with st:=4,cur:=q.cur++[c] }
 else .ok { q with st:=3,cur:=q.cur++[c] }
def stepF(q:Cf)(c:UInt8)(r:List UInt8):Rs:=
 if c=10/\(q.st=3∨q.st=2∨q.st=4) then .er 230
 else if q.st=0 then firstF q c r
 else if q.st=1 then nextF q c r
 else if q.st=2 then .ok { q with st:=1,cur:=q.cur++[c] }
 else if q.st=3 then quotF q c
 else if q.st=4 then .ok { q with st:=3,cur:=q.cur++[c] }
 else if q.st=5 then (if endsW c then outR q c r else .er 230)
 else (if c=10 then outR q c r else .ok q)
inductive Rt where
 |er (e:Nat) (line:Nat)
 |ok (es:List En)
def finF(L:Nat)(q:Cf):Rt:=
 if q.st=3∨q.st=2∨q.st=4 then .er 230 L
 else if q.st=1 then (match keepF q false with|none=>.er 3 q.line|some q'=>if 0<q'.op then .er 230 L else .ok (closeF q').es)
 else if 0<q.op then .er 230 L else .ok (closeF q).es
def goF(L:Nat):Cf->List UInt8->Rt
 |q,[]=>finF L q
 |q,c::r=>match stepF q c r with | .er e=>.er e q.line | .ok q'=>goF L q' r
def cnt10:List UInt8->Nat
 |[]=>0
 |c::r=>(if c=10 then 1 else 0)+cnt10 r
def linesF(s:List UInt8):Nat:=cnt10 s+(if s.getLast?=none∨s.getLast?=some 10 then 0 else 1)
def q0(s:List UInt8):Cf:=⟨0,1,0,[],0,headB s,[],[]⟩
def entsF(s:List UInt8):Rt:=if 65536<s.length then .er 3 0 else goF (linesF s) (q0 s) s
def wtxt(w:WdZ):List UInt8:=if w.2 then 34::(w.1.data.toList++[34]) else w.1.data.toList
def bwS:Bool->List UInt8->Bool
 |e,[]=>!e
 |true,c::r=>c != 10 && bwS false r
 |false,c::r=>if c=92 then bwS true r else !endsW c && c != 34 && bwS false r
def qwS:Bool->List UInt8->Bool
 |e,[]=>!e
 |true,c::r=>c != 10 && qwS false r
 |false,c::r=>if c=92 then qwS true r else c != 10 && c != 34 && qwS false r
def goodW(w:WdZ):Bool:=if w.2 then qwS false w.1.data.toList else !w.1.data.toList.isEmpty && bwS false w.1.data.toList
theorem ends_not{c:UInt8}(h:endsW c=false):c≠10/\c≠59/\c≠40/\c≠41/\isB c=false:=by
 simp[endsW] at h;exact ⟨h.1.1.1.2,h.1.1.2,h.1.2,h.2,h.1.1.1.1⟩
theorem outF_st(q:Cf)(k:Nat)(c:UInt8)(r:List UInt8):outF { q with st:=k } c r=outF q c r:=by
 simp only[outF,beginF,closeF]
def okE(e:En):Prop:=e.ws≠[]/\e.ws.length<=64/\∀w∈e.ws,goodW w=true
theorem bw_app(u v:List UInt8):∀e,bwS e u=true->bwS e (u++v)=bwS false v:=by
 induction u with
 |nil=>intro e h;cases e <;> simp[bwS] at h ⊢
 |cons c u ih=>
  intro e h
  cases e with
  |true=>
   simp only[bwS,Bool.and_eq_true] at h
   simp only[List.cons_append,bwS,h.1,Bool.true_and]
   exact ih _ h.2
  |false=>
   by_cases h92:c=92
   ·simp only[bwS,if_pos h92] at h
    simp only[List.cons_append,bwS,if_pos h92]
    exact ih _ h
   ·simp only[bwS,if_neg h92,Bool.and_eq_true] at h
    simp only[List.cons_append,bwS,if_neg h92,h.1.1,h.1.2,Bool.true_and]
    exact ih _ h.2
theorem qw_app(u v:List UInt8):∀e,qwS e u=true->qwS e (u++v)=qwS false v:=by
 induction u with
 |nil=>intro e h;cases e <;> simp[qwS] at h ⊢
 |cons c u ih=>
  intro e h
  cases e with
  |true=>
   simp only[qwS,Bool.and_eq_true] at h
   simp only[List.cons_append,qwS,h.1,Bool.true_and]
   exact ih _ h.2
  |false=>
   by_cases h92:c=92
   ·simp only[qwS,if_pos h92] at h
    simp only[List.cons_append,qwS,if_pos h92]
    exact ih _ h
   ·simp only[qwS,if_neg h92,Bool.and_eq_true] at h
    simp only[List.cons_append,qwS,if_neg h92,h.1.1,h.1.2,Bool.true_and]
    exact ih _ h.2
def wsum(ws:List WdZ):Nat:=(ws.map fun w=>(wtxt w).length).sum
def esum(es:List En):Nat:=(es.map fun e=>wsum e.ws).sum
theorem wsum_app(a b:List WdZ):wsum (a++b)=wsum a+wsum b:=by simp[wsum]
theorem esum_app(a b:List En):esum (a++b)=esum a+esum b:=by simp[esum]
def part(q:Cf):Nat:=if q.st=1∨q.st=2 then q.cur.length else if q.st=3∨q.st=4 then q.cur.length+1 else 0
structure Iv(q:Cf)(n:Nat):Prop where
 w1:∀w∈q.ws,goodW w=true
 w2:q.ws.length<=64
 e1:∀e∈q.es,okE e
 c1:q.st=1->bwS false q.cur=true/\q.cur≠[]
 c2:q.st=2->∃u,q.cur=u++[92]/\bwS false u=true
 c3:q.st=3->qwS false q.cur=true
 c4:q.st=4->∃u,q.cur=u++[92]/\qwS false u=true
 sz:esum q.es+wsum q.ws+part q<=n
theorem Iv.close{q:Cf}{n:Nat}(h:Iv q n):(∀e∈(closeF q).es,okE e)/\esum (closeF q).es<=esum q.es+wsum q.ws:=by
 unfold closeF
 cases hw:q.ws with
 |nil=>simp;exact h.e1
 |cons w ws=>
  simp only[List.isEmpty_cons,Bool.false_eq_true,if_false]
  refine ⟨fun e he=>?_,by rw[esum_app];simp[esum]⟩
  rcases List.mem_append.1 he with he|he
  ·exact h.e1 e he
  ·simp at he;subst he
   exact ⟨by simp,by rw[<- hw];exact h.w2,by rw[<- hw];exact h.w1⟩
theorem Iv.out{q q':Cf}{n:Nat}{c:UInt8}{r:List UInt8}(h:Iv q n)(ho:outF q c r=some q'):Iv q' (n+1):=by
 have hz:esum q.es+wsum q.ws<=n:=by have:=h.sz;omega
 have hs:∀(k o l:Nat),k=0∨k=6->Iv { q with st:=k,op:=o,line:=l } (n+1):=by
  intro k o l hk
  refine ⟨h.w1,h.w2,h.e1,?_,?_,?_,?_,?_⟩
  all_goals try (rcases hk with hk|hk <;> simp[hk])
  ·simp[part];omega
  ·simp[part];omega
 unfold outF at ho
 split at ho
 ·cases ho;exact hs 6 _ _ (.inr rfl)
 ·split at ho
  ·cases ho;exact hs 0 _ _ (.inl rfl)
  ·split at ho
   ·split at ho
    ·cases ho
    ·cases ho;exact hs 0 _ _ (.inl rfl)
   ·split at ho
    ·split at ho
     ·cases ho
      have hc:=(hs 0 q.op (q.line+1) (.inl rfl)).close
      refine ⟨by simp[beginF],by simp[beginF],hc.1,by simp[beginF,closeF],by simp[beginF,closeF],by simp[beginF,closeF],by simp[beginF,closeF],?_⟩
      have:=hc.2
      simp only[beginF]
      show esum (closeF _).es+wsum []+part _<=n+1
      simp[part,wsum,closeF] at this ⊢
      simp[wsum] at hz
      omega
     ·cases ho;exact hs 0 _ _ (.inl rfl)
    ·cases ho;exact hs 0 _ _ (.inl rfl)
theorem Iv.keep{q q':Cf}{n:Nat}{b:Bool}(h:Iv q n)(hg:goodW (⟨q.cur.toArray⟩,b)=true)(ho:keepF q b=some q')(m:Nat)(hm:esum q.es+wsum q.ws+(wtxt (⟨q.cur.toArray⟩,b)).length<=m)(k:Nat)(hk:k=0∨k=5):Iv { q' with st:=k } m:=by
 unfold keepF at ho
 split at ho
 ·cases ho
 ·rename_i hl
  cases ho
  have h2:=h.w2
  refine ⟨?_,?_,h.e1,?_,?_,?_,?_,?_⟩
  ·intro w hw
   simp only[addW] at hw
   rcases List.mem_append.1 hw with hw|hw
   ·exact h.w1 w hw
   ·simp at hw;subst hw;exact hg
  ·simp[addW];omega
  all_goals try (rcases hk with hk|hk <;> simp[hk])
  all_goals
   simp only[addW,wsum_app,part]
   simp[wsum] at hm ⊢
   omega
theorem good_bare{u:List UInt8}(h:bwS false u=true)(h0:u≠[]):goodW (⟨u.toArray⟩,false)=true:=by
 simp[goodW,h,h0]
theorem good_quot{u:List UInt8}(h:qwS false u=true):goodW (⟨u.toArray⟩,true)=true:=by
 simp[goodW,h]
theorem outR_ok{q q':Cf}{c:UInt8}{r:List UInt8}(h:outR q c r=.ok q'):outF q c r=some q':=by
 unfold outR at h;split at h
 ·cases h
 ·rename_i x hx;cases h;exact hx
theorem Iv.step{q q':Cf}{n:Nat}{c:UInt8}{r:List UInt8}(h:Iv q n)(hs:stepF q c r=.ok q'):Iv q' (n+1):=by
 have hz:=h.sz
 unfold stepF at hs
 split at hs
 ·cases hs
 ·rename_i h10
  split at hs
  ·rename_i h0
   unfold firstF at hs
   split at hs
   ·exact h.out (outR_ok hs)
   ·rename_i he
    have he':=ends_not (by simpa using he)
    split at hs
    ·cases hs
     exact ⟨h.w1,h.w2,h.e1,by simp,by simp,by simp[qwS],by simp,by simp[part,h0] at hz ⊢;omega⟩
    ·split at hs
     ·rename_i h92
      cases hs
      exact ⟨h.w1,h.w2,h.e1,by simp,fun _=>⟨[],by simp[h92],by simp[bwS]⟩,by simp,by simp,by simp[part,h0] at hz ⊢;omega⟩
     ·rename_i h34 h92
      cases hs
      exact ⟨h.w1,h.w2,h.e1,fun _=>⟨by simpa [bwS,h92,h34] using he,by simp⟩,by simp,by simp,by simp,by simp[part,h0] at hz ⊢;omega⟩
  ·split at hs
   ·rename_i h0 h1
    obtain ⟨hb,hne⟩:=h.c1 h1
    unfold nextF at hs
    split at hs
    ·split at hs
     ·cases hs
     ·rename_i q1 hk
      have hI:=h.keep (good_bare hb hne) hk n (by simp[part,h1] at hz;simp[wtxt];omega) 0 (.inl rfl)
      have:=hI.out (q':=q') (c:=c) (r:=r) (by rw[outF_st];exact outR_ok hs)
      exact this
    ·rename_i he
     split at hs
     ·cases hs
     ·rename_i h34
      split at hs
      ·rename_i h92
       cases hs
       exact ⟨h.w1,h.w2,h.e1,by simp,fun _=>⟨q.cur,by simp[h92],hb⟩,by simp,by simp,by simp[part,h1] at hz ⊢;omega⟩
      ·rename_i h92
       cases hs
       exact ⟨h.w1,h.w2,h.e1,fun _=>⟨by rw[bw_app _ _ _ hb];simpa [bwS,h92,h34] using he,by simp⟩,by simp,by simp,by simp,by simp[part,h1] at hz ⊢;omega⟩
   ·split at hs
    ·rename_i h0 h1 h2
     obtain ⟨u,hu,hb⟩:=h.c2 h2
     cases hs
     have h10':c≠10:=by intro e;exact h10 ⟨e,.inr (.inl h2)⟩
     exact ⟨h.w1,h.w2,h.e1,fun _=>⟨by rw[hu,List.append_assoc,bw_app _ _ _ hb];simp[bwS,h10'],by simp⟩,by simp,by simp,by simp,by simp[part,h2] at hz ⊢;omega⟩
    ·split at hs
     ·rename_i h0 h1 h2 h3
      have hb:=h.c3 h3
      have h10':c≠10:=by intro e;exact h10 ⟨e,.inl h3⟩
      unfold quotF at hs
      split at hs
      ·split at hs
       ·cases hs
       ·rename_i q1 hk
        cases hs
        exact h.keep (good_quot hb) hk (n+1) (by simp[part,h3] at hz;simp[wtxt];omega) 5 (.inr rfl)
      ·rename_i h34
       split at hs
       ·rename_i h92
        cases hs
        exact ⟨h.w1,h.w2,h.e1,by simp,by simp,by simp,fun _=>⟨q.cur,by simp[h92],hb⟩,by simp[part,h3] at hz ⊢;omega⟩
       ·rename_i h92
        cases hs
        exact ⟨h.w1,h.w2,h.e1,by simp,by simp,fun _=>by rw[qw_app _ _ _ hb];simp[qwS,h92,h34,h10'],by simp,by simp[part,h3] at hz ⊢;omega⟩
     ·split at hs
      ·rename_i h0 h1 h2 h3 h4
       obtain ⟨u,hu,hb⟩:=h.c4 h4
       cases hs
       have h10':c≠10:=by intro e;exact h10 ⟨e,.inr (.inr h4)⟩
       exact ⟨h.w1,h.w2,h.e1,by simp,by simp,fun _=>by rw[hu,List.append_assoc,qw_app _ _ _ hb];simp[qwS,h10'],by simp,by simp[part,h4] at hz ⊢;omega⟩
      ·split at hs
       ·split at hs
        ·exact h.out (outR_ok hs)
        ·cases hs
       ·split at hs
        ·exact h.out (outR_ok hs)
        ·rename_i h0 h1 h2 h3 h4 h5 _
         cases hs
         exact ⟨h.w1,h.w2,h.e1,h.c1,h.c2,h.c3,h.c4,by omega⟩
theorem keepF_es{q q':Cf}{b:Bool}(h:keepF q b=some q'):q'.es=q.es/\q'.op=q.op/\q'.ws=q.ws++[(⟨q.cur.toArray⟩,b)]:=by
 unfold keepF at h;split at h
 ·cases h
 ·cases h;simp[addW]
theorem Iv.fin{q:Cf}{n L:Nat}{es:List En}(h:Iv q n)(hs:finF L q=.ok es):(∀e∈es,okE e)/\esum es<=n:=by
 have hz:=h.sz
 unfold finF at hs
 split at hs
 ·cases hs
 ·split at hs
  ·rename_i h1
   obtain ⟨hb,hne⟩:=h.c1 h1
   split at hs
   ·cases hs
   ·rename_i q1 hk
    have hI:=h.keep (good_bare hb hne) hk n (by simp[part,h1] at hz;simp[wtxt];omega) 0 (.inl rfl)
    split at hs
    ·cases hs
    ·cases hs
     have hc:=hI.close
     have hsz:=hI.sz
     have e:(closeF { q1 with st:=0 }).es=(closeF q1).es:=rfl
     rw[e] at hc
     refine ⟨hc.1,?_⟩
     have:=hc.2
     simp only at this hsz
     omega
  ·split at hs
   ·cases hs
   ·cases hs
    have hc:=h.close
    exact ⟨hc.1,by have:=hc.2;omega⟩
theorem Iv.go{L:Nat}(r:List UInt8):∀{q:Cf} {n:Nat} {es:List En},Iv q n->goF L q r=.ok es->(∀e∈es,okE e)/\esum es<=n+r.length:=by
 induction r with
 |nil=>intro q n es h hs;simpa using h.fin hs
 |cons c r ih=>
  intro q n es h hs
  rw[goF] at hs
  split at hs
  ·cases hs
  ·rename_i q1 h1
   have:=ih (h.step h1) hs
   simp only[List.length_cons]
   exact ⟨this.1,by omega⟩
theorem ents_ok{s:List UInt8}{es:List En}(h:entsF s=.ok es):(∀e∈es,okE e)/\esum es<=s.length:=by
 unfold entsF at h
 split at h
 ·cases h
 ·have:=Iv.go (n:=0) s (q:=q0 s) ⟨by simp[q0],by simp[q0],by simp[q0],by simp[q0],by simp[q0],by simp[q0],by simp[q0],by simp[q0,part,esum,wsum]⟩ h
  simpa using this
theorem cnt10_app(a b:List UInt8):cnt10 (a++b)=cnt10 a+cnt10 b:=by
 induction a with
 |nil=>simp[cnt10]
 |cons c a ih=>simp[cnt10,ih];omega
theorem cnt10_last{s:List UInt8}(h:s.getLast?=some 10):1<=cnt10 s:=by
 obtain ⟨t,rfl⟩:∃t,s=t++[10]:=by
  have:=List.getLast?_eq_some_iff.1 h
  exact this
 rw[cnt10_app];simp[cnt10]
theorem lines_app(p:List UInt8)(c:UInt8)(r:List UInt8):cnt10 p+1<=linesF (p++c::r):=by
 unfold linesF
 have hl:(p++c::r).getLast?=(c::r).getLast?:=by
  rw[List.getLast?_append]
  cases hx:(c::r).getLast? with
  |none=>simp at hx
  |some v=>rfl
 rw[cnt10_app,hl]
 by_cases h:(c::r).getLast?=some 10
 ·have:=cnt10_last h;omega
 ·have h0:¬ (c::r).getLast?=none:=by simp
  rw[if_neg (by simp only[not_or];exact ⟨h0,h⟩)];omega
theorem lines_le(s:List UInt8):linesF s<=s.length+1:=by
 have:∀l:List UInt8,cnt10 l<=l.length:=by
  intro l;induction l with
  |nil=>simp[cnt10]
  |cons c l ih=>simp[cnt10];split <;> omega
 unfold linesF;have:=this s;split <;> omega
structure Lv(q:Cf)(p:List UInt8):Prop where
 ln:q.line=cnt10 p+1
 nl:p.getLast?=some 10->q.st=0
 st:p=[]->q.st=0/\q.op=0
theorem out_line{q q':Cf}{c:UInt8}{r:List UInt8}(h:outF q c r=some q'):q'.line=q.line+(if c=10 then 1 else 0)/\(c=10->q'.st=0):=by
 unfold outF at h
 split at h
 ·rename_i hc;cases h;subst hc;simp
 ·split at h
  ·rename_i hc;cases h;subst hc;simp
  ·split at h
   ·rename_i hc
    split at h
    ·cases h
    ·cases h;subst hc;simp
   ·split at h
    ·rename_i hc
     split at h
     ·cases h;subst hc;simp[beginF,closeF]
     ·cases h;subst hc;simp
    ·rename_i hc;cases h;simp[hc]
theorem keep_line{q q':Cf}{b:Bool}(h:keepF q b=some q'):q'.line=q.line:=by
 unfold keepF at h;split at h
 ·cases h
 ·cases h;rfl
theorem step_line{q q':Cf}{c:UInt8}{r:List UInt8}(hs:stepF q c r=.ok q'):q'.line=q.line+(if c=10 then 1 else 0)/\(c=10->q'.st=0):=by
 unfold stepF at hs
 split at hs
 ·cases hs
 ·rename_i h10
  split at hs
  ·unfold firstF at hs
   split at hs
   ·exact out_line (outR_ok hs)
   ·rename_i he
    have hc:=(ends_not (by simpa using he)).1
    split at hs
    ·cases hs;simp[hc]
    ·split at hs
     ·cases hs;simp[hc]
     ·cases hs;simp[hc]
  ·split at hs
   ·unfold nextF at hs
    split at hs
    ·split at hs
     ·cases hs
     ·rename_i q1 hk
      have:=out_line (outR_ok hs)
      rw[keep_line hk] at this
      exact this
    ·rename_i he
     have hc:=(ends_not (by simpa using he)).1
     split at hs
     ·cases hs
     ·split at hs
      ·cases hs;simp[hc]
      ·cases hs;simp[hc]
   ·split at hs
    ·rename_i h2
     have hc:¬ c=10:=fun e=>h10 ⟨e,.inr (.inl h2)⟩
     cases hs;simp[hc]
    ·split at hs
     ·rename_i h3
      have hc:¬ c=10:=fun e=>h10 ⟨e,.inl h3⟩
      unfold quotF at hs
      split at hs
      ·split at hs
       ·cases hs
       ·rename_i q1 hk
        cases hs;simp[hc,keep_line hk]
      ·split at hs
       ·cases hs;simp[hc]
       ·cases hs;simp[hc]
     ·split at hs
      ·rename_i h4
       have hc:¬ c=10:=fun e=>h10 ⟨e,.inr (.inr h4)⟩
       cases hs;simp[hc]
      ·split at hs
       ·split at hs
        ·exact out_line (outR_ok hs)
        ·cases hs
       ·split at hs
        ·exact out_line (outR_ok hs)
        ·rename_i hc;cases hs;simp[hc]
theorem Lv.step{q q':Cf}{p:List UInt8}{c:UInt8}{r:List UInt8}(h:Lv q p)(hs:stepF q c r=.ok q'):Lv q' (p++[c]):=by
 obtain ⟨a,b⟩:=step_line hs
 refine ⟨by rw[a,h.ln,cnt10_app];simp[cnt10];omega,fun e=>?_,by simp⟩
 simp at e;exact b e
theorem step_er{q:Cf}{c:UInt8}{r:List UInt8}{e:Nat}(hs:stepF q c r=.er e):e=230∨e=3:=by
 have ho:∀q,outR q c r=.er e->e=230:=by
  intro q h;unfold outR at h;split at h <;> cases h;rfl
 unfold stepF at hs
 split at hs
 ·cases hs;exact .inl rfl
 ·split at hs
  ·unfold firstF at hs
   split at hs
   ·exact .inl (ho _ hs)
   ·split at hs
    ·cases hs
    ·split at hs <;> cases hs
  ·split at hs
   ·unfold nextF at hs
    split at hs
    ·split at hs
     ·cases hs;exact .inr rfl
     ·exact .inl (ho _ hs)
    ·split at hs
     ·cases hs;exact .inl rfl
     ·split at hs <;> cases hs
   ·split at hs
    ·cases hs
    ·split at hs
     ·unfold quotF at hs
      split at hs
      ·split at hs
       ·cases hs;exact .inr rfl
       ·cases hs
      ·split at hs <;> cases hs
     ·split at hs
      ·cases hs
      ·split at hs
       ·split at hs
        ·exact .inl (ho _ hs)
        ·cases hs;exact .inl rfl
       ·split at hs
        ·exact .inl (ho _ hs)
        ·cases hs
theorem go_er(s:List UInt8)(r:List UInt8):∀{q:Cf} {p:List UInt8} {e l:Nat},Lv q p->s=p++r->goF (linesF s) q r=.er e l->(e=230∨e=3)/\1<=l/\l<=linesF s:=by
 induction r with
 |nil=>
  intro q p e l h hs hg
  rw[List.append_nil] at hs;subst hs
  have hne:∀(hx:s≠[]),1<=linesF s:=by
   intro hx
   cases s with
   |nil=>exact absurd rfl hx
   |cons c r=>have:=lines_app [] c r;simpa [cnt10] using this
  rw[goF] at hg
  unfold finF at hg
  split at hg
  ·rename_i hq
   cases hg
   exact ⟨.inl rfl,hne (fun e=>by have:=(h.st e).1;omega),Nat.le_refl _⟩
  ·split at hg
   ·rename_i h1
    have hx:s≠[]:=fun e=>by have:=(h.st e).1;omega
    split at hg
    ·cases hg
     refine ⟨.inr rfl,by rw[h.ln];omega,?_⟩
     rw[h.ln]
     unfold linesF
     rw[if_neg]
     ·omega
     ·simp only[not_or]
      exact ⟨by simpa using hx,fun e=>by have:=h.nl e;omega⟩
    ·split at hg
     ·cases hg;exact ⟨.inl rfl,hne hx,Nat.le_refl _⟩
     ·cases hg
   ·split at hg
    ·rename_i h0
     cases hg
     exact ⟨.inl rfl,hne (fun e=>by have:=(h.st e).2;omega),Nat.le_refl _⟩
    ·cases hg
 |cons c r ih=>
  intro q p e l h hs hg
  rw[goF] at hg
  split at hg
  ·rename_i e1 h1
   cases hg
   have:=lines_app p c r
   rw[<- hs] at this
   rw[h.ln]
   exact ⟨step_er h1,by omega,this⟩
  ·rename_i q1 h1
   exact ih (h.step h1) (by rw[hs];simp) hg
theorem ents_er{s:List UInt8}{e l:Nat}(hl:s.length<=65536)(h:entsF s=.er e l):(e=230∨e=3)/\1<=l/\l<=linesF s:=by
 unfold entsF at h
 rw[if_neg (by omega)] at h
 exact go_er s s (q:=q0 s) (p:=[]) ⟨by simp[q0,cnt10],by simp,by simp[q0]⟩ (by simp) h
end Go.Proofs.YtjkljpdolhglcaaGreatDoor
namespace Go.Proofs.YtjkljpdolhglcaaGreatDoor
open Go.ChangeShapes Go.WideShapes Go.ChangeAt Go.RowKit
theorem ad_add(g j:Nat):(⟨g,0,none⟩:Addr).add j=⟨g,j,none⟩:=by unfold Addr.add;split <;> simp_all
theorem ad_add0(g j:Nat):(⟨g,0,none⟩:Addr).add j=⟨g,0+j,none⟩:=by rw[ad_add];simp
theorem row_stays{B e k n:Nat}{v:Value}{xs:List Value}{w w':World}(h:w.ownsRow B e k v n xs)(hb:∀g,v.ownBlock=some g->w'.heap[g]?=w.heap[g]?):w'.ownsRow B e k v n xs:=by
 refine ⟨h.1,?_⟩
 rcases h.2 with hn|⟨g,cap,cur,rfl,h1,h2,rest⟩
 ·exact .inl hn
 ·exact .inr ⟨g,cap,cur,rfl,h1,by rw[hb g rfl];exact h2,rest⟩
theorem row_type{B e k n:Nat}{v:Value}{xs:List Value}{w:World}(h:w.ownsRow B e k v n xs)(g:Nat)(hg:v.ownBlock=some g):∃cur,w.heap[g]?=some (.cells cur e (0,0)):=by
 rcases h.2 with ⟨rfl,_⟩|⟨g',cap,cur,rfl,h1,h2,rest⟩
 ·simp[Value.ownBlock] at hg
 ·simp[Value.ownBlock] at hg;subst hg;exact ⟨cur,h2⟩
def cellsWZ(ws:List WdZ):List Value:=ws.flatMap fun p=>[.string p.1,.bool p.2]
theorem cellsW_at(ws:List WdZ)(k:Nat)(h:k<ws.length):(cellsWZ ws)[k*2]?=some (.string ws[k].1)/\(cellsWZ ws)[k*2+1]?=some (.bool ws[k].2):=by
 induction ws generalizing k with
 |nil=>simp at h
 |cons p ws ih=>
  cases k with
  |zero=>simp[cellsWZ,List.flatMap_cons]
  |succ k=>
   have:=ih k (by simpa using h)
   rw[show (k+1)*2=k*2+1+1 by omega]
   simpa [cellsWZ,List.flatMap_cons] using this
theorem cellsW_app(a b:List WdZ):cellsWZ (a++b)=cellsWZ a++cellsWZ b:=by simp[cellsWZ]
theorem cellsW_one(ws:List WdZ):∀u∈cellsWZ ws,u.oneCell'=true:=by
 intro u hu
 simp only[cellsWZ,List.mem_flatMap] at hu
 obtain ⟨p,_,hu⟩:=hu
 simp at hu
 rcases hu with rfl|rfl <;> rfl
def RdWZ(w:World)(a:Option Addr)(ws:List WdZ):Prop:=
 ws=[]∨∃b o,a=some ⟨b,o,none⟩/\b<w.heap.size/\∀i (h:i<ws.length),w.cell? ⟨b,o+i*2,none⟩=some (.string ws[i].1)/\w.cell? ⟨b,o+i*2+1,none⟩=some (.bool ws[i].2)
theorem RdWZ.below{w w':World}{a:Option Addr}{ws:List WdZ}(h:RdWZ w a ws)(hb:Below w.heap.size w w'):RdWZ w' a ws:=by
 rcases h with h|⟨b,o,h1,h2,h3⟩
 ·exact .inl h
 ·exact .inr ⟨b,o,h1,Nat.lt_of_lt_of_le h2 hb.size,fun i hi=>⟨(hb.cell (p:=⟨b,o+i*2,none⟩) h2).trans (h3 i hi).1,(hb.cell (p:=⟨b,o+i*2+1,none⟩) h2).trans (h3 i hi).2⟩⟩
def WRd(w:World)(x:Sl)(ws:List WdZ):Prop:=x.n=ws.length/\ws.length<=x.c/\x.c<=9223372036854775807/\RdWZ w x.a ws
theorem WRd.below{w w':World}{x:Sl}{ws:List WdZ}(h:WRd w x ws)(hb:Below w.heap.size w w'):WRd w' x ws:=⟨h.1,h.2.1,h.2.2.1,h.2.2.2.below hb⟩
theorem row_wrd{B:Nat}{w:World}{v:Value}{ws:List WdZ}(h:w.ownsRow B 77 2 v ws.length (cellsWZ ws)):∃x:Sl,v=.slice x.a x.n x.c/\WRd w x ws:=by
 rcases h.2 with ⟨rfl,h0⟩|⟨g,cap,cur,rfl,hb,hg,h1,h2,h3,h4⟩
 ·have:ws=[]:=List.length_eq_zero_iff.1 h0
  subst this
  exact ⟨⟨none,0,0⟩,rfl,rfl,by simp,by simp,.inl rfl⟩
 ·refine ⟨⟨_,ws.length,cap⟩,rfl,rfl,h1,by simpa only[maxLen] using h2,.inr ⟨g,0,rfl,(Array.getElem?_eq_some_iff.1 hg).1,fun i hi=>?_⟩⟩
  obtain ⟨c1,c2⟩:=cellsW_at ws i hi
  have k1:=h.cells (g:=g) rfl _ _ c1
  have k2:=h.cells (g:=g) rfl _ _ c2
  rw[ad_add0] at k1 k2
  exact ⟨k1,k2⟩
theorem inf27:∃i,Tryz.prog.info? 77=some i/\i.zero=some (.agg #[.string ⟨#[]⟩,.bool false])/\i.size=2/\i.bytes=24:=by
 have h:(Tryz.prog.info? 77).map (fun i=>(i.zero,i.size,i.bytes))=some (some (.agg #[.string ⟨#[]⟩,.bool false]),2,24):=by kernel_rfl
 obtain ⟨i,h1,h2⟩:=Option.map_eq_some_iff.1 h
 simp only[Prod.mk.injEq] at h2
 exact ⟨i,h1,h2.1,h2.2.1,h2.2.2⟩
theorem inf25:∃i,Tryz.prog.info? 75=some i/\i.zero=some (.agg #[.int .i64 0,.bool false,.slice none 0 0])/\i.size=3/\i.bytes=40:=by
 have h:(Tryz.prog.info? 75).map (fun i=>(i.zero,i.size,i.bytes))=some (some (.agg #[.int .i64 0,.bool false,.slice none 0 0]),3,40):=by kernel_rfl
 obtain ⟨i,h1,h2⟩:=Option.map_eq_some_iff.1 h
 simp only[Prod.mk.injEq] at h2
 exact ⟨i,h1,h2.1,h2.2.1,h2.2.2⟩
theorem one_termw(w:World)(s:ByteArray)(q:Bool):∀j u,(cellsWZ [(s,q)])[j]?=some u->(w.alloc (.cells #[.string s,.bool q] 77)).cell? ((⟨w.heap.size,0,none⟩:Addr).add j)=some u:=by
 intro j u hu
 rw[ad_add]
 unfold World.cell?
 rw[heap_alloc_new]
 match j,hu with
 |0,hu=>simpa [cellsWZ] using hu
 |1,hu=>simpa [cellsWZ] using hu
 |j+2,hu=>simp[cellsWZ] at hu
def eCells(x:Sl)(e:En):List Value:=[.int .i64 e.line,.bool e.blank,.slice x.a x.n x.c]
def cellsE(ps:List (Sl × En)):List Value:=ps.flatMap fun p=>eCells p.1 p.2
theorem cellsE_at(ps:List (Sl × En))(k:Nat)(h:k<ps.length)(j:Nat)(hj:j<3):(cellsE ps)[k*3+j]?=(eCells ps[k].1 ps[k].2)[j]?:=by
 induction ps generalizing k with
 |nil=>simp at h
 |cons p ws ih=>
  have hc:cellsE (p::ws)=eCells p.1 p.2++cellsE ws:=by simp[cellsE]
  have h8:(eCells p.1 p.2).length=3:=rfl
  rw[hc]
  cases k with
  |zero=>rw[List.getElem?_append_left (by rw[h8];omega)];simp
  |succ k=>
   have:=ih k (by simpa using h)
   rw[List.getElem?_append_right (by rw[h8];omega),h8,show (k+1)*3+j - 3=k*3+j by omega,this]
   simp
theorem cellsE_app(a b:List (Sl × En)):cellsE (a++b)=cellsE a++cellsE b:=by simp[cellsE]
theorem cellsE_one(xs:List (Sl × En)):∀u∈cellsE xs,u.oneCell'=true:=by
 intro u hu
 simp only[cellsE,List.mem_flatMap] at hu
 obtain ⟨p,_,hu⟩:=hu
 simp[eCells] at hu
 rcases hu with rfl|rfl|rfl <;> rfl
def RdE(w:World)(a:Option Addr)(es:List En):Prop:=
 es=[]∨∃b o,a=some ⟨b,o,none⟩/\b<w.heap.size/\∀i (h:i<es.length),∃x:Sl,w.cell? ⟨b,o+i*3,none⟩=some (.int .i64 es[i].line)/\w.cell? ⟨b,o+i*3+1,none⟩=some (.bool es[i].blank)/\w.cell? ⟨b,o+i*3+2,none⟩=some (.slice x.a x.n x.c)/\WRd w x es[i].ws
theorem RdE.below{w w':World}{a:Option Addr}{es:List En}(h:RdE w a es)(hb:Below w.heap.size w w'):RdE w' a es:=by
 rcases h with h|⟨b,o,h1,h2,h3⟩
 ·exact .inl h
 ·refine .inr ⟨b,o,h1,Nat.lt_of_lt_of_le h2 hb.size,fun i hi=>?_⟩
  obtain ⟨x,e1,e2,e3,e4⟩:=h3 i hi
  exact ⟨x,(hb.cell (p:=⟨b,o+i*3,none⟩) h2).trans e1,(hb.cell (p:=⟨b,o+i*3+1,none⟩) h2).trans e2,(hb.cell (p:=⟨b,o+i*3+2,none⟩) h2).trans e3,e4.below hb⟩
def lst(w:World)(j:Nat):Prop:=∃cur t,w.heap[j]?=some (.cells cur t (0,0))/\(t=75∨t=77)
theorem lst.lt{w:World}{j:Nat}(h:lst w j):j<w.heap.size:=by obtain ⟨_,_,h,_⟩:=h;exact (Array.getElem?_eq_some_iff.1 h).1
def RfE(B:Nat)(w:World)(x:Sl)(ws:List WdZ):Prop:=
 ∀w':World,w.heap.size<=w'.heap.size->(∀j,B<=j->(∃cur,w.heap[j]?=some (.cells cur 77 (0,0)))->w'.heap[j]?=w.heap[j]?)->WRd w' x ws
theorem RfE.of{B:Nat}{w:World}{v:Value}{ws:List WdZ}(h:w.ownsRow B 77 2 v ws.length (cellsWZ ws)):∃x:Sl,v=.slice x.a x.n x.c/\RfE B w x ws:=by
 obtain ⟨x,hx,_⟩:=row_wrd h
 refine ⟨x,hx,fun w' hs hb=>?_⟩
 have h':w'.ownsRow B 77 2 v ws.length (cellsWZ ws):=row_stays h (fun g hg=>hb g (h.lt g hg).1 (row_type h g hg))
 obtain ⟨y,hy,h2⟩:=row_wrd h'
 rw[hx] at hy
 cases x;cases y
 simp only[Value.slice.injEq] at hy
 obtain ⟨rfl,rfl,rfl⟩:=hy
 exact h2
theorem RfE.go{B:Nat}{w w':World}{x:Sl}{ws:List WdZ}(h:RfE B w x ws)(hs:w.heap.size<=w'.heap.size)(hb:∀j,B<=j->(∃cur,w.heap[j]?=some (.cells cur 77 (0,0)))->w'.heap[j]?=w.heap[j]?):RfE B w' x ws:=by
 intro w2 hs2 hb2
 refine h w2 (Nat.le_trans hs hs2) (fun j h1 h2=>?_)
 have e:=hb j h1 h2
 obtain ⟨cur,hc⟩:=h2
 exact (hb2 j h1 ⟨cur,e.trans hc⟩).trans e
def OwE(B:Nat)(w:World)(v:Value)(es:List En):Prop:=
 ∃ps:List (Sl × En),ps.map (·.2)=es/\w.ownsRow B 75 3 v ps.length (cellsE ps)/\∀p∈ps,RfE B w p.1 p.2.ws
theorem OwE.nil(B:Nat)(w:World):OwE B w (.slice none 0 0) []:=⟨[],rfl,⟨rfl,.inl ⟨rfl,rfl⟩⟩,by simp⟩
theorem OwE.go{B:Nat}{w w':World}{v:Value}{es:List En}(h:OwE B w v es)(hs:w.heap.size<=w'.heap.size)(hb:∀j,B<=j->lst w j->w'.heap[j]?=w.heap[j]?):OwE B w' v es:=by
 obtain ⟨ps,h1,h2,h3⟩:=h
 refine ⟨ps,h1,row_stays h2 (fun g hg=>?_),fun p hp=>(h3 p hp).go hs (fun j hj ⟨cur,hc⟩=>hb j hj ⟨cur,77,hc,.inr rfl⟩)⟩
 obtain ⟨cur,hc⟩:=row_type h2 g hg
 exact hb g (h2.lt g hg).1 ⟨cur,75,hc,.inl rfl⟩
theorem OwE.stays{B:Nat}{w w':World}{v:Value}{es:List En}(h:OwE B w v es)(hb:Below w.heap.size w w'):OwE B w' v es:=
 h.go hb.size (fun j _ hj=>hb.block j hj.lt)
theorem OwE.rd{B:Nat}{w:World}{v:Value}{es:List En}(h:OwE B w v es):∃a c,v=.slice a es.length c/\RdE w a es/\es.length<=c/\c<=9223372036854775807:=by
 obtain ⟨ps,rfl,h2,h3⟩:=h
 have hpl:(ps.map (·.2)).length=ps.length:=by simp
 rw[hpl]
 rcases h2.2 with ⟨rfl,h0⟩|⟨g,cap,cur,rfl,hb,hg,k1,k2,k3,k4⟩
 ·have:ps=[]:=List.length_eq_zero_iff.1 h0
  subst this
  exact ⟨none,0,rfl,.inl rfl,by simp,by omega⟩
 ·refine ⟨_,cap,rfl,.inr ⟨g,0,rfl,(Array.getElem?_eq_some_iff.1 hg).1,fun i hi=>?_⟩,k1,by simpa only[maxLen] using k2⟩
  have hi':i<ps.length:=by simpa using hi
  have hgi:(ps.map (·.2))[i]=ps[i].2:=by simp
  have cc:∀j (hj:j<3),w.cell? ⟨g,0+(i*3+j),none⟩=(eCells ps[i].1 ps[i].2)[j]?:=fun j hj=>by
   have e1:=cellsE_at ps i hi' j hj
   have hlt:j<(eCells ps[i].1 ps[i].2).length:=hj
   rw[List.getElem?_eq_getElem hlt] at e1 ⊢
   have:=h2.cells (g:=g) rfl _ _ e1
   rw[ad_add0] at this
   exact this
  rw[hgi]
  exact ⟨ps[i].1,cc 0 (by omega),by simpa [Nat.add_assoc,eCells] using cc 1 (by omega),by simpa [Nat.add_assoc,eCells] using cc 2 (by omega),h3 ps[i] (List.getElem_mem _) w (Nat.le_refl _) (fun _ _ _=>rfl)⟩
theorem one_en(w:World)(x:Sl)(e:En):∀j u,(cellsE [(x,e)])[j]?=some u->(w.alloc (.cells #[.int .i64 e.line,.bool e.blank,.slice x.a x.n x.c] 75)).cell? ((⟨w.heap.size,0,none⟩:Addr).add j)=some u:=by
 intro j u hu
 rw[ad_add]
 unfold World.cell?
 rw[heap_alloc_new]
 have:cellsE [(x,e)]=[.int .i64 e.line,.bool e.blank,.slice x.a x.n x.c]:=by simp[cellsE,eCells]
 rw[this] at hu
 simpa using hu
theorem OwE.push{B:Nat}{w w3 w4:World}{v v':Value}{ps:List (Sl × En)}{x:Sl}{e:En}(h3:∀p∈ps,RfE B w p.1 p.2.ws)(hx:RfE B w x e.ws)(hl:w.ownsRow B 75 3 v ps.length (cellsE ps))(hb3:Below w.heap.size w w3)(h5:w4.ownsRow B 75 3 v' (ps.length+1) (cellsE ps++cellsE [(x,e)]))(h6:w3.grownBy w4 v.ownBlock):OwE B w4 v' (ps.map (·.2)++[e]):=by
 have hk:∀j,B<=j->(∃cur,w.heap[j]?=some (.cells cur 77 (0,0)))->w4.heap[j]?=w.heap[j]?:=by
  intro j hj ⟨cur,hc⟩
  have hlt:j<w.heap.size:=(Array.getElem?_eq_some_iff.1 hc).1
  rw[h6.block j (Nat.lt_of_lt_of_le hlt hb3.size) (fun e=>?_),hb3.block j hlt]
  obtain ⟨c2,hc2⟩:=row_type hl j e.symm
  rw[hc] at hc2;cases hc2
 have hs:w.heap.size<=w4.heap.size:=Nat.le_trans hb3.size h6.size
 refine ⟨ps++[(x,e)],by simp,?_,fun p hp=>?_⟩
 ·rw[cellsE_app,List.length_append];exact h5
 ·rcases List.mem_append.1 hp with hp|hp
  ·exact (h3 p hp).go hs hk
  ·rw[List.mem_singleton] at hp;subst hp;exact hx.go hs hk
end Go.Proofs.YtjkljpdolhglcaaGreatDoor
