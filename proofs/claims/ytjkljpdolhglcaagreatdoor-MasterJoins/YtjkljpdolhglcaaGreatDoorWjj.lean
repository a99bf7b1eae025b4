/- Texts laid together, in parts: Mg Mh Mi Mj Mk Ml Rk Mm. -/
import Derived.Test.YtjkljpdolhglcaaGreatDoorWji
import Derived.Maps.OwnSet
import Derived.Carry
set_option maxRecDepth 100000
set_option maxHeartbeats 8000000
set_option linter.unusedVariables false
set_option linter.unusedSimpArgs false
namespace Go.Proofs.YtjkljpdolhglcaaGreatDoor
open Go.ChangeShapes Go.WideShapes Go.ChangeAt Go.RowKit
structure CA where
 g:Sl
 o:Sl
abbrev caV(a:CA)(c:Cy):Value:=.agg #[.slice a.g.a a.g.n a.g.c,.slice a.o.a a.o.n a.o.c,.int .u16 (c.cl:Int),.int .u32 (c.df:Int),.int .u32 (c.tt:Int),.bool c.ho,.bool c.hc,.bool c.ht,.bool c.sd]
structure CRd(w:World)(a:CA)(c:Cy):Prop where
 g:Nm w a.g.a a.g.n c.og
 o:Nm w a.o.a a.o.n c.ow
 k:nck c.og=0
theorem CRd.below{w w':World}{a:CA}{c:Cy}(h:CRd w a c)(hb:Below w.heap.size w w'):CRd w' a c:=⟨h.g.below hb,h.o.below hb,h.k⟩
theorem class_any(y:Say)(a:CA)(c:Cy)(w:World):Calls Tryz.prog 91 #[syV y,caV a c] w fun e w'=>e=.returned (.int .u16 (csF y c:Int))/\Hid (Below w.heap.size w w'):=by
 obtain ⟨k,y1,t,hk,hc,ht⟩:=y
 obtain ⟨⟨ga,gn,gc⟩,⟨oa,on,oc⟩⟩:=a
 obtain ⟨og,ow,cl,df,tt,ho,hc',ht',sd⟩:=c
 have HB:Hid (Below w.heap.size w ((w.alloc (.cells #[.int .u16 (k:Int),.int .u16 (y1:Int),.int .u32 (t:Int),.bool hk,.bool hc,.bool ht] 143)).alloc (.cells #[.slice ga gn gc,.slice oa on oc,.int .u16 (cl:Int),.int .u32 (df:Int),.int .u32 (tt:Int),.bool ho,.bool hc',.bool ht',.bool sd] 63))):=
  (new_below _ _).trans ((new_below _ _).mono (by simp))
 cases hc with
 |true=>
  have HC:Hid (csF ⟨k,y1,t,hk,true,ht⟩ ⟨og,ow,cl,df,tt,ho,hc',ht',sd⟩=y1):=rfl
  rw[HC.out]
  go_enter Tryz.func91,Tryz.ntmps91
  go_wp2_with fail
  go_ret
  exact ⟨rfl,HB.out⟩
 |false=>
  cases hc' with
  |true=>
   have HC:Hid (csF ⟨k,y1,t,hk,false,ht⟩ ⟨og,ow,cl,df,tt,ho,true,ht',sd⟩=cl):=rfl
   rw[HC.out]
   go_enter Tryz.func91,Tryz.ntmps91
   go_wp2_with fail
   go_ret
   exact ⟨rfl,HB.out⟩
  |false=>
   have HC:Hid (csF ⟨k,y1,t,hk,false,ht⟩ ⟨og,ow,cl,df,tt,ho,false,ht',sd⟩=1):=rfl
   rw[HC.out]
   go_enter Tryz.func91,Tryz.ntmps91
   go_wp2_with fail
   go_ret
   exact ⟨rfl,HB.out⟩
def TmP(o:Option (Nat × Cy))(a:CA)(w:World)(e:Ending)(w':World):Prop:=
 ∃(n:Nat) (c':Cy) (er:Int),e=.returned (.tuple #[.int .u32 (n:Int),caV a c',.int .i64 er])/\Hid (Below w.heap.size w w')/\Hid ((er=0/\o=some (n,c'))∨(er=9/\o=none))
theorem time_any(y:Say)(x:DA)(d:Dat)(a:CA)(c:Cy)(w:World)(hd:DRd w x d)(h5:y.k=6->d.us.length=5):Calls Tryz.prog 90 #[syV y,DA.val x,caV a c] w (TmP (tmF y d c) a w):=by
 obtain ⟨k,y1,t,hk,hc,ht⟩:=y
 obtain ⟨⟨ga,gn,gc⟩,⟨oa,on,oc⟩⟩:=a
 obtain ⟨og,ow,cl,df,tt,ho,hc',ht',sd⟩:=c
 have HU:Hid (URd w x.p2 d.us):=hd.h2
 obtain ⟨⟨d1,d2,d3⟩,⟨d4,d5,d6⟩,⟨d7,d8,d9⟩,⟨e1,e2,e3⟩⟩:=x
 clear hd
 simp only at h5
 have HB:Hid (∀o1 o2 o3 o4:Obj,Below w.heap.size w ((((w.alloc o1).alloc o2).alloc o3).alloc o4).drew):=fun o1 o2 o3 o4=>
  (((new_below w o1).trans ((new_below _ o2).mono (by simp))).trans (((new_below _ o3).mono (by simp;omega)).trans ((new_below _ o4).mono (by simp;omega)))).drew
 have HB0:Hid (∀o1 o2 o3 o4:Obj,Below w.heap.size w ((((w.alloc o1).alloc o2).alloc o3).alloc o4)):=fun o1 o2 o3 o4=>
  (((new_below w o1).trans ((new_below _ o2).mono (by simp))).trans (((new_below _ o3).mono (by simp;omega)).trans ((new_below _ o4).mono (by simp;omega))))
 cases ht with
 |true=>
  have HR:Hid (tmF ⟨k,y1,t,hk,hc,true⟩ d ⟨og,ow,cl,df,tt,ho,hc',ht',sd⟩=some (t,⟨og,ow,cl,df,t,ho,hc',true,sd⟩)):=rfl
  rw[HR.out]
  clear h5 HU
  go_enter Tryz.func90,Tryz.ntmps90
  go_wp2_with fail
  go_region_law (fail)
  all_goals
   go_wp2_with fail
   exact bodyPost_ret (v:=.tuple #[.int .u32 (t:Int),.agg #[.slice ga gn gc,.slice oa on oc,.int .u16 (cl:Int),.int .u32 (df:Int),.int .u32 (t:Int),.bool ho,.bool hc',.bool true,.bool sd],.int .i64 0]) (by simp[results,Tryz.results90,go_sem]) rfl ⟨t,⟨og,ow,cl,df,t,ho,hc',true,sd⟩,0,rfl,HB.out _ _ _ _,.inl ⟨rfl,rfl⟩⟩
 |false=>
  cases sd with
  |true=>
   have HR:Hid (tmF ⟨k,y1,t,hk,hc,false⟩ d ⟨og,ow,cl,df,tt,ho,hc',ht',true⟩=some (df,⟨og,ow,cl,df,tt,ho,hc',ht',true⟩)):=rfl
   rw[HR.out]
   clear h5 HU
   go_enter Tryz.func90,Tryz.ntmps90
   go_wp2_with fail
   go_region_law (fail)
   all_goals
    go_wp2_with fail
    exact bodyPost_ret (v:=.tuple #[.int .u32 (df:Int),.agg #[.slice ga gn gc,.slice oa on oc,.int .u16 (cl:Int),.int .u32 (df:Int),.int .u32 (tt:Int),.bool ho,.bool hc',.bool ht',.bool true],.int .i64 0]) (by simp[results,Tryz.results90,go_sem]) rfl ⟨df,⟨og,ow,cl,df,tt,ho,hc',ht',true⟩,0,rfl,HB.out _ _ _ _,.inl ⟨rfl,rfl⟩⟩
  |false=>
   cases ht' with
   |true=>
    have HR:Hid (tmF ⟨k,y1,t,hk,hc,false⟩ d ⟨og,ow,cl,df,tt,ho,hc',true,false⟩=some (tt,⟨og,ow,cl,df,tt,ho,hc',true,false⟩)):=rfl
    rw[HR.out]
    clear h5 HU
    go_enter Tryz.func90,Tryz.ntmps90
    go_wp2_with fail
    go_region_law (fail)
    all_goals
     go_wp2_with fail
     exact bodyPost_ret (v:=.tuple #[.int .u32 (tt:Int),.agg #[.slice ga gn gc,.slice oa on oc,.int .u16 (cl:Int),.int .u32 (df:Int),.int .u32 (tt:Int),.bool ho,.bool hc',.bool true,.bool false],.int .i64 0]) (by simp[results,Tryz.results90,go_sem]) rfl ⟨tt,⟨og,ow,cl,df,tt,ho,hc',true,false⟩,0,rfl,HB.out _ _ _ _,.inl ⟨rfl,rfl⟩⟩
   |false=>
    by_cases hk6:k=6
    ·subst hk6
     have hl:=h5 rfl
     obtain ⟨b,o,ha,hb,hcell⟩:=HU.out.at 4 (by omega)
     simp only at ha
     subst ha
     have hn5:d5=5:=by have:=HU.out.len;simp only at this;omega
     subst hn5
     have hbd:d.us[4]<=4294967295:=HU.out.bd _ (List.getElem_mem _)
     have hgd:d.us.getD 4 0=d.us[4]:=by simp[List.getD,hl]
     have HR:Hid (tmF ⟨6,y1,t,hk,hc,false⟩ d ⟨og,ow,cl,df,tt,ho,hc',false,false⟩=if d.us[4]<2147483648 then some (d.us[4],⟨og,ow,cl,df,d.us[4],ho,hc',true,false⟩) else none):=by
      show _=_
      rw[<- hgd]
      show (if 6=6/\d.us.getD 4 0<2147483648 then _ else _)=_
      simp
     rw[HR.out]
     clear h5 hgd HR HU
     generalize d.us[4]=m at*
     clear hl
     have hu:IntKind.u64.wrap (m:Int)=(m:Int):=by rw[IntKind.wrap_u64];omega
     have hne0:¬ b=w.heap.size:=by omega
     have hne1:¬ b=w.heap.size+1:=by omega
     have hne2:¬ b=w.heap.size+1+1:=by omega
     have hne3:¬ b=w.heap.size+1+1+1:=by omega
     have gne0:¬ w.heap.size=b:=by omega
     have gne1:¬ w.heap.size+1=b:=by omega
     have gne2:¬ w.heap.size+1+1=b:=by omega
     have gne3:¬ w.heap.size+1+1+1=b:=by omega
     have q:=(HB0.out (.cells #[.int .u16 6,.int .u16 (y1:Int),.int .u32 (t:Int),.bool hk,.bool hc,.bool false] 143) (.cells #[.slice d1 d2 d3,.slice (some ⟨b,o,none⟩) 5 d6,.slice d7 d8 d9,.slice e1 e2 e3] 48) (.cells #[.slice ga gn gc,.slice oa on oc,.int .u16 (cl:Int),.int .u32 (df:Int),.int .u32 (tt:Int),.bool ho,.bool hc',.bool false,.bool false] 63) (.cells #[.slice none 0 0,.slice none 0 0,.int .u16 0,.int .u32 0,.int .u32 0,.bool false,.bool false,.bool false,.bool false] 63)).cell (p:=⟨b,o+4,none⟩) hb
     rw[hcell] at q
     have KF:=Lib.hid (fun W=>fits_any m (by omega) W)
     by_cases hf:m<2147483648
     ·rw[if_pos hf]
      rw[decide_eq_true hf] at KF
      go_enter Tryz.func90,Tryz.ntmps90
      go_wp2_with fail
      refine (KF.out _).mono ?_
      rintro e w1 ⟨rfl,rfl⟩
      go_wp2_with fail
      go_region_law (fail)
      all_goals
       go_wp2_with fail
       exact bodyPost_ret (v:=.tuple #[.int .u32 (m:Int),.agg #[.slice ga gn gc,.slice oa on oc,.int .u16 (cl:Int),.int .u32 (df:Int),.int .u32 (m:Int),.bool ho,.bool hc',.bool true,.bool false],.int .i64 0]) (by simp[results,Tryz.results90,go_sem]) rfl ⟨m,⟨og,ow,cl,df,m,ho,hc',true,false⟩,0,rfl,HB.out _ _ _ _,.inl ⟨rfl,rfl⟩⟩
     ·rw[if_neg hf]
      rw[decide_eq_false hf] at KF
      go_enter Tryz.func90,Tryz.ntmps90
      go_wp2_with fail
      refine (KF.out _).mono ?_
      rintro e w1 ⟨rfl,rfl⟩
      go_wp2_with fail
      go_region_law (fail)
      all_goals
       go_wp2_with fail
       exact bodyPost_ret (v:=.tuple #[.int .u32 (0:Int),.agg #[.slice ga gn gc,.slice oa on oc,.int .u16 (cl:Int),.int .u32 (df:Int),.int .u32 (tt:Int),.bool ho,.bool hc',.bool false,.bool false],.int .i64 9]) (by simp[results,Tryz.results90,go_sem]) rfl ⟨0,⟨og,ow,cl,df,tt,ho,hc',false,false⟩,9,rfl,HB.out _ _ _ _,.inr ⟨rfl,rfl⟩⟩
    ·have hk6':¬ (k:Int)=6:=by omega
     have hk6'':((k:Int) == 6)=false:=by simpa using hk6'
     have HR:Hid (tmF ⟨k,y1,t,hk,hc,false⟩ d ⟨og,ow,cl,df,tt,ho,hc',false,false⟩=none):=by
      show (if k=6/\d.us.getD 4 0<2147483648 then _ else _)=_
      rw[if_neg (fun h=>hk6 h.1)]
     rw[HR.out]
     clear h5 HU
     go_enter Tryz.func90,Tryz.ntmps90
     go_wp2_with fail
     go_region_law (fail)
     all_goals
      go_wp2_with fail
      exact bodyPost_ret (v:=.tuple #[.int .u32 (0:Int),.agg #[.slice ga gn gc,.slice oa on oc,.int .u16 (cl:Int),.int .u32 (df:Int),.int .u32 (tt:Int),.bool ho,.bool hc',.bool false,.bool false],.int .i64 9]) (by simp[results,Tryz.results90,go_sem]) rfl ⟨0,⟨og,ow,cl,df,tt,ho,hc',false,false⟩,9,rfl,HB.out _ _ _ _,.inr ⟨rfl,rfl⟩⟩
def OwP(r:List ByteArray × List Wd × Int)(w:World)(e:Ending)(w':World):Prop:=
 ∃(v:Value) (ys:List ByteArray) (x:Sl),e=.returned (.tuple #[v,.slice x.a x.n x.c,.int .i64 r.2.2])/\Hid (Below w.heap.size w w'/\OwnT w.heap.size w' v r.1.length ys 1000000000000/\ys.take r.1.length=r.1)/\Hid (r.2.2=0->Ws w' x r.2.1)
theorem own_fin{w X W2:World}{v:Value}{ss ys:List ByteArray}{M:Nat}(hX:Below w.heap.size w X)(H:OwnT X.heap.size W2 v ss.length ys M/\ys.take ss.length=ss/\Below X.heap.size X W2):Below w.heap.size w W2/\OwnT w.heap.size W2 v ss.length ys M/\ys.take ss.length=ss:=⟨hX.trans (H.2.2.mono hX.size),H.1.mono hX.size,H.2.1⟩
theorem own_drew{w W2:World}{v:Value}{ss ys:List ByteArray}{M:Nat}(H:Below w.heap.size w W2/\OwnT w.heap.size W2 v ss.length ys M/\ys.take ss.length=ss):Below w.heap.size w W2.drew/\OwnT w.heap.size W2.drew v ss.length ys M/\ys.take ss.length=ss:=⟨H.1.drew,H.2.1.below (Below.refl _ _).drew,H.2.2⟩
theorem Ws.drew{w:World}{x:Sl}{ws:List Wd}(h:Ws w x ws):Ws w.drew x ws:=h.below (Below.refl _ _).drew
theorem two_cell(w:World)(xs:Array Value)(t:TypeId)(o2:Obj)(i:Nat)(v:Value)(h:xs[i]?=some v):((w.alloc (.cells xs t)).alloc o2).cell? ⟨w.heap.size,i,none⟩=some v:=
 ((new_below _ o2).cell (p:=⟨w.heap.size,i,none⟩) (by simp)).trans (by unfold World.cell?;rw[heap_alloc_new];exact h)
theorem owner_any(x:Sl)(e:En)(a:CA)(c:Cy)(w:World)(h:Ws w x e.ws)(hc:CRd w a c)(hne:e.ws≠[]):Calls Tryz.prog 87 #[enV x e,caV a c] w (OwP (ownF e c) w):=by
 obtain ⟨ln,bl,ws⟩:=e
 obtain ⟨xa,xn,xc⟩:=x
 obtain ⟨⟨ga,gn,gc⟩,⟨oa,on,oc⟩⟩:=a
 obtain ⟨og,ow,cl,df,tt,ho,hc',ht',sd⟩:=c
 have HW:Hid (Ws w ⟨xa,xn,xc⟩ ws):=h
 have HG:Hid (Nm w ga gn og):=hc.g
 have HO:Hid (Nm w oa on ow):=hc.o
 have HB:Hid (∀o1 o2:Obj,Below w.heap.size w ((w.alloc o1).alloc o2)):=fun o1 o2=>(new_below w o1).trans ((new_below _ o2).mono (by simp))
 have HB1:Hid (∀o1 o2:Obj,Below w.heap.size w ((w.alloc o1).alloc o2).drew):=fun o1 o2=>(HB.out o1 o2).drew
 simp only at hne
 clear h hc
 cases bl with
 |true=>
  cases ho with
  |false=>
   have HR:Hid (ownF ⟨ln,true,ws⟩ ⟨og,ow,cl,df,tt,false,hc',ht',sd⟩=([],[],9)):=rfl
   rw[HR.out]
   go_enter Tryz.func87,Tryz.ntmps87
   go_wp2_with fail
   exact bodyPost_ret (v:=.tuple #[.slice none 0 0,.slice none 0 0,.int .i64 9]) (by simp[results,Tryz.results87,go_sem]) rfl ⟨_,[],⟨none,0,0⟩,rfl,⟨HB.out _ _,OwnT.nil _ _ _,rfl⟩,fun h=>absurd h (by decide)⟩
  |true=>
   have HR:Hid (ownF ⟨ln,true,ws⟩ ⟨og,ow,cl,df,tt,true,hc',ht',sd⟩=(ow,ws,0)):=rfl
   rw[HR.out]
   have KC:Hid (∀W,Below w.heap.size w W->Calls Tryz.prog 107 #[.slice oa on oc] W (CopyPost ow 1000000000000 W)):=fun W hW=>pcopy_any oa on oc ow W (HO.out.below hW)
   go_enter Tryz.func87,Tryz.ntmps87
   go_wp2_with fail
   go_region_with (first
    |(go_at_call 107;refine (KC.out _ (by first|exact HB.out _ _|exact HB1.out _ _)).mono ?_;rintro e W2 ⟨v,ys,rfl,H2⟩;have e0:W2.cell? ⟨w.heap.size,2,none⟩=some (.slice xa xn xc):=(H2.out.2.2.cell (p:=⟨w.heap.size,2,none⟩) (by simp;try omega)).trans (two_cell _ _ _ _ _ _ rfl))
    |fail)
   all_goals
    go_wp2_with fail
    have HF:=own_fin (by first|exact HB.out _ _|exact HB1.out _ _) H2.out
    exact bodyPost_ret (v:=.tuple #[v,.slice xa xn xc,.int .i64 0]) (by simp[results,Tryz.results87,go_sem]) rfl ⟨v,ys,⟨xa,xn,xc⟩,rfl,HF,fun _=>HW.out.below HF.1⟩
 |false=>
  cases ws with
  |nil=>exact absurd rfl hne
  |cons p r=>
   obtain ⟨s,q⟩:=p
   obtain ⟨b,o,e0,hb,q1,q2,-⟩:=HW.out.rd.head
   simp only at e0
   subst e0
   clear hne
   have hxn:=(ws_tail HW.out).1
   subst hxn
   have hcx:r.length+1<=xc:=HW.out.c
   have hx63:xc<=9223372036854775807:=HW.out.c63
   have hsz:s.size<=1000000:=HW.out.wb.2 (s,q) (by simp)
   have Q1:Hid (∀o1 o2:Obj,((w.alloc o1).alloc o2).cell? ⟨b,o,none⟩=some (.string s)):=fun o1 o2=>((HB.out o1 o2).cell (p:=⟨b,o,none⟩) hb).trans q1
   have Q2:Hid (∀o1 o2:Obj,((w.alloc o1).alloc o2).cell? ⟨b,o+1,none⟩=some (.bool q)):=fun o1 o2=>((HB.out o1 o2).cell (p:=⟨b,o+1,none⟩) hb).trans q2
   have d2:=Q2.out (.cells #[.int .i64 ln,.bool false,.slice (some ⟨b,o,none⟩) (r.length+1) xc] 75) (.cells #[.slice ga gn gc,.slice oa on oc,.int .u16 (cl:Int),.int .u32 (df:Int),.int .u32 (tt:Int),.bool ho,.bool hc',.bool ht',.bool sd] 63)
   have d1:=Q1.out (.cells #[.int .i64 ln,.bool false,.slice (some ⟨b,o,none⟩) (r.length+1) xc] 75) (.cells #[.slice ga gn gc,.slice oa on oc,.int .u16 (cl:Int),.int .u32 (df:Int),.int .u32 (tt:Int),.bool ho,.bool hc',.bool ht',.bool sd] 63)
   clear q1 q2
   have HT:Hid (∀W,Below w.heap.size w W->(∀c',r.length<=c'->c'<=9223372036854775807->Ws W ⟨some ⟨b,o+2,none⟩,r.length,c'⟩ r)/\(xc=1->∀a',Ws W ⟨a',0,0⟩ r)):=fun W hW=>(ws_tail (HW.out.below hW)).2
   clear HW HO
   generalize hL:r.length=L at*
   cases q with
   |true=>
    have HR:Hid (ownF ⟨ln,false,(s,true)::r⟩ ⟨og,ow,cl,df,tt,ho,hc',ht',sd⟩=([],[],240)):=rfl
    rw[HR.out]
    go_enter Tryz.func87,Tryz.ntmps87
    go_wp2_with fail
    exact bodyPost_ret (v:=.tuple #[.slice none 0 0,.slice none 0 0,.int .i64 240]) (by simp[results,Tryz.results87,go_sem]) rfl ⟨_,[],⟨none,0,0⟩,rfl,⟨HB.out _ _,OwnT.nil _ _ _,rfl⟩,fun h=>absurd h (by decide)⟩
   |false=>
    have HR:Hid (ownF ⟨ln,false,(s,false)::r⟩ ⟨og,ow,cl,df,tt,ho,hc',ht',sd⟩=((nrel s og).1,r,(nrel s og).2)):=rfl
    rw[HR.out]
    clear HR
    have KR:Hid (∀W,Below w.heap.size w W->Calls Tryz.prog 85 #[.string s,.slice ga gn gc] W (NPost (nrel s og).1 (nrel s og).2 W)):=fun W hW=>prel_any s ga gn gc og W (by omega) (HG.out.below hW)
    obtain ⟨R1,hR1⟩:∃R1,(nrel s og).1=R1:=⟨_,rfl⟩
    obtain ⟨R2,hR2⟩:∃R2,(nrel s og).2=R2:=⟨_,rfl⟩
    rw[hR1,hR2] at KR
    rw[hR1,hR2]
    clear hR1 hR2
    go_enter Tryz.func87,Tryz.ntmps87
    go_wp2_with fail
    go_region_with (first
     |(go_at_call 85;refine (KR.out _ (by first|exact HB.out _ _|exact HB1.out _ _)).mono ?_;rintro e W2 ⟨v,ys,rfl,H2⟩;have e0:W2.cell? ⟨w.heap.size,2,none⟩=some (.slice (some ⟨b,o,none⟩) (L+1) xc):=(H2.out.2.2.cell (p:=⟨w.heap.size,2,none⟩) (by simp;try omega)).trans (two_cell _ _ _ _ _ _ rfl))
     |fail)
    all_goals
     have HF:=Lib.hid (own_fin (by first|exact HB.out _ _|exact HB1.out _ _) H2.out)
     have HT2:=Lib.hid (HT.out W2 HF.out.1)
     clear H2 HB HB1 Q1 Q2 d1 d2 HT KR
     by_cases hx1:xc=1
     ·have hL0:L=0:=by omega
      subst hx1
      subst hL0
      go_wp2_with fail
      go_region_law (fail)
      all_goals
       go_wp2_with fail
       exact bodyPost_ret (v:=.tuple #[v,.slice (some ⟨b,o,none⟩) 0 0,.int .i64 R2]) (by simp[results,Tryz.results87,go_sem]) rfl ⟨v,ys,⟨some ⟨b,o,none⟩,0,0⟩,rfl,own_drew HF.out,fun _=>(HT2.out.2 (by simp) _).drew⟩
     ·have hx2:¬ xc - 1=0:=by omega
      have hx3:1<xc:=by omega
      have hx4:¬ xc<=1:=by omega
      have hx5:(1:Int)<=(L:Int)+1:=by omega
      go_wp2_with fail
      go_region_law (fail)
      all_goals
       go_wp2_with fail
       exact bodyPost_ret (v:=.tuple #[v,.slice (some ⟨b,o+2,none⟩) L (xc - 1),.int .i64 R2]) (by simp[results,Tryz.results87,go_sem]) rfl ⟨v,ys,⟨some ⟨b,o+2,none⟩,L,xc - 1⟩,rfl,own_drew HF.out,fun _=>(HT2.out.1 _ (by omega) (by omega)).drew⟩
def CyB(w:World)(b:Nat)(a:CA)(c:Cy):Prop:=w.heap[b]?=some (.cells #[.slice a.g.a a.g.n a.g.c,.slice a.o.a a.o.n a.o.c,.int .u16 (c.cl:Int),.int .u32 (c.df:Int),.int .u32 (c.tt:Int),.bool c.ho,.bool c.hc,.bool c.ht,.bool c.sd] 63 (0,0))
theorem CyB.lt{w:World}{b:Nat}{a:CA}{c:Cy}(h:CyB w b a c):b<w.heap.size:=(Array.getElem?_eq_some_iff.1 h).1
theorem CyB.c0{w:World}{b:Nat}{a:CA}{c:Cy}(h:CyB w b a c):w.cell? ⟨b,0,none⟩=some (.slice a.g.a a.g.n a.g.c):=by unfold World.cell?;rw[show w.heap[b]?=_ from h];rfl
theorem CyB.c1{w:World}{b:Nat}{a:CA}{c:Cy}(h:CyB w b a c):w.cell? ⟨b,1,none⟩=some (.slice a.o.a a.o.n a.o.c):=by unfold World.cell?;rw[show w.heap[b]?=_ from h];rfl
theorem CyB.c2{w:World}{b:Nat}{a:CA}{c:Cy}(h:CyB w b a c):w.cell? ⟨b,2,none⟩=some (.int .u16 (c.cl:Int)):=by unfold World.cell?;rw[show w.heap[b]?=_ from h];rfl
theorem CyB.c3{w:World}{b:Nat}{a:CA}{c:Cy}(h:CyB w b a c):w.cell? ⟨b,3,none⟩=some (.int .u32 (c.df:Int)):=by unfold World.cell?;rw[show w.heap[b]?=_ from h];rfl
theorem CyB.c4{w:World}{b:Nat}{a:CA}{c:Cy}(h:CyB w b a c):w.cell? ⟨b,4,none⟩=some (.int .u32 (c.tt:Int)):=by unfold World.cell?;rw[show w.heap[b]?=_ from h];rfl
theorem CyB.c5{w:World}{b:Nat}{a:CA}{c:Cy}(h:CyB w b a c):w.cell? ⟨b,5,none⟩=some (.bool c.ho):=by unfold World.cell?;rw[show w.heap[b]?=_ from h];rfl
theorem CyB.c6{w:World}{b:Nat}{a:CA}{c:Cy}(h:CyB w b a c):w.cell? ⟨b,6,none⟩=some (.bool c.hc):=by unfold World.cell?;rw[show w.heap[b]?=_ from h];rfl
theorem CyB.c7{w:World}{b:Nat}{a:CA}{c:Cy}(h:CyB w b a c):w.cell? ⟨b,7,none⟩=some (.bool c.ht):=by unfold World.cell?;rw[show w.heap[b]?=_ from h];rfl
theorem CyB.c8{w:World}{b:Nat}{a:CA}{c:Cy}(h:CyB w b a c):w.cell? ⟨b,8,none⟩=some (.bool c.sd):=by unfold World.cell?;rw[show w.heap[b]?=_ from h];rfl
theorem CyB.fz{w:World}{b:Nat}{a:CA}{c:Cy}(h:CyB w b a c)(i:Nat):w.frozen? ⟨b,i,none⟩=false:=by
 unfold World.frozen?
 rw[show w.heap[b]?=_ from h]
 simp
theorem CyB.drew{w:World}{b:Nat}{a:CA}{c:Cy}(h:CyB w b a c):CyB w.drew b a c:=h
def ca0:CA:=⟨⟨none,0,0⟩,⟨none,0,0⟩⟩
theorem CyB.zero(w:World):CyB (w.alloc (.cells #[.slice none 0 0,.slice none 0 0,.int .u16 0,.int .u32 0,.int .u32 0,.bool false,.bool false,.bool false,.bool false] 63)) w.heap.size ca0 (cy0 []):=heap_alloc_new _ _
theorem CyB.new(w:World)(a:CA)(c:Cy):CyB (w.alloc (.cells #[.slice a.g.a a.g.n a.g.c,.slice a.o.a a.o.n a.o.c,.int .u16 (c.cl:Int),.int .u32 (c.df:Int),.int .u32 (c.tt:Int),.bool c.ho,.bool c.hc,.bool c.ht,.bool c.sd] 63)) w.heap.size a c:=heap_alloc_new _ _
theorem CyB.below{w w':World}{b:Nat}{a:CA}{c:Cy}(h:CyB w b a c)(hb:Below w.heap.size w w'):CyB w' b a c:=(hb.block b h.lt).trans h
theorem nine_set(x0 x1 x2 x3 x4 x5 x6 x7 x8 v0 v1 v2 v3 v4 v5 v6 v7 v8:Value):(((((((((#[x0,x1,x2,x3,x4,x5,x6,x7,x8].setIfInBounds 0 v0).setIfInBounds 1 v1).setIfInBounds 2 v2).setIfInBounds 3 v3).setIfInBounds 4 v4).setIfInBounds 5 v5).setIfInBounds 6 v6).setIfInBounds 7 v7).setIfInBounds 8 v8)=#[v0,v1,v2,v3,v4,v5,v6,v7,v8]:=by simp
theorem CyB.all{w:World}{b:Nat}{a:CA}{c:Cy}(h:CyB w b a c)(a':CA)(c':Cy):CyB (((((((((w.setCell ⟨b,0,none⟩ (.slice a'.g.a a'.g.n a'.g.c)).setCell ⟨b,1,none⟩ (.slice a'.o.a a'.o.n a'.o.c)).setCell ⟨b,2,none⟩ (.int .u16 (c'.cl:Int))).setCell ⟨b,3,none⟩ (.int .u32 (c'.df:Int))).setCell ⟨b,4,none⟩ (.int .u32 (c'.tt:Int))).setCell ⟨b,5,none⟩ (.bool c'.ho)).setCell ⟨b,6,none⟩ (.bool c'.hc)).setCell ⟨b,7,none⟩ (.bool c'.ht)).setCell ⟨b,8,none⟩ (.bool c'.sd)) b a' c':=by
 unfold CyB at h ⊢
 have h0:=heap_set h 0 (.slice a'.g.a a'.g.n a'.g.c)
 have h1:=heap_set h0 1 (.slice a'.o.a a'.o.n a'.o.c)
 have h2:=heap_set h1 2 (.int .u16 (c'.cl:Int))
 have h3:=heap_set h2 3 (.int .u32 (c'.df:Int))
 have h4:=heap_set h3 4 (.int .u32 (c'.tt:Int))
 have h5:=heap_set h4 5 (.bool c'.ho)
 have h6:=heap_set h5 6 (.bool c'.hc)
 have h7:=heap_set h6 7 (.bool c'.ht)
 have h8:=heap_set h7 8 (.bool c'.sd)
 rw[nine_set] at h8
 exact h8
theorem below_nine{w0 w:World}{B b:Nat}(h:Below B w0 w)(hB:B<=b)(v0 v1 v2 v3 v4 v5 v6 v7 v8:Value):Below B w0 (((((((((w.setCell ⟨b,0,none⟩ (v0)).setCell ⟨b,1,none⟩ (v1)).setCell ⟨b,2,none⟩ (v2)).setCell ⟨b,3,none⟩ (v3)).setCell ⟨b,4,none⟩ (v4)).setCell ⟨b,5,none⟩ (v5)).setCell ⟨b,6,none⟩ (v6)).setCell ⟨b,7,none⟩ (v7)).setCell ⟨b,8,none⟩ (v8)):=
 ((((((((h.setCell (p:=⟨b,0,none⟩) hB _).setCell (p:=⟨b,1,none⟩) hB _).setCell (p:=⟨b,2,none⟩) hB _).setCell (p:=⟨b,3,none⟩) hB _).setCell (p:=⟨b,4,none⟩) hB _).setCell (p:=⟨b,5,none⟩) hB _).setCell (p:=⟨b,6,none⟩) hB _).setCell (p:=⟨b,7,none⟩) hB _).setCell (p:=⟨b,8,none⟩) hB _
def dfE(s:ByteArray)(c:Cy):Except Int Cy:=match ttlF s with|some n=>.ok { c with df:=n,sd:=true }|none=>.error 240
def orE(s:ByteArray)(c:Cy):Except Int Cy:=if (nrel s c.og).2=0 then .ok { c with og:=(nrel s c.og).1 } else .error (nrel s c.og).2
def CmP(r:Except Int Cy)(a:CA)(c:Cy)(w:World)(e:Ending)(w':World):Prop:=
 ∃(a':CA) (c':Cy) (er:Int),e=.returned (.tuple #[caV a' c',.int .i64 er])/\Hid (Below w.heap.size w w')/\Hid ((er=0/\r=.ok c'/\a'.o=a.o/\((a'.g=a.g/\c'.og=c.og)∨Own1 w.heap.size w' a'.g c'.og))∨(er≠0/\r=.error er))
theorem CyB.off{w:World}{b g:Nat}{a:CA}{c:Cy}(h:CyB w b a c)(hg:¬ b=g)(i:Nat)(v:Value):CyB (w.setCell ⟨g,i,none⟩ v) b a c:=by
 unfold CyB at*
 exact (Below.heap_setCell _ _ _ b (by show b≠g;exact hg)).trans h
theorem own_nine{W2:World}{b:Nat}{sl:Sl}{nm ys:List ByteArray}{v v0 v1 v2 v3 v4 v5 v6 v7 v8:Value}(h:OwnT (b+1+1) W2 (.slice sl.a sl.n sl.c) nm.length ys 1000000000000)(hy:ys.take nm.length=nm):Own1 b ((((((((((W2.setCell ⟨b,0,none⟩ v).setCell ⟨(b+1),0,none⟩ (v0)).setCell ⟨(b+1),1,none⟩ (v1)).setCell ⟨(b+1),2,none⟩ (v2)).setCell ⟨(b+1),3,none⟩ (v3)).setCell ⟨(b+1),4,none⟩ (v4)).setCell ⟨(b+1),5,none⟩ (v5)).setCell ⟨(b+1),6,none⟩ (v6)).setCell ⟨(b+1),7,none⟩ (v7)).setCell ⟨(b+1),8,none⟩ (v8)) sl nm:=by
 have h1:Own1 (b+1+1) W2 sl nm:=⟨ys,h,hy⟩
 refine Own1.mono (B:=b+1+1) (h1.keep (fun j hj _ _=>?_)) (by omega)
 have s0:∀(w:World) (u:Value) (i:Nat),(w.setCell ⟨b+1,i,none⟩ u).heap[j]?=w.heap[j]?:=fun w u i=>Below.heap_setCell _ _ _ j (by show j≠b+1;omega)
 rw[s0,s0,s0,s0,s0,s0,s0,s0,s0]
 exact Below.heap_setCell _ _ _ j (by show j≠b;omega)
theorem default_any(s:ByteArray)(hs:s.size<=1000000)(a:CA)(c:Cy)(w:World)(hE:LayE w)(hL:LayT w):Calls Tryz.prog 62 #[.string s,caV a c] w (CmP (dfE s c) a c w):=by
 have KT:Hid (∀W,Below w.heap.size w W->Calls Tryz.prog 16 #[.string s] W (TtO (ttlF s) W)):=fun W hW=>ttl_any s (by omega) W (hE.below hW) (hL.below hW)
 have HD:Hid (dfE s c=match ttlF s with|some n=>.ok { c with df:=n,sd:=true }|none=>.error 240):=rfl
 clear hE hL hs
 generalize dfE s c=R at*
 generalize ttlF s=o at*
 obtain ⟨⟨ga,gn,gc⟩,⟨oa,on,oc⟩⟩:=a
 obtain ⟨og,ow,cl,df,tt,ho,hc',ht',sd⟩:=c
 have HC0:Hid (CyB ((w.alloc (.cells #[.slice ga gn gc,.slice oa on oc,.int .u16 (cl:Int),.int .u32 (df:Int),.int .u32 (tt:Int),.bool ho,.bool hc',.bool ht',.bool sd] 63)).alloc (.cells #[.slice none 0 0,.slice none 0 0,.int .u16 0,.int .u32 0,.int .u32 0,.bool false,.bool false,.bool false,.bool false] 63)) w.heap.size ⟨⟨ga,gn,gc⟩,⟨oa,on,oc⟩⟩ ⟨og,ow,cl,df,tt,ho,hc',ht',sd⟩/\CyB ((w.alloc (.cells #[.slice ga gn gc,.slice oa on oc,.int .u16 (cl:Int),.int .u32 (df:Int),.int .u32 (tt:Int),.bool ho,.bool hc',.bool ht',.bool sd] 63)).alloc (.cells #[.slice none 0 0,.slice none 0 0,.int .u16 0,.int .u32 0,.int .u32 0,.bool false,.bool false,.bool false,.bool false] 63)) (w.heap.size+1) ca0 (cy0 [])/\Below w.heap.size w ((w.alloc (.cells #[.slice ga gn gc,.slice oa on oc,.int .u16 (cl:Int),.int .u32 (df:Int),.int .u32 (tt:Int),.bool ho,.bool hc',.bool ht',.bool sd] 63)).alloc (.cells #[.slice none 0 0,.slice none 0 0,.int .u16 0,.int .u32 0,.int .u32 0,.bool false,.bool false,.bool false,.bool false] 63))):=by
  refine ⟨(CyB.new w ⟨⟨ga,gn,gc⟩,⟨oa,on,oc⟩⟩ ⟨og,ow,cl,df,tt,ho,hc',ht',sd⟩).below (new_below _ _),?_,(new_below w _).trans ((new_below _ _).mono (by simp))⟩
  have:=CyB.zero (w.alloc (.cells #[.slice ga gn gc,.slice oa on oc,.int .u16 (cl:Int),.int .u32 (df:Int),.int .u32 (tt:Int),.bool ho,.bool hc',.bool ht',.bool sd] 63))
  rw[World.size_alloc] at this
  exact this
 have KT2:=Lib.hid (KT.out _ HC0.out.2.2)
 have hne:¬ w.heap.size=w.heap.size+1:=by omega
 have hne2:¬ w.heap.size+1=w.heap.size:=by omega
 go_enter Tryz.func62,Tryz.ntmps62
 go_wp2_with fail
 refine KT2.out.mono ?_
 rintro e W2 ⟨n,er,rfl,HQ,HB2⟩
 have HR:=Lib.hid (HC0.out.1.below HB2.out)
 have HZ:=Lib.hid (HC0.out.2.1.below HB2.out)
 have HBW:=Lib.hid (HC0.out.2.2.trans (HB2.out.mono (by simp;omega)))
 clear HC0 HB2 KT KT2
 have r0:=HR.out.c0
 have r1:=HR.out.c1
 have r2:=HR.out.c2
 have r3:=HR.out.c3
 have r4:=HR.out.c4
 have r5:=HR.out.c5
 have r6:=HR.out.c6
 have r7:=HR.out.c7
 have r8:=HR.out.c8
 have rf0:=HR.out.fz 0
 have rf1:=HR.out.fz 1
 have rf2:=HR.out.fz 2
 have rf3:=HR.out.fz 3
 have rf4:=HR.out.fz 4
 have rf5:=HR.out.fz 5
 have rf6:=HR.out.fz 6
 have rf7:=HR.out.fz 7
 have rf8:=HR.out.fz 8
 have z0:=HZ.out.c0
 have z1:=HZ.out.c1
 have z2:=HZ.out.c2
 have z3:=HZ.out.c3
 have z4:=HZ.out.c4
 have z5:=HZ.out.c5
 have z6:=HZ.out.c6
 have z7:=HZ.out.c7
 have z8:=HZ.out.c8
 have zf0:=HZ.out.fz 0
 have zf1:=HZ.out.fz 1
 have zf2:=HZ.out.fz 2
 have zf3:=HZ.out.fz 3
 have zf4:=HZ.out.fz 4
 have zf5:=HZ.out.fz 5
 have zf6:=HZ.out.fz 6
 have zf7:=HZ.out.fz 7
 have zf8:=HZ.out.fz 8
 simp only at r0 r1 r2 r3 r4 r5 r6 r7 r8
 simp only[ca0,cy0] at z0 z1 z2 z3 z4 z5 z6 z7 z8
 have hlt1:=HZ.out.lt
 have hlt0:=HR.out.lt
 have HX:Hid (CyB (((((((((((W2.setCell ⟨w.heap.size,3,none⟩ (.int .u32 (n:Int))).setCell ⟨w.heap.size,8,none⟩ (.bool true)).setCell ⟨w.heap.size+1,0,none⟩ (.slice ga gn gc)).setCell ⟨w.heap.size+1,1,none⟩ (.slice oa on oc)).setCell ⟨w.heap.size+1,2,none⟩ (.int .u16 (cl:Int))).setCell ⟨w.heap.size+1,3,none⟩ (.int .u32 (n:Int))).setCell ⟨w.heap.size+1,4,none⟩ (.int .u32 (tt:Int))).setCell ⟨w.heap.size+1,5,none⟩ (.bool ho)).setCell ⟨w.heap.size+1,6,none⟩ (.bool hc')).setCell ⟨w.heap.size+1,7,none⟩ (.bool ht')).setCell ⟨w.heap.size+1,8,none⟩ (.bool true)) (w.heap.size+1) ⟨⟨ga,gn,gc⟩,⟨oa,on,oc⟩⟩ ⟨og,ow,cl,n,tt,ho,hc',ht',true⟩/\Below w.heap.size w (((((((((((W2.setCell ⟨w.heap.size,3,none⟩ (.int .u32 (n:Int))).setCell ⟨w.heap.size,8,none⟩ (.bool true)).setCell ⟨w.heap.size+1,0,none⟩ (.slice ga gn gc)).setCell ⟨w.heap.size+1,1,none⟩ (.slice oa on oc)).setCell ⟨w.heap.size+1,2,none⟩ (.int .u16 (cl:Int))).setCell ⟨w.heap.size+1,3,none⟩ (.int .u32 (n:Int))).setCell ⟨w.heap.size+1,4,none⟩ (.int .u32 (tt:Int))).setCell ⟨w.heap.size+1,5,none⟩ (.bool ho)).setCell ⟨w.heap.size+1,6,none⟩ (.bool hc')).setCell ⟨w.heap.size+1,7,none⟩ (.bool ht')).setCell ⟨w.heap.size+1,8,none⟩ (.bool true))):=⟨((HZ.out.off hne2 3 _).off hne2 8 _).all ⟨⟨ga,gn,gc⟩,⟨oa,on,oc⟩⟩ ⟨og,ow,cl,n,tt,ho,hc',ht',true⟩,below_nine ((HBW.out.setCell (p:=⟨w.heap.size,3,none⟩) (Nat.le_refl _) _).setCell (p:=⟨w.heap.size,8,none⟩) (Nat.le_refl _) _) (by omega) _ _ _ _ _ _ _ _ _⟩
 clear HR HZ HBW
 go_wp2_with fail
 generalize (((((((((((W2.setCell ⟨w.heap.size,3,none⟩ (.int .u32 (n:Int))).setCell ⟨w.heap.size,8,none⟩ (.bool true)).setCell ⟨w.heap.size+1,0,none⟩ (.slice ga gn gc)).setCell ⟨w.heap.size+1,1,none⟩ (.slice oa on oc)).setCell ⟨w.heap.size+1,2,none⟩ (.int .u16 (cl:Int))).setCell ⟨w.heap.size+1,3,none⟩ (.int .u32 (n:Int))).setCell ⟨w.heap.size+1,4,none⟩ (.int .u32 (tt:Int))).setCell ⟨w.heap.size+1,5,none⟩ (.bool ho)).setCell ⟨w.heap.size+1,6,none⟩ (.bool hc')).setCell ⟨w.heap.size+1,7,none⟩ (.bool ht')).setCell ⟨w.heap.size+1,8,none⟩ (.bool true))=W9 at*
 have y0:=HX.out.1.c0
 have y1:=HX.out.1.c1
 have y2:=HX.out.1.c2
 have y3:=HX.out.1.c3
 have y4:=HX.out.1.c4
 have y5:=HX.out.1.c5
 have y6:=HX.out.1.c6
 have y7:=HX.out.1.c7
 have y8:=HX.out.1.c8
 simp only at y0 y1 y2 y3 y4 y5 y6 y7 y8
 exact bodyPost_ret (v:=.tuple #[.agg #[.slice ga gn gc,.slice oa on oc,.int .u16 (cl:Int),.int .u32 (n:Int),.int .u32 (tt:Int),.bool ho,.bool hc',.bool ht',.bool true],.int .i64 er]) (by simp[results,Tryz.results62,go_sem,y0,y1,y2,y3,y4,y5,y6,y7,y8]) rfl ⟨⟨⟨ga,gn,gc⟩,⟨oa,on,oc⟩⟩,⟨og,ow,cl,n,tt,ho,hc',ht',true⟩,er,rfl,HX.out.2,by
  rcases HQ.out with ⟨e1,e2⟩|⟨e1,e2,-⟩
  ·exact .inl ⟨e1,HD.out.trans (by rw[e2]),rfl,.inl ⟨rfl,rfl⟩⟩
  ·exact .inr ⟨by rw[e1];decide,by rw[e1];exact HD.out.trans (by rw[e2])⟩⟩
theorem origin_any(s:ByteArray)(hs:s.size<=1000000)(a:CA)(c:Cy)(w:World)(hr:CRd w a c):Calls Tryz.prog 61 #[.string s,caV a c] w (CmP (orE s c) a c w):=by
 have KT:Hid (∀W,Below w.heap.size w W->Calls Tryz.prog 85 #[.string s,.slice a.g.a a.g.n a.g.c] W (NPost (nrel s c.og).1 (nrel s c.og).2 W)):=fun W hW=>prel_any s a.g.a a.g.n a.g.c c.og W (by omega) (hr.g.below hW)
 have HD:Hid (orE s c=if (nrel s c.og).2=0 then .ok { c with og:=(nrel s c.og).1 } else .error (nrel s c.og).2):=rfl
 clear hr hs
 generalize orE s c=R at*
 obtain ⟨R1,hR1⟩:∃R1,(nrel s c.og).1=R1:=⟨_,rfl⟩
 obtain ⟨R2,hR2⟩:∃R2,(nrel s c.og).2=R2:=⟨_,rfl⟩
 rw[hR1,hR2] at KT HD
 clear hR1 hR2
 obtain ⟨⟨ga,gn,gc⟩,⟨oa,on,oc⟩⟩:=a
 obtain ⟨og,ow,cl,df,tt,ho,hc',ht',sd⟩:=c
 have HC0:Hid (CyB ((w.alloc (.cells #[.slice ga gn gc,.slice oa on oc,.int .u16 (cl:Int),.int .u32 (df:Int),.int .u32 (tt:Int),.bool ho,.bool hc',.bool ht',.bool sd] 63)).alloc (.cells #[.slice none 0 0,.slice none 0 0,.int .u16 0,.int .u32 0,.int .u32 0,.bool false,.bool false,.bool false,.bool false] 63)) w.heap.size ⟨⟨ga,gn,gc⟩,⟨oa,on,oc⟩⟩ ⟨og,ow,cl,df,tt,ho,hc',ht',sd⟩/\CyB ((w.alloc (.cells #[.slice ga gn gc,.slice oa on oc,.int .u16 (cl:Int),.int .u32 (df:Int),.int .u32 (tt:Int),.bool ho,.bool hc',.bool ht',.bool sd] 63)).alloc (.cells #[.slice none 0 0,.slice none 0 0,.int .u16 0,.int .u32 0,.int .u32 0,.bool false,.bool false,.bool false,.bool false] 63)) (w.heap.size+1) ca0 (cy0 [])/\Below w.heap.size w ((w.alloc (.cells #[.slice ga gn gc,.slice oa on oc,.int .u16 (cl:Int),.int .u32 (df:Int),.int .u32 (tt:Int),.bool ho,.bool hc',.bool ht',.bool sd] 63)).alloc (.cells #[.slice none 0 0,.slice none 0 0,.int .u16 0,.int .u32 0,.int .u32 0,.bool false,.bool false,.bool false,.bool false] 63))):=by
  refine ⟨(CyB.new w ⟨⟨ga,gn,gc⟩,⟨oa,on,oc⟩⟩ ⟨og,ow,cl,df,tt,ho,hc',ht',sd⟩).below (new_below _ _),?_,(new_below w _).trans ((new_below _ _).mono (by simp))⟩
  have:=CyB.zero (w.alloc (.cells #[.slice ga gn gc,.slice oa on oc,.int .u16 (cl:Int),.int .u32 (df:Int),.int .u32 (tt:Int),.bool ho,.bool hc',.bool ht',.bool sd] 63))
  rw[World.size_alloc] at this
  exact this
 have KT2:=Lib.hid (KT.out _ HC0.out.2.2)
 have hne:¬ w.heap.size=w.heap.size+1:=by omega
 have hne2:¬ w.heap.size+1=w.heap.size:=by omega
 go_enter Tryz.func61,Tryz.ntmps61
 go_wp2_with fail
 refine KT2.out.mono ?_
 rintro e W2 ⟨v,ys,rfl,H2⟩
 obtain ⟨ao,hv,-⟩:=H2.out.1.shape
 subst hv
 have HR:=Lib.hid (HC0.out.1.below H2.out.2.2)
 have HZ:=Lib.hid (HC0.out.2.1.below H2.out.2.2)
 have HBW:=Lib.hid (HC0.out.2.2.trans (H2.out.2.2.mono (by simp;omega)))
 have HOW:Hid (OwnT (w.heap.size+1+1) W2 (.slice ao R1.length ys.length) R1.length ys 1000000000000/\ys.take R1.length=R1):=⟨by have:=H2.out.1;rw[World.size_alloc,World.size_alloc] at this;exact this,H2.out.2.1⟩
 clear HC0 H2 KT KT2
 have r0:=HR.out.c0
 have r1:=HR.out.c1
 have r2:=HR.out.c2
 have r3:=HR.out.c3
 have r4:=HR.out.c4
 have r5:=HR.out.c5
 have r6:=HR.out.c6
 have r7:=HR.out.c7
 have r8:=HR.out.c8
 have rf0:=HR.out.fz 0
 have rf1:=HR.out.fz 1
 have rf2:=HR.out.fz 2
 have rf3:=HR.out.fz 3
 have rf4:=HR.out.fz 4
 have rf5:=HR.out.fz 5
 have rf6:=HR.out.fz 6
 have rf7:=HR.out.fz 7
 have rf8:=HR.out.fz 8
 have z0:=HZ.out.c0
 have z1:=HZ.out.c1
 have z2:=HZ.out.c2
 have z3:=HZ.out.c3
 have z4:=HZ.out.c4
 have z5:=HZ.out.c5
 have z6:=HZ.out.c6
 have z7:=HZ.out.c7
 have z8:=HZ.out.c8
 have zf0:=HZ.out.fz 0
 have zf1:=HZ.out.fz 1
 have zf2:=HZ.out.fz 2
 have zf3:=HZ.out.fz 3
 have zf4:=HZ.out.fz 4
 have zf5:=HZ.out.fz 5
 have zf6:=HZ.out.fz 6
 have zf7:=HZ.out.fz 7
 have zf8:=HZ.out.fz 8
 simp only at r0 r1 r2 r3 r4 r5 r6 r7 r8
 simp only[ca0,cy0] at z0 z1 z2 z3 z4 z5 z6 z7 z8
 have hlt1:=HZ.out.lt
 have hlt0:=HR.out.lt
 have HX:Hid (CyB ((((((((((W2.setCell ⟨w.heap.size,0,none⟩ (.slice ao R1.length ys.length)).setCell ⟨w.heap.size+1,0,none⟩ (.slice ao R1.length ys.length)).setCell ⟨w.heap.size+1,1,none⟩ (.slice oa on oc)).setCell ⟨w.heap.size+1,2,none⟩ (.int .u16 (cl:Int))).setCell ⟨w.heap.size+1,3,none⟩ (.int .u32 (df:Int))).setCell ⟨w.heap.size+1,4,none⟩ (.int .u32 (tt:Int))).setCell ⟨w.heap.size+1,5,none⟩ (.bool ho)).setCell ⟨w.heap.size+1,6,none⟩ (.bool hc')).setCell ⟨w.heap.size+1,7,none⟩ (.bool ht')).setCell ⟨w.heap.size+1,8,none⟩ (.bool sd)) (w.heap.size+1) ⟨⟨ao,R1.length,ys.length⟩,⟨oa,on,oc⟩⟩ ⟨R1,ow,cl,df,tt,ho,hc',ht',sd⟩/\Below w.heap.size w ((((((((((W2.setCell ⟨w.heap.size,0,none⟩ (.slice ao R1.length ys.length)).setCell ⟨w.heap.size+1,0,none⟩ (.slice ao R1.length ys.length)).setCell ⟨w.heap.size+1,1,none⟩ (.slice oa on oc)).setCell ⟨w.heap.size+1,2,none⟩ (.int .u16 (cl:Int))).setCell ⟨w.heap.size+1,3,none⟩ (.int .u32 (df:Int))).setCell ⟨w.heap.size+1,4,none⟩ (.int .u32 (tt:Int))).setCell ⟨w.heap.size+1,5,none⟩ (.bool ho)).setCell ⟨w.heap.size+1,6,none⟩ (.bool hc')).setCell ⟨w.heap.size+1,7,none⟩ (.bool ht')).setCell ⟨w.heap.size+1,8,none⟩ (.bool sd))/\Own1 w.heap.size ((((((((((W2.setCell ⟨w.heap.size,0,none⟩ (.slice ao R1.length ys.length)).setCell ⟨w.heap.size+1,0,none⟩ (.slice ao R1.length ys.length)).setCell ⟨w.heap.size+1,1,none⟩ (.slice oa on oc)).setCell ⟨w.heap.size+1,2,none⟩ (.int .u16 (cl:Int))).setCell ⟨w.heap.size+1,3,none⟩ (.int .u32 (df:Int))).setCell ⟨w.heap.size+1,4,none⟩ (.int .u32 (tt:Int))).setCell ⟨w.heap.size+1,5,none⟩ (.bool ho)).setCell ⟨w.heap.size+1,6,none⟩ (.bool hc')).setCell ⟨w.heap.size+1,7,none⟩ (.bool ht')).setCell ⟨w.heap.size+1,8,none⟩ (.bool sd)) ⟨ao,R1.length,ys.length⟩ R1):=⟨((HZ.out.off hne2 0 _)).all ⟨⟨ao,R1.length,ys.length⟩,⟨oa,on,oc⟩⟩ ⟨R1,ow,cl,df,tt,ho,hc',ht',sd⟩,below_nine ((HBW.out.setCell (p:=⟨w.heap.size,0,none⟩) (Nat.le_refl _) _)) (by omega) _ _ _ _ _ _ _ _ _,own_nine HOW.out.1 HOW.out.2⟩
 clear HR HZ HBW HOW
 go_wp2_with fail
 generalize ((((((((((W2.setCell ⟨w.heap.size,0,none⟩ (.slice ao R1.length ys.length)).setCell ⟨w.heap.size+1,0,none⟩ (.slice ao R1.length ys.length)).setCell ⟨w.heap.size+1,1,none⟩ (.slice oa on oc)).setCell ⟨w.heap.size+1,2,none⟩ (.int .u16 (cl:Int))).setCell ⟨w.heap.size+1,3,none⟩ (.int .u32 (df:Int))).setCell ⟨w.heap.size+1,4,none⟩ (.int .u32 (tt:Int))).setCell ⟨w.heap.size+1,5,none⟩ (.bool ho)).setCell ⟨w.heap.size+1,6,none⟩ (.bool hc')).setCell ⟨w.heap.size+1,7,none⟩ (.bool ht')).setCell ⟨w.heap.size+1,8,none⟩ (.bool sd))=W9 at*
 have y0:=HX.out.1.c0
 have y1:=HX.out.1.c1
 have y2:=HX.out.1.c2
 have y3:=HX.out.1.c3
 have y4:=HX.out.1.c4
 have y5:=HX.out.1.c5
 have y6:=HX.out.1.c6
 have y7:=HX.out.1.c7
 have y8:=HX.out.1.c8
 simp only at y0 y1 y2 y3 y4 y5 y6 y7 y8
 exact bodyPost_ret (v:=.tuple #[.agg #[.slice ao R1.length ys.length,.slice oa on oc,.int .u16 (cl:Int),.int .u32 (df:Int),.int .u32 (tt:Int),.bool ho,.bool hc',.bool ht',.bool sd],.int .i64 R2]) (by simp[results,Tryz.results61,go_sem,y0,y1,y2,y3,y4,y5,y6,y7,y8]) rfl ⟨⟨⟨ao,R1.length,ys.length⟩,⟨oa,on,oc⟩⟩,⟨R1,ow,cl,df,tt,ho,hc',ht',sd⟩,R2,rfl,HX.out.2.1,by
  by_cases h0:R2=0
  ·exact .inl ⟨h0,HD.out.trans (if_pos h0),rfl,.inr HX.out.2.2⟩
  ·exact .inr ⟨h0,HD.out.trans (if_neg h0)⟩⟩
theorem own_nine2{W2:World}{B B' g:Nat}{sl:Sl}{nm:List ByteArray}{v0 v1 v2 v3 v4 v5 v6 v7 v8:Value}(h:Own1 B W2 sl nm)(hg:g<B)(hB:B'<=B):Own1 B' (((((((((W2.setCell ⟨g,0,none⟩ (v0)).setCell ⟨g,1,none⟩ (v1)).setCell ⟨g,2,none⟩ (v2)).setCell ⟨g,3,none⟩ (v3)).setCell ⟨g,4,none⟩ (v4)).setCell ⟨g,5,none⟩ (v5)).setCell ⟨g,6,none⟩ (v6)).setCell ⟨g,7,none⟩ (v7)).setCell ⟨g,8,none⟩ (v8)) sl nm:=by
 refine Own1.mono (B:=B) (h.keep (fun j hj _ _=>?_)) hB
 have s0:∀(w:World) (u:Value) (i:Nat),(w.setCell ⟨g,i,none⟩ u).heap[j]?=w.heap[j]?:=fun w u i=>Below.heap_setCell _ _ _ j (by show j≠g;omega)
 rw[s0,s0,s0,s0,s0,s0,s0,s0,s0]
theorem cmd_long(k:Nat)(ws:List Wd)(c:Cy)(h:ws.length≠1):cmdE k ws c=.error 240:=by
 match ws,h with
 |[],_=>rfl
 |[_],h=>exact absurd rfl h
 |(s,b)::_::_,_=>cases b <;> rfl
theorem obey61_any(x:Sl)(ws:List Wd)(a:CA)(c:Cy)(w:World)(h:Ws w x ws)(KF0:∀W s,s.size<=1000000->Below w.heap.size w W->Calls Tryz.prog 61 #[.string s,caV a c] W (CmP (orE s c) a c W)):Calls Tryz.prog 37 #[.func (.func 61) #[] #[],.slice x.a x.n x.c,caV a c] w (CmP (cmdE 1 ws c) a c w):=by
 obtain ⟨xa,xn,xc⟩:=x
 have KF1:=Lib.hid KF0
 have HW:Hid (Ws w ⟨xa,xn,xc⟩ ws):=h
 have HL:Hid (xn=ws.length):=h.n
 have HC0:Hid (CyB ((w.alloc (.cells #[.slice a.g.a a.g.n a.g.c,.slice a.o.a a.o.n a.o.c,.int .u16 (c.cl:Int),.int .u32 (c.df:Int),.int .u32 (c.tt:Int),.bool c.ho,.bool c.hc,.bool c.ht,.bool c.sd] 63)).alloc (.cells #[.slice none 0 0,.slice none 0 0,.int .u16 0,.int .u32 0,.int .u32 0,.bool false,.bool false,.bool false,.bool false] 63)) (w.heap.size+1) ca0 (cy0 [])/\Below w.heap.size w ((w.alloc (.cells #[.slice a.g.a a.g.n a.g.c,.slice a.o.a a.o.n a.o.c,.int .u16 (c.cl:Int),.int .u32 (c.df:Int),.int .u32 (c.tt:Int),.bool c.ho,.bool c.hc,.bool c.ht,.bool c.sd] 63)).alloc (.cells #[.slice none 0 0,.slice none 0 0,.int .u16 0,.int .u32 0,.int .u32 0,.bool false,.bool false,.bool false,.bool false] 63))):=by
  refine ⟨?_,(new_below w _).trans ((new_below _ _).mono (by simp))⟩
  have:=CyB.zero (w.alloc (.cells #[.slice a.g.a a.g.n a.g.c,.slice a.o.a a.o.n a.o.c,.int .u16 (c.cl:Int),.int .u32 (c.df:Int),.int .u32 (c.tt:Int),.bool c.ho,.bool c.hc,.bool c.ht,.bool c.sd] 63))
  rw[World.size_alloc] at this
  exact this
 clear h KF0
 by_cases hl:xn=1
 ·subst hl
  have hl1:=HL.out
  obtain ⟨p,rfl⟩:∃p,ws=[p]:=List.length_eq_one_iff.1 hl1.symm
  clear hl1
  obtain ⟨s,q⟩:=p
  obtain ⟨b,o,e0,hb,q1,q2,-⟩:=HW.out.rd.head
  simp only at e0
  subst e0
  have hsz:s.size<=1000000:=HW.out.wb.2 (s,q) (by simp)
  have d1:=(HC0.out.2.cell (p:=⟨b,o,none⟩) hb).trans q1
  have d2:=(HC0.out.2.cell (p:=⟨b,o+1,none⟩) hb).trans q2
  clear q1 q2
  cases q with
  |true=>
   have HR:Hid (cmdE 1 [(s,true)] c=.error 240):=rfl
   rw[HR.out]
   have HBB:Hid (∀o1 o2:Obj,Below w.heap.size w ((w.alloc o1).alloc o2)):=fun o1 o2=>(new_below w o1).trans ((new_below _ o2).mono (by simp))
   clear HC0 KF1
   go_enter Tryz.func37,Tryz.ntmps37
   go_wp2_with fail
   exact bodyPost_ret (v:=.tuple #[caV a c,.int .i64 240]) (by simp[results,Tryz.results37,go_sem]) rfl ⟨a,c,240,rfl,HBB.out _ _,.inr ⟨by decide,rfl⟩⟩
  |false=>
   have HR:Hid (cmdE 1 [(s,false)] c=orE s c):=rfl
   rw[HR.out]
   have KF2:Hid (∀W,Below w.heap.size w W->Calls Tryz.prog 61 #[.string s,caV a c] W (CmP (orE s c) a c W)):=fun W hW=>KF1.out W s hsz hW
   generalize orE s c=R at*
   clear KF1 HR HW HL
   go_enter Tryz.func37,Tryz.ntmps37
   go_wp2_with fail
   go_region_with (first
    |(go_at_call 61;refine (KF2.out _ (by first|exact HC0.out.2|exact HC0.out.2.drew)).mono ?_;rintro e W2 ⟨a',c',er,rfl,HB2,HQ⟩;have HZ:Hid (CyB W2 (w.heap.size+1) ca0 (cy0 [])):=(by first|exact HC0.out.1.below HB2.out|exact HC0.out.1.drew.below HB2.out);have z0:=HZ.out.c0;have z1:=HZ.out.c1;have z2:=HZ.out.c2;have z3:=HZ.out.c3;have z4:=HZ.out.c4;have z5:=HZ.out.c5;have z6:=HZ.out.c6;have z7:=HZ.out.c7;have z8:=HZ.out.c8;have zf0:=HZ.out.fz 0;have zf1:=HZ.out.fz 1;have zf2:=HZ.out.fz 2;have zf3:=HZ.out.fz 3;have zf4:=HZ.out.fz 4;have zf5:=HZ.out.fz 5;have zf6:=HZ.out.fz 6;have zf7:=HZ.out.fz 7;have zf8:=HZ.out.fz 8;have hlt1:=HZ.out.lt;simp only[ca0,cy0] at z0 z1 z2 z3 z4 z5 z6 z7 z8)
    |fail)
   all_goals
    have HBW:Hid (Below w.heap.size w W2):=(by first|exact HC0.out.2.trans (HB2.out.mono HC0.out.2.size)|exact HC0.out.2.drew.trans (HB2.out.mono HC0.out.2.size))
    have HX:Hid (CyB (((((((((W2.setCell ⟨w.heap.size+1,0,none⟩ (.slice a'.g.a a'.g.n a'.g.c)).setCell ⟨w.heap.size+1,1,none⟩ (.slice a'.o.a a'.o.n a'.o.c)).setCell ⟨w.heap.size+1,2,none⟩ (.int .u16 (c'.cl:Int))).setCell ⟨w.heap.size+1,3,none⟩ (.int .u32 (c'.df:Int))).setCell ⟨w.heap.size+1,4,none⟩ (.int .u32 (c'.tt:Int))).setCell ⟨w.heap.size+1,5,none⟩ (.bool c'.ho)).setCell ⟨w.heap.size+1,6,none⟩ (.bool c'.hc)).setCell ⟨w.heap.size+1,7,none⟩ (.bool c'.ht)).setCell ⟨w.heap.size+1,8,none⟩ (.bool c'.sd)) (w.heap.size+1) a' c'/\Below w.heap.size w (((((((((W2.setCell ⟨w.heap.size+1,0,none⟩ (.slice a'.g.a a'.g.n a'.g.c)).setCell ⟨w.heap.size+1,1,none⟩ (.slice a'.o.a a'.o.n a'.o.c)).setCell ⟨w.heap.size+1,2,none⟩ (.int .u16 (c'.cl:Int))).setCell ⟨w.heap.size+1,3,none⟩ (.int .u32 (c'.df:Int))).setCell ⟨w.heap.size+1,4,none⟩ (.int .u32 (c'.tt:Int))).setCell ⟨w.heap.size+1,5,none⟩ (.bool c'.ho)).setCell ⟨w.heap.size+1,6,none⟩ (.bool c'.hc)).setCell ⟨w.heap.size+1,7,none⟩ (.bool c'.ht)).setCell ⟨w.heap.size+1,8,none⟩ (.bool c'.sd))/\((er=0/\R=.ok c'/\a'.o=a.o/\((a'.g=a.g/\c'.og=c.og)∨Own1 w.heap.size (((((((((W2.setCell ⟨w.heap.size+1,0,none⟩ (.slice a'.g.a a'.g.n a'.g.c)).setCell ⟨w.heap.size+1,1,none⟩ (.slice a'.o.a a'.o.n a'.o.c)).setCell ⟨w.heap.size+1,2,none⟩ (.int .u16 (c'.cl:Int))).setCell ⟨w.heap.size+1,3,none⟩ (.int .u32 (c'.df:Int))).setCell ⟨w.heap.size+1,4,none⟩ (.int .u32 (c'.tt:Int))).setCell ⟨w.heap.size+1,5,none⟩ (.bool c'.ho)).setCell ⟨w.heap.size+1,6,none⟩ (.bool c'.hc)).setCell ⟨w.heap.size+1,7,none⟩ (.bool c'.ht)).setCell ⟨w.heap.size+1,8,none⟩ (.bool c'.sd)) a'.g c'.og))∨(er≠0/\R=.error er))):=⟨HZ.out.all a' c',below_nine HBW.out (by omega) _ _ _ _ _ _ _ _ _,by
     rcases HQ.out with ⟨h1,h2,h3,h4⟩|h1
     ·refine .inl ⟨h1,h2,h3,h4.imp id fun h=>own_nine2 h ?_ ?_⟩
      ·simp
      ·simp;omega
     ·exact .inr h1⟩
    clear HQ HB2 HZ HBW HC0 KF2
    go_wp2_with fail
    generalize (((((((((W2.setCell ⟨w.heap.size+1,0,none⟩ (.slice a'.g.a a'.g.n a'.g.c)).setCell ⟨w.heap.size+1,1,none⟩ (.slice a'.o.a a'.o.n a'.o.c)).setCell ⟨w.heap.size+1,2,none⟩ (.int .u16 (c'.cl:Int))).setCell ⟨w.heap.size+1,3,none⟩ (.int .u32 (c'.df:Int))).setCell ⟨w.heap.size+1,4,none⟩ (.int .u32 (c'.tt:Int))).setCell ⟨w.heap.size+1,5,none⟩ (.bool c'.ho)).setCell ⟨w.heap.size+1,6,none⟩ (.bool c'.hc)).setCell ⟨w.heap.size+1,7,none⟩ (.bool c'.ht)).setCell ⟨w.heap.size+1,8,none⟩ (.bool c'.sd))=W9 at*
    have y0:=HX.out.1.c0
    have y1:=HX.out.1.c1
    have y2:=HX.out.1.c2
    have y3:=HX.out.1.c3
    have y4:=HX.out.1.c4
    have y5:=HX.out.1.c5
    have y6:=HX.out.1.c6
    have y7:=HX.out.1.c7
    have y8:=HX.out.1.c8
    exact bodyPost_ret (v:=.tuple #[.agg #[.slice a'.g.a a'.g.n a'.g.c,.slice a'.o.a a'.o.n a'.o.c,.int .u16 (c'.cl:Int),.int .u32 (c'.df:Int),.int .u32 (c'.tt:Int),.bool c'.ho,.bool c'.hc,.bool c'.ht,.bool c'.sd],.int .i64 er]) (by simp[results,Tryz.results37,go_sem,y0,y1,y2,y3,y4,y5,y6,y7,y8]) rfl ⟨a',c',er,rfl,HX.out.2.1,HX.out.2.2⟩
 ·have HR:Hid (cmdE 1 ws c=.error 240):=by
   have:=HL.out
   exact cmd_long 1 ws c (by omega)
  rw[HR.out]
  have hl2:¬ (xn:Int)=1:=by omega
  have hl3:((xn:Int) != 1)=true:=by simpa using hl2
  have HBB:Hid (∀o1 o2:Obj,Below w.heap.size w ((w.alloc o1).alloc o2)):=fun o1 o2=>(new_below w o1).trans ((new_below _ o2).mono (by simp))
  clear HC0 KF1 HW HL HR
  go_enter Tryz.func37,Tryz.ntmps37
  go_wp2_with fail
  exact bodyPost_ret (v:=.tuple #[caV a c,.int .i64 240]) (by simp[results,Tryz.results37,go_sem]) rfl ⟨a,c,240,rfl,HBB.out _ _,.inr ⟨by decide,rfl⟩⟩
theorem obey62_any(x:Sl)(ws:List Wd)(a:CA)(c:Cy)(w:World)(h:Ws w x ws)(KF0:∀W s,s.size<=1000000->Below w.heap.size w W->Calls Tryz.prog 62 #[.string s,caV a c] W (CmP (dfE s c) a c W)):Calls Tryz.prog 37 #[.func (.func 62) #[] #[],.slice x.a x.n x.c,caV a c] w (CmP (cmdE 2 ws c) a c w):=by
 obtain ⟨xa,xn,xc⟩:=x
 have KF1:=Lib.hid KF0
 have HW:Hid (Ws w ⟨xa,xn,xc⟩ ws):=h
 have HL:Hid (xn=ws.length):=h.n
 have HC0:Hid (CyB ((w.alloc (.cells #[.slice a.g.a a.g.n a.g.c,.slice a.o.a a.o.n a.o.c,.int .u16 (c.cl:Int),.int .u32 (c.df:Int),.int .u32 (c.tt:Int),.bool c.ho,.bool c.hc,.bool c.ht,.bool c.sd] 63)).alloc (.cells #[.slice none 0 0,.slice none 0 0,.int .u16 0,.int .u32 0,.int .u32 0,.bool false,.bool false,.bool false,.bool false] 63)) (w.heap.size+1) ca0 (cy0 [])/\Below w.heap.size w ((w.alloc (.cells #[.slice a.g.a a.g.n a.g.c,.slice a.o.a a.o.n a.o.c,.int .u16 (c.cl:Int),.int .u32 (c.df:Int),.int .u32 (c.tt:Int),.bool c.ho,.bool c.hc,.bool c.ht,.bool c.sd] 63)).alloc (.cells #[.slice none 0 0,.slice none 0 0,.int .u16 0,.int .u32 0,.int .u32 0,.bool false,.bool false,.bool false,.bool false] 63))):=by
  refine ⟨?_,(new_below w _).trans ((new_below _ _).mono (by simp))⟩
  have:=CyB.zero (w.alloc (.cells #[.slice a.g.a a.g.n a.g.c,.slice a.o.a a.o.n a.o.c,.int .u16 (c.cl:Int),.int .u32 (c.df:Int),.int .u32 (c.tt:Int),.bool c.ho,.bool c.hc,.bool c.ht,.bool c.sd] 63))
  rw[World.size_alloc] at this
  exact this
 clear h KF0
 by_cases hl:xn=1
 ·subst hl
  have hl1:=HL.out
  obtain ⟨p,rfl⟩:∃p,ws=[p]:=List.length_eq_one_iff.1 hl1.symm
  clear hl1
  obtain ⟨s,q⟩:=p
  obtain ⟨b,o,e0,hb,q1,q2,-⟩:=HW.out.rd.head
  simp only at e0
  subst e0
  have hsz:s.size<=1000000:=HW.out.wb.2 (s,q) (by simp)
  have d1:=(HC0.out.2.cell (p:=⟨b,o,none⟩) hb).trans q1
  have d2:=(HC0.out.2.cell (p:=⟨b,o+1,none⟩) hb).trans q2
  clear q1 q2
  cases q with
  |true=>
   have HR:Hid (cmdE 2 [(s,true)] c=.error 240):=rfl
   rw[HR.out]
   have HBB:Hid (∀o1 o2:Obj,Below w.heap.size w ((w.alloc o1).alloc o2)):=fun o1 o2=>(new_below w o1).trans ((new_below _ o2).mono (by simp))
   clear HC0 KF1
   go_enter Tryz.func37,Tryz.ntmps37
   go_wp2_with fail
   exact bodyPost_ret (v:=.tuple #[caV a c,.int .i64 240]) (by simp[results,Tryz.results37,go_sem]) rfl ⟨a,c,240,rfl,HBB.out _ _,.inr ⟨by decide,rfl⟩⟩
  |false=>
   have HR:Hid (cmdE 2 [(s,false)] c=dfE s c):=rfl
   rw[HR.out]
   have KF2:Hid (∀W,Below w.heap.size w W->Calls Tryz.prog 62 #[.string s,caV a c] W (CmP (dfE s c) a c W)):=fun W hW=>KF1.out W s hsz hW
   generalize dfE s c=R at*
   clear KF1 HR HW HL
   go_enter Tryz.func37,Tryz.ntmps37
   go_wp2_with fail
   go_region_with (first
    |(go_at_call 62;refine (KF2.out _ (by first|exact HC0.out.2|exact HC0.out.2.drew)).mono ?_;rintro e W2 ⟨a',c',er,rfl,HB2,HQ⟩;have HZ:Hid (CyB W2 (w.heap.size+1) ca0 (cy0 [])):=(by first|exact HC0.out.1.below HB2.out|exact HC0.out.1.drew.below HB2.out);have z0:=HZ.out.c0;have z1:=HZ.out.c1;have z2:=HZ.out.c2;have z3:=HZ.out.c3;have z4:=HZ.out.c4;have z5:=HZ.out.c5;have z6:=HZ.out.c6;have z7:=HZ.out.c7;have z8:=HZ.out.c8;have zf0:=HZ.out.fz 0;have zf1:=HZ.out.fz 1;have zf2:=HZ.out.fz 2;have zf3:=HZ.out.fz 3;have zf4:=HZ.out.fz 4;have zf5:=HZ.out.fz 5;have zf6:=HZ.out.fz 6;have zf7:=HZ.out.fz 7;have zf8:=HZ.out.fz 8;have hlt1:=HZ.out.lt;simp only[ca0,cy0] at z0 z1 z2 z3 z4 z5 z6 z7 z8)
    |fail)
   all_goals
    have HBW:Hid (Below w.heap.size w W2):=(by first|exact HC0.out.2.trans (HB2.out.mono HC0.out.2.size)|exact HC0.out.2.drew.trans (HB2.out.mono HC0.out.2.size))
    have HX:Hid (CyB (((((((((W2.setCell ⟨w.heap.size+1,0,none⟩ (.slice a'.g.a a'.g.n a'.g.c)).setCell ⟨w.heap.size+1,1,none⟩ (.slice a'.o.a a'.o.n a'.o.c)).setCell ⟨w.heap.size+1,2,none⟩ (.int .u16 (c'.cl:Int))).setCell ⟨w.heap.size+1,3,none⟩ (.int .u32 (c'.df:Int))).setCell ⟨w.heap.size+1,4,none⟩ (.int .u32 (c'.tt:Int))).setCell ⟨w.heap.size+1,5,none⟩ (.bool c'.ho)).setCell ⟨w.heap.size+1,6,none⟩ (.bool c'.hc)).setCell ⟨w.heap.size+1,7,none⟩ (.bool c'.ht)).setCell ⟨w.heap.size+1,8,none⟩ (.bool c'.sd)) (w.heap.size+1) a' c'/\Below w.heap.size w (((((((((W2.setCell ⟨w.heap.size+1,0,none⟩ (.slice a'.g.a a'.g.n a'.g.c)).setCell ⟨w.heap.size+1,1,none⟩ (.slice a'.o.a a'.o.n a'.o.c)).setCell ⟨w.heap.size+1,2,none⟩ (.int .u16 (c'.cl:Int))).setCell ⟨w.heap.size+1,3,none⟩ (.int .u32 (c'.df:Int))).setCell ⟨w.heap.size+1,4,none⟩ (.int .u32 (c'.tt:Int))).setCell ⟨w.heap.size+1,5,none⟩ (.bool c'.ho)).setCell ⟨w.heap.size+1,6,none⟩ (.bool c'.hc)).setCell ⟨w.heap.size+1,7,none⟩ (.bool c'.ht)).setCell ⟨w.heap.size+1,8,none⟩ (.bool c'.sd))/\((er=0/\R=.ok c'/\a'.o=a.o/\((a'.g=a.g/\c'.og=c.og)∨Own1 w.heap.size (((((((((W2.setCell ⟨w.heap.size+1,0,none⟩ (.slice a'.g.a a'.g.n a'.g.c)).setCell ⟨w.heap.size+1,1,none⟩ (.slice a'.o.a a'.o.n a'.o.c)).setCell ⟨w.heap.size+1,2,none⟩ (.int .u16 (c'.cl:Int))).setCell ⟨w.heap.size+1,3,none⟩ (.int .u32 (c'.df:Int))).setCell ⟨w.heap.size+1,4,none⟩ (.int .u32 (c'.tt:Int))).setCell ⟨w.heap.size+1,5,none⟩ (.bool c'.ho)).setCell ⟨w.heap.size+1,6,none⟩ (.bool c'.hc)).setCell ⟨w.heap.size+1,7,none⟩ (.bool c'.ht)).setCell ⟨w.heap.size+1,8,none⟩ (.bool c'.sd)) a'.g c'.og))∨(er≠0/\R=.error er))):=⟨HZ.out.all a' c',below_nine HBW.out (by omega) _ _ _ _ _ _ _ _ _,by
     rcases HQ.out with ⟨h1,h2,h3,h4⟩|h1
     ·refine .inl ⟨h1,h2,h3,h4.imp id fun h=>own_nine2 h ?_ ?_⟩
      ·simp
      ·simp;omega
     ·exact .inr h1⟩
    clear HQ HB2 HZ HBW HC0 KF2
    go_wp2_with fail
    generalize (((((((((W2.setCell ⟨w.heap.size+1,0,none⟩ (.slice a'.g.a a'.g.n a'.g.c)).setCell ⟨w.heap.size+1,1,none⟩ (.slice a'.o.a a'.o.n a'.o.c)).setCell ⟨w.heap.size+1,2,none⟩ (.int .u16 (c'.cl:Int))).setCell ⟨w.heap.size+1,3,none⟩ (.int .u32 (c'.df:Int))).setCell ⟨w.heap.size+1,4,none⟩ (.int .u32 (c'.tt:Int))).setCell ⟨w.heap.size+1,5,none⟩ (.bool c'.ho)).setCell ⟨w.heap.size+1,6,none⟩ (.bool c'.hc)).setCell ⟨w.heap.size+1,7,none⟩ (.bool c'.ht)).setCell ⟨w.heap.size+1,8,none⟩ (.bool c'.sd))=W9 at*
    have y0:=HX.out.1.c0
    have y1:=HX.out.1.c1
    have y2:=HX.out.1.c2
    have y3:=HX.out.1.c3
    have y4:=HX.out.1.c4
    have y5:=HX.out.1.c5
    have y6:=HX.out.1.c6
    have y7:=HX.out.1.c7
    have y8:=HX.out.1.c8
    exact bodyPost_ret (v:=.tuple #[.agg #[.slice a'.g.a a'.g.n a'.g.c,.slice a'.o.a a'.o.n a'.o.c,.int .u16 (c'.cl:Int),.int .u32 (c'.df:Int),.int .u32 (c'.tt:Int),.bool c'.ho,.bool c'.hc,.bool c'.ht,.bool c'.sd],.int .i64 er]) (by simp[results,Tryz.results37,go_sem,y0,y1,y2,y3,y4,y5,y6,y7,y8]) rfl ⟨a',c',er,rfl,HX.out.2.1,HX.out.2.2⟩
 ·have HR:Hid (cmdE 2 ws c=.error 240):=by
   have:=HL.out
   exact cmd_long 2 ws c (by omega)
  rw[HR.out]
  have hl2:¬ (xn:Int)=1:=by omega
  have hl3:((xn:Int) != 1)=true:=by simpa using hl2
  have HBB:Hid (∀o1 o2:Obj,Below w.heap.size w ((w.alloc o1).alloc o2)):=fun o1 o2=>(new_below w o1).trans ((new_below _ o2).mono (by simp))
  clear HC0 KF1 HW HL HR
  go_enter Tryz.func37,Tryz.ntmps37
  go_wp2_with fail
  exact bodyPost_ret (v:=.tuple #[caV a c,.int .i64 240]) (by simp[results,Tryz.results37,go_sem]) rfl ⟨a,c,240,rfl,HBB.out _ _,.inr ⟨by decide,rfl⟩⟩
end Go.Proofs.YtjkljpdolhglcaaGreatDoor
namespace Go.Proofs.YtjkljpdolhglcaaGreatDoor
open Go.ChangeShapes Go.WideShapes Go.ChangeAt Go.RowKit
open Go.Maps (Keyed)
def fnR(v:Value):Option (DataW Unit × List MemPlace):=
 match v with
 | .func (.func 61) ⟨[]⟩ ⟨[]⟩=>some (.lit (.int .i64 1),[])
 | .func (.func 62) ⟨[]⟩ ⟨[]⟩=>some (.lit (.int .i64 2),[])
 | .nilFunc=>some (.lit (.int .i64 0),[])
 |_=>none
def cmdD:DataW Unit:=((DataW.map []).put (.string [36,111,114,105,103,105,110]) (.lit (.int .i64 1))).put (.string [36,116,116,108]) (.lit (.int .i64 2))
theorem cmdD_eq:cmdD=.map [(.string [36,111,114,105,103,105,110],.lit (.int .i64 1)),(.string [36,116,116,108],.lit (.int .i64 2))]:=by rfl
def cmdN(s:ByteArray):Nat:=if s=cOrigin then 1 else if s=cTTL then 2 else 0
theorem data_eq{s t:ByteArray}(h:s.data.toList=t.data.toList):s=t:=by
 obtain ⟨⟨a⟩⟩:=s
 obtain ⟨⟨b⟩⟩:=t
 simp at h
 rw[h]
theorem cmd_has(s:ByteArray):Maps.has cmdD (.string s.data.toList)=decide (cmdN s≠0)/\cmdD.atKey (.string s.data.toList) (.lit (.int .i64 0))=.lit (.int .i64 (cmdN s:Int)):=by
 rw[cmdD_eq]
 by_cases h1:s=cOrigin
 ·subst h1
  exact ⟨rfl,rfl⟩
 ·by_cases h2:s=cTTL
  ·subst h2
   exact ⟨rfl,rfl⟩
  ·have e1:¬ [36,111,114,105,103,105,110]=s.data.toList:=fun h=>h1 (data_eq (t:=cOrigin) h.symm)
   have e2:¬ [36,116,116,108]=s.data.toList:=fun h=>h2 (data_eq (t:=cTTL) h.symm)
   have e3:cmdN s=0:=by unfold cmdN;rw[if_neg h1,if_neg h2]
   rw[e3]
   simp[Maps.has,DataW.atKey,Lit.sameKey,e1,e2]
theorem fnR_inv{v:Value}{ps:List MemPlace}{k:Nat}(h:fnR v=some (.lit (.int .i64 (k:Int)),ps)):(k=0->v=.nilFunc)/\(k=1->v=.func (.func 61) #[] #[])/\(k=2->v=.func (.func 62) #[] #[]):=by
 unfold fnR at h
 split at h
 ·simp at h;refine ⟨fun e=>by omega,fun _=>rfl,fun e=>by omega⟩
 ·simp at h;refine ⟨fun e=>by omega,fun e=>by omega,fun _=>rfl⟩
 ·simp at h;refine ⟨fun _=>rfl,fun e=>by omega,fun e=>by omega⟩
 ·cases h
theorem inf93:Tryz.t93.zero=some .nilFunc:=by kernel_rfl
theorem zero93(w:World):(zeroValue 93).run Tryz.prog w=.ok .nilFunc w:=by
 simp[zeroValue]
 rw[inf93]
 rfl
theorem keyed9:Keyed Tryz.prog 9:=Maps.string_keyed Tryz.underlying9
theorem key9(s:ByteArray)(h:s.size<=maxLen):keyOf Tryz.prog 9 (.string s)=some (.string s.data.toList):=by
 simp[keyOf,Tryz.underlying9,mapKey,h]
theorem wpList_insert_own{H:Type}{P:Program}(w:World){ops:Array Oper}{rest:List Oper}{o:Oper}{a:Act}{Q:Exit->Act->World->Prop}
  (hg:o.guard=none) (m x v:Operand) (t:TypeId) (hop:o.op=Op.insert t m x v)
  (k e:TypeId) (K:Keyed P k) (ht:P.underlying t=some (.map k e)) (R:Value->Option (DataW H × List MemPlace)) (b n:Nat) (D:DataW H)
  (hm:a.eval m=.map (some b)) (hown:w.ownsMap P k R b n D) (hn:n<maxLen) (key val:Value) (kl:Lit) (hx:a.eval x=key) (hv:a.eval v=val) (hkey:keyOf P k key=some kl)
  (d:DataW H) (ps:List MemPlace) (hval:R val=some (d,ps))
  (hK:∀w',w'.ownsMap P k R b (n+1) (D.put kl d)->w.grownBy w' (some b)->wpList P ops Q rest (a.put o.dst undef) w') :
  wpList P ops Q (o::rest) a w:=by
 refine wpList_plain hg fun K' hK'=>?_
 obtain ⟨w',hrun,r1,r2⟩:=hown.update K ht hn hkey hval
 unfold Oper.wp
 simp[execOp,hop,hm,hx,hv,hrun,Result.andThen]
 exact hK' _ _ (hK w' r1 r2)
theorem below_more{w w1 w2:World}{g:Nat}(hb:Below w.heap.size w w1)(hg:w1.grownBy w2 (some g))(h:w.heap.size<=g):Below w.heap.size w w2:=
 ⟨hg.os.trans hb.os,hg.tape.trans hb.tape,hg.output.trans hb.output,Nat.le_trans hb.size hg.size,fun j hj=>(hg.block j (Nat.lt_of_lt_of_le hj hb.size) (fun e=>by injection e with e;omega)).trans (hb.block j hj)⟩
theorem commands_any(w:World):Calls Tryz.prog 35 #[] w fun e w'=>∃b,e=.returned (.map (some b))/\Hid (w.heap.size<=b/\w'.ownsMap Tryz.prog 9 fnR b 2 cmdD/\Below w.heap.size w w'):=by
 have hmm:=@run_makeMap Tryz.prog
 have HO:Hid ((w.alloc (.map #[] 0)).ownsMap Tryz.prog 9 fnR w.heap.size 0 (.map [])):=World.ownsMap_made w _ _ _
 go_enter Tryz.func35,Tryz.ntmps35
 go_wp2_with (first
  |(refine wpList_insert_own _ rfl _ _ _ 90 rfl 9 93 keyed9 Tryz.underlying90 fnR w.heap.size 0 (.map []) rfl HO.out (by decide) _ _ _ rfl rfl (key9 cOrigin (by decide)) (.lit (.int .i64 1)) [] rfl ?_;intro w1 ho1 hg1;have HO1:=Lib.hid ho1;have HG1:=Lib.hid hg1;clear ho1 hg1)
  |(refine wpList_insert_own _ rfl _ _ _ 90 rfl 9 93 keyed9 Tryz.underlying90 fnR w.heap.size 1 _ rfl HO1.out (by decide) _ _ _ rfl rfl (key9 cTTL (by decide)) (.lit (.int .i64 2)) [] rfl ?_;intro w2 ho2 hg2;have HO2:=Lib.hid ho2;have HG2:=Lib.hid hg2;clear ho2 hg2)
  |fail)
 go_ret
 exact ⟨_,rfl,Nat.le_refl _,HO2.out,below_more (below_more (new_below w _) HG1.out (Nat.le_refl _)) HG2.out (Nat.le_refl _)⟩
end Go.Proofs.YtjkljpdolhglcaaGreatDoor
namespace Go.Proofs.YtjkljpdolhglcaaGreatDoor
open Go.ChangeShapes Go.WideShapes Go.ChangeAt Go.RowKit
theorem ownsRow_stays{B e k n:Nat}{v:Value}{xs:List Value}{w w':World}(h:w.ownsRow B e k v n xs)(hb:Below w.heap.size w w'):w'.ownsRow B e k v n xs:=
 h.kept (row:=none) ⟨hb.os,hb.tape,hb.output,hb.size,fun j hj _=>hb.block j hj⟩ (by cases v.ownBlock with|none=>exact .inl rfl|some j=>exact .inr (by simp))
theorem ownsRow_low{B B' e k n:Nat}{v:Value}{xs:List Value}{w:World}(h:w.ownsRow B e k v n xs)(hB:B'<=B):w.ownsRow B' e k v n xs:=
 ⟨h.1,h.2.elim .inl (fun ⟨g,cap,cur,e,hb,r⟩=>.inr ⟨g,cap,cur,e,Nat.le_trans hB hb,r⟩)⟩
structure RA where
 o:Sl
 d:DA
def recCells(x:RA)(r:Rec):List Value:=[.slice x.o.a x.o.n x.o.c,.int .u16 r.t,.int .u16 r.cl,.int .u32 r.tt,.slice x.d.p1.a x.d.p1.n x.d.p1.c,.slice x.d.p2.a x.d.p2.n x.d.p2.c,.slice x.d.p3.a x.d.p3.n x.d.p3.c,.slice x.d.p4.a x.d.p4.n x.d.p4.c]
def cellsR(ps:List (RA × Rec)):List Value:=ps.flatMap fun p=>recCells p.1 p.2
theorem cellsR_at(ps:List (RA × Rec))(k:Nat)(h:k<ps.length)(j:Nat)(hj:j<8):(cellsR ps)[k*8+j]?=(recCells ps[k].1 ps[k].2)[j]?:=by
 induction ps generalizing k with
 |nil=>simp at h
 |cons p ws ih=>
  have hc:cellsR (p::ws)=recCells p.1 p.2++cellsR ws:=by simp[cellsR]
  have h8:(recCells p.1 p.2).length=8:=rfl
  rw[hc]
  cases k with
  |zero=>rw[List.getElem?_append_left (by rw[h8];omega)];simp
  |succ k=>
   have:=ih k (by simpa using h)
   rw[List.getElem?_append_right (by rw[h8];omega),h8,show (k+1)*8+j - 8=k*8+j by omega,this]
   simp
theorem cellsR_app(a b:List (RA × Rec)):cellsR (a++b)=cellsR a++cellsR b:=by simp[cellsR]
theorem cellsR_one(xs:List (RA × Rec)):∀u∈cellsR xs,u.oneCell'=true:=by
 intro u hu
 simp only[cellsR,List.mem_flatMap] at hu
 obtain ⟨p,_,hu⟩:=hu
 simp[recCells] at hu
 rcases hu with rfl|rfl|rfl|rfl|rfl|rfl|rfl|rfl <;> rfl
def RRd(w:World)(x:RA)(r:Rec):Prop:=TRd w x.o r.ow/\DRd w x.d r.d
theorem RRd.below{w w':World}{x:RA}{r:Rec}(h:RRd w x r)(hb:Below w.heap.size w w'):RRd w' x r:=⟨h.1.below hb,h.2.below hb⟩
def ROwx(B:Nat)(w:World)(x:RA)(r:Rec):Prop:=Own1 B w x.o r.ow/\DOwn B w x.d r.d
def RdR(w:World)(a:Option Addr)(rs:List Rec):Prop:=
 rs=[]∨∃b o,a=some ⟨b,o,none⟩/\b<w.heap.size/\∀i (h:i<rs.length),∃x:RA,(∀j (hj:j<8),w.cell? ⟨b,o+i*8+j,none⟩=(recCells x rs[i])[j]?)/\RRd w x rs[i]
theorem RdR.below{w w':World}{a:Option Addr}{rs:List Rec}(h:RdR w a rs)(hb:Below w.heap.size w w'):RdR w' a rs:=by
 rcases h with h|⟨b,o,h1,h2,h3⟩
 ·exact .inl h
 ·refine .inr ⟨b,o,h1,Nat.lt_of_lt_of_le h2 hb.size,fun i hi=>?_⟩
  obtain ⟨x,e1,e5⟩:=h3 i hi
  exact ⟨x,fun j hj=>(hb.cell (p:=⟨b,o+i*8+j,none⟩) h2).trans (e1 j hj),e5.below hb⟩
theorem RdR.at{w:World}{a:Option Addr}{rs:List Rec}(h:RdR w a rs)(i:Nat)(hi:i<rs.length):∃b o,a=some ⟨b,o,none⟩/\b<w.heap.size/\∃x:RA,(∀j (hj:j<8),w.cell? ⟨b,o+i*8+j,none⟩=(recCells x rs[i])[j]?)/\RRd w x rs[i]:=by
 rcases h with h|⟨b,o,h1,h2,h3⟩
 ·subst h;simp at hi
 ·exact ⟨b,o,h1,h2,h3 i hi⟩
def RfR(B:Nat)(w:World)(g:Option Nat)(x:RA)(r:Rec):Prop:=
 ∀w':World,w.heap.size<=w'.heap.size->(∀j,j<w.heap.size->B<=j->some j≠g->w'.heap[j]?=w.heap[j]?)->RRd w' x r
theorem RfR.of{B B':Nat}{w:World}{g:Option Nat}{x:RA}{r:Rec}(h:ROwx B' w x r)(hB:B<=B')(hg:∀k,g=some k->k<B'):RfR B w g x r:=by
 intro w' hs hb
 have hk:∀j,B'<=j->j<w.heap.size->w'.heap[j]?=w.heap[j]?:=fun j h1 h2=>hb j h2 (by omega) (fun e=>by have:=hg j e.symm;omega)
 exact ⟨(h.1.keep (fun j h1 h2 _=>hk j h1 h2)).rd,(h.2.keep hk).rd⟩
theorem RfR.go{B:Nat}{w w':World}{g g':Option Nat}{x:RA}{r:Rec}(h:RfR B w g x r)(hs:w.heap.size<=w'.heap.size)(hb:∀j,j<w.heap.size->B<=j->some j≠g->w'.heap[j]?=w.heap[j]?)(hg:∀j,j<w.heap.size->some j≠g->some j≠g'):RfR B w' g' x r:=by
 intro w2 hs2 hb2
 exact h w2 (Nat.le_trans hs hs2) (fun j h1 h2 h3=>(hb2 j (by omega) h2 (hg j h1 h3)).trans (hb j h1 h2 h3))
def OwR(B:Nat)(w:World)(v:Value)(rs:List Rec):Prop:=
 ∃ps:List (RA × Rec),ps.map (·.2)=rs/\w.ownsRow B 50 8 v ps.length (cellsR ps)/\∀p∈ps,RfR B w v.ownBlock p.1 p.2
theorem OwR.stays{B:Nat}{w w':World}{v:Value}{rs:List Rec}(h:OwR B w v rs)(hb:Below w.heap.size w w'):OwR B w' v rs:=by
 obtain ⟨ps,h1,h2,h3⟩:=h
 exact ⟨ps,h1,ownsRow_stays h2 hb,fun p hp=>(h3 p hp).go hb.size (fun j hj _ _=>hb.block j hj) (fun j _ h=>h)⟩
theorem OwR.mono{B B':Nat}{w:World}{v:Value}{rs:List Rec}(h:OwR B w v rs)(hB:B'<=B):OwR B' w v rs:=by
 obtain ⟨ps,h1,h2,h3⟩:=h
 exact ⟨ps,h1,ownsRow_low h2 hB,fun p hp w' hs hb=>h3 p hp w' hs (fun j e1 e2 e3=>hb j e1 (by omega) e3)⟩
theorem OwR.rd{B:Nat}{w:World}{v:Value}{rs:List Rec}(h:OwR B w v rs):∃a c,v=.slice a rs.length c/\RdR w a rs/\rs.length<=c/\c<=9223372036854775807/\(a=none->c=0):=by
 obtain ⟨ps,rfl,h2,h3⟩:=h
 have hpl:(ps.map (·.2)).length=ps.length:=by simp
 rw[hpl]
 rcases h2.2 with ⟨rfl,h0⟩|⟨g,cap,cur,rfl,hb,hg,k1,k2,k3,k4⟩
 ·have:ps=[]:=List.length_eq_zero_iff.1 h0
  subst this
  exact ⟨none,0,rfl,.inl rfl,by simp,by omega,fun _=>rfl⟩
 ·refine ⟨_,cap,rfl,.inr ⟨g,0,rfl,(Array.getElem?_eq_some_iff.1 hg).1,fun i hi=>?_⟩,k1,by simpa only[maxLen] using k2,by simp⟩
  have hi':i<ps.length:=by simpa using hi
  have ad:∀j,(⟨g,0,none⟩:Addr).add j=⟨g,0+j,none⟩:=fun j=>by unfold Addr.add;split <;> simp_all
  have hgi:(ps.map (·.2))[i]=ps[i].2:=by simp
  refine ⟨ps[i].1,fun j hj=>?_,?_⟩
  ·rw[hgi]
   have e1:=cellsR_at ps i hi' j hj
   have hlt:j<(recCells ps[i].1 ps[i].2).length:=hj
   rw[List.getElem?_eq_getElem hlt] at e1 ⊢
   have:=h2.cells (g:=g) rfl _ _ e1
   rw[ad] at this
   rw[Nat.add_assoc];exact this
  ·rw[hgi]
   exact h3 ps[i] (List.getElem_mem _) w (Nat.le_refl _) (fun _ _ _ _=>rfl)
theorem inf69:(Tryz.prog.info? 50).map (fun i=>(i.zero,i.size,i.bytes))=some (some (.agg #[.slice none 0 0,.int .u16 0,.int .u16 0,.int .u32 0,.slice none 0 0,.slice none 0 0,.slice none 0 0,.slice none 0 0]),8,128):=by kernel_rfl
theorem inf69':∃i,Tryz.prog.info? 50=some i/\i.zero=some (.agg #[.slice none 0 0,.int .u16 0,.int .u16 0,.int .u32 0,.slice none 0 0,.slice none 0 0,.slice none 0 0,.slice none 0 0])/\i.size=8/\i.bytes=128:=by
 obtain ⟨i,h1,h2⟩:=Option.map_eq_some_iff.1 inf69
 simp only[Prod.mk.injEq] at h2
 exact ⟨i,h1,h2.1,h2.2.1,h2.2.2⟩
theorem one_rec(w:World)(x:RA)(r:Rec):∀j u,(cellsR [(x,r)])[j]?=some u->(w.alloc (.cells (recCells x r).toArray 50)).cell? ((⟨w.heap.size,0,none⟩:Addr).add j)=some u:=by
 intro j u hu
 have ad:(⟨w.heap.size,0,none⟩:Addr).add j=⟨w.heap.size,j,none⟩:=by unfold Addr.add;split <;> simp_all
 rw[ad]
 unfold World.cell?
 rw[heap_alloc_new]
 have:cellsR [(x,r)]=recCells x r:=by simp[cellsR]
 rw[this] at hu
 simpa using hu
theorem tk_stored{y y':Say}{p:Wd}(h:tkF y p=.ok y')(h0:y.hk=false)(h1:y'.hk=true):storedF (y'.k:Int)=true:=by
 unfold tkF at h
 split at h
 ·cases h
 split at h
 ·cases h
 split at h
 ·cases h
 split at h
 ·split at h
  ·injection h with h;subst h;rw[show y.hk=true from h1] at h0;cases h0
  ·cases h
 split at h
 ·split at h
  ·injection h with h;subst h;rw[show y.hk=true from h1] at h0;cases h0
  ·cases h
 ·split at h
  ·split at h
   ·rename_i hs
    injection h with h;subst h
    exact hs
   ·cases h
  ·cases h
theorem says_stored:∀(ws:List Wd) (y y':Say) (r:List Wd),y.hk=false->saysF y ws=.ok (y',r)->storedF (y'.k:Int)=true
 |[],y,y',r,h0,h=>by cases h
 |p::l,y,y',r,h0,h=>by
  rw[says_cons] at h
  cases hk:tkF y p with
  |error e=>rw[hk] at h;cases h
  |ok y1=>
   rw[hk] at h
   simp only at h
   cases hk1:y1.hk with
   |true=>
    rw[hk1] at h
    simp at h
    obtain ⟨rfl,rfl⟩:=h
    exact tk_stored hk h0 hk1
   |false=>
    rw[hk1] at h
    exact says_stored l y1 y' r hk1 (by simpa using h)
theorem stored_may{k:Nat}(h:storedF (k:Int)=true):mayT k=true:=by
 unfold storedF at h
 unfold mayT
 simp at h ⊢
 omega
theorem prs_soa{k:Nat}{og:List ByteArray}{ws:List Wd}{d:Dat}(h:prsF k og ws=some d)(hk:k=6):d.us.length=5:=by
 subst hk
 unfold prsF at h
 rw[Option.bind_eq_some_iff] at h
 obtain ⟨d1,-,h2⟩:=h
 split at h2
 ·rename_i hc
  injection h2 with h2
  subst h2
  unfold checkF at hc
  split at hc
  ·split at hc
   ·rename_i hf
    unfold fitsB at hf
    simp[shp] at hf
    omega
   ·cases hc
  ·cases hc
 ·cases h2
def RcB(w:World)(b:Nat)(x:RA)(r:Rec):Prop:=w.heap[b]?=some (.cells #[.slice x.o.a x.o.n x.o.c,.int .u16 (r.t:Int),.int .u16 (r.cl:Int),.int .u32 (r.tt:Int),.slice x.d.p1.a x.d.p1.n x.d.p1.c,.slice x.d.p2.a x.d.p2.n x.d.p2.c,.slice x.d.p3.a x.d.p3.n x.d.p3.c,.slice x.d.p4.a x.d.p4.n x.d.p4.c] 50 (0,0))
theorem RcB.lt{w:World}{b:Nat}{x:RA}{r:Rec}(h:RcB w b x r):b<w.heap.size:=(Array.getElem?_eq_some_iff.1 h).1
theorem RcB.c0{w:World}{b:Nat}{x:RA}{r:Rec}(h:RcB w b x r):w.cell? ⟨b,0,none⟩=some (.slice x.o.a x.o.n x.o.c):=by unfold World.cell?;rw[show w.heap[b]?=_ from h];rfl
theorem RcB.c1{w:World}{b:Nat}{x:RA}{r:Rec}(h:RcB w b x r):w.cell? ⟨b,1,none⟩=some (.int .u16 (r.t:Int)):=by unfold World.cell?;rw[show w.heap[b]?=_ from h];rfl
theorem RcB.c2{w:World}{b:Nat}{x:RA}{r:Rec}(h:RcB w b x r):w.cell? ⟨b,2,none⟩=some (.int .u16 (r.cl:Int)):=by unfold World.cell?;rw[show w.heap[b]?=_ from h];rfl
theorem RcB.c3{w:World}{b:Nat}{x:RA}{r:Rec}(h:RcB w b x r):w.cell? ⟨b,3,none⟩=some (.int .u32 (r.tt:Int)):=by unfold World.cell?;rw[show w.heap[b]?=_ from h];rfl
theorem RcB.c4{w:World}{b:Nat}{x:RA}{r:Rec}(h:RcB w b x r):w.cell? ⟨b,4,none⟩=some (.slice x.d.p1.a x.d.p1.n x.d.p1.c):=by unfold World.cell?;rw[show w.heap[b]?=_ from h];rfl
theorem RcB.c5{w:World}{b:Nat}{x:RA}{r:Rec}(h:RcB w b x r):w.cell? ⟨b,5,none⟩=some (.slice x.d.p2.a x.d.p2.n x.d.p2.c):=by unfold World.cell?;rw[show w.heap[b]?=_ from h];rfl
theorem RcB.c6{w:World}{b:Nat}{x:RA}{r:Rec}(h:RcB w b x r):w.cell? ⟨b,6,none⟩=some (.slice x.d.p3.a x.d.p3.n x.d.p3.c):=by unfold World.cell?;rw[show w.heap[b]?=_ from h];rfl
theorem RcB.c7{w:World}{b:Nat}{x:RA}{r:Rec}(h:RcB w b x r):w.cell? ⟨b,7,none⟩=some (.slice x.d.p4.a x.d.p4.n x.d.p4.c):=by unfold World.cell?;rw[show w.heap[b]?=_ from h];rfl
theorem RcB.fz{w:World}{b:Nat}{x:RA}{r:Rec}(h:RcB w b x r)(i:Nat):w.frozen? ⟨b,i,none⟩=false:=by
 unfold World.frozen?
 rw[show w.heap[b]?=_ from h]
 simp
theorem eight_set(x0 x1 x2 x3 x4 x5 x6 x7 v0 v1 v2 v3 v4 v5 v6 v7:Value):((((((((#[x0,x1,x2,x3,x4,x5,x6,x7].setIfInBounds 0 v0).setIfInBounds 1 v1).setIfInBounds 2 v2).setIfInBounds 3 v3).setIfInBounds 4 v4).setIfInBounds 5 v5).setIfInBounds 6 v6).setIfInBounds 7 v7)=#[v0,v1,v2,v3,v4,v5,v6,v7]:=by simp
theorem RcB.all{w:World}{b:Nat}{x:RA}{r:Rec}(h:RcB w b x r)(x':RA)(r':Rec):RcB ((((((((w.setCell ⟨b,0,none⟩ (.slice x'.o.a x'.o.n x'.o.c)).setCell ⟨b,1,none⟩ (.int .u16 (r'.t:Int))).setCell ⟨b,2,none⟩ (.int .u16 (r'.cl:Int))).setCell ⟨b,3,none⟩ (.int .u32 (r'.tt:Int))).setCell ⟨b,4,none⟩ (.slice x'.d.p1.a x'.d.p1.n x'.d.p1.c)).setCell ⟨b,5,none⟩ (.slice x'.d.p2.a x'.d.p2.n x'.d.p2.c)).setCell ⟨b,6,none⟩ (.slice x'.d.p3.a x'.d.p3.n x'.d.p3.c)).setCell ⟨b,7,none⟩ (.slice x'.d.p4.a x'.d.p4.n x'.d.p4.c)) b x' r':=by
 unfold RcB at h ⊢
 have h0:=heap_set h 0 (.slice x'.o.a x'.o.n x'.o.c)
 have h1:=heap_set h0 1 (.int .u16 (r'.t:Int))
 have h2:=heap_set h1 2 (.int .u16 (r'.cl:Int))
 have h3:=heap_set h2 3 (.int .u32 (r'.tt:Int))
 have h4:=heap_set h3 4 (.slice x'.d.p1.a x'.d.p1.n x'.d.p1.c)
 have h5:=heap_set h4 5 (.slice x'.d.p2.a x'.d.p2.n x'.d.p2.c)
 have h6:=heap_set h5 6 (.slice x'.d.p3.a x'.d.p3.n x'.d.p3.c)
 have h7:=heap_set h6 7 (.slice x'.d.p4.a x'.d.p4.n x'.d.p4.c)
 rw[eight_set] at h7
 exact h7
theorem eight_heap(W:World)(g:Nat)(v0 v1 v2 v3 v4 v5 v6 v7:Value)(j:Nat)(hj:j≠g):(((((((((W.setCell ⟨g,0,none⟩ (v0)).setCell ⟨g,1,none⟩ (v1)).setCell ⟨g,2,none⟩ (v2)).setCell ⟨g,3,none⟩ (v3)).setCell ⟨g,4,none⟩ (v4)).setCell ⟨g,5,none⟩ (v5)).setCell ⟨g,6,none⟩ (v6)).setCell ⟨g,7,none⟩ (v7))).heap[j]?=W.heap[j]?:=by
 have s0:∀(w:World) (u:Value) (i:Nat),(w.setCell ⟨g,i,none⟩ u).heap[j]?=w.heap[j]?:=fun w u i=>Below.heap_setCell _ _ _ j (by show j≠g;exact hj)
 rw[s0,s0,s0,s0,s0,s0,s0,s0]
theorem nine_heap(W:World)(g:Nat)(v0 v1 v2 v3 v4 v5 v6 v7 v8:Value)(j:Nat)(hj:j≠g):((((((((((W.setCell ⟨g,0,none⟩ (v0)).setCell ⟨g,1,none⟩ (v1)).setCell ⟨g,2,none⟩ (v2)).setCell ⟨g,3,none⟩ (v3)).setCell ⟨g,4,none⟩ (v4)).setCell ⟨g,5,none⟩ (v5)).setCell ⟨g,6,none⟩ (v6)).setCell ⟨g,7,none⟩ (v7)).setCell ⟨g,8,none⟩ (v8))).heap[j]?=W.heap[j]?:=by
 have s0:∀(w:World) (u:Value) (i:Nat),(w.setCell ⟨g,i,none⟩ u).heap[j]?=w.heap[j]?:=fun w u i=>Below.heap_setCell _ _ _ j (by show j≠g;exact hj)
 rw[s0,s0,s0,s0,s0,s0,s0,s0,s0]
theorem nine_size(W:World)(g:Nat)(v0 v1 v2 v3 v4 v5 v6 v7 v8:Value):((((((((((W.setCell ⟨g,0,none⟩ (v0)).setCell ⟨g,1,none⟩ (v1)).setCell ⟨g,2,none⟩ (v2)).setCell ⟨g,3,none⟩ (v3)).setCell ⟨g,4,none⟩ (v4)).setCell ⟨g,5,none⟩ (v5)).setCell ⟨g,6,none⟩ (v6)).setCell ⟨g,7,none⟩ (v7)).setCell ⟨g,8,none⟩ (v8))).heap.size=W.heap.size:=by simp[World.setCell]
theorem below_eight{w0 w:World}{B b:Nat}(h:Below B w0 w)(hB:B<=b)(v0 v1 v2 v3 v4 v5 v6 v7:Value):Below B w0 ((((((((w.setCell ⟨b,0,none⟩ (v0)).setCell ⟨b,1,none⟩ (v1)).setCell ⟨b,2,none⟩ (v2)).setCell ⟨b,3,none⟩ (v3)).setCell ⟨b,4,none⟩ (v4)).setCell ⟨b,5,none⟩ (v5)).setCell ⟨b,6,none⟩ (v6)).setCell ⟨b,7,none⟩ (v7)):=
 (((((((h.setCell (p:=⟨b,0,none⟩) hB _).setCell (p:=⟨b,1,none⟩) hB _).setCell (p:=⟨b,2,none⟩) hB _).setCell (p:=⟨b,3,none⟩) hB _).setCell (p:=⟨b,4,none⟩) hB _).setCell (p:=⟨b,5,none⟩) hB _).setCell (p:=⟨b,6,none⟩) hB _).setCell (p:=⟨b,7,none⟩) hB _
def ra0:RA:=⟨⟨none,0,0⟩,⟨⟨none,0,0⟩,⟨none,0,0⟩,⟨none,0,0⟩,⟨none,0,0⟩⟩⟩
def rec0:Rec:=⟨[],0,0,0,⟨[],[],[],[]⟩⟩
structure RdS(w W:World)(x:Sl)(e:En)(a:CA)(c:Cy):Prop where
 en:W.heap[w.heap.size]?=some (.cells #[.int .i64 e.line,.bool e.blank,.slice x.a x.n x.c] 75 (0,0))
 cy:CyB W (w.heap.size+1) a c
 rc:RcB W (w.heap.size+1+1) ra0 rec0
 rz:CyB W (w.heap.size+1+1+1) ca0 (cy0 [])
 bel:Below w.heap.size w W
theorem RdS.below{w W W':World}{x:Sl}{e:En}{a:CA}{c:Cy}(h:RdS w W x e a c)(hb:Below W.heap.size W W'):RdS w W' x e a c:=
 ⟨(hb.block _ (Array.getElem?_eq_some_iff.1 h.en).1).trans h.en,h.cy.below hb,(hb.block _ h.rc.lt).trans h.rc,h.rz.below hb,h.bel.trans (hb.mono h.bel.size)⟩
theorem RdS.e0{w W:World}{x:Sl}{e:En}{a:CA}{c:Cy}(h:RdS w W x e a c):W.cell? ⟨w.heap.size,0,none⟩=some (.int .i64 e.line):=by unfold World.cell?;rw[h.en];rfl
theorem RdS.e1{w W:World}{x:Sl}{e:En}{a:CA}{c:Cy}(h:RdS w W x e a c):W.cell? ⟨w.heap.size,1,none⟩=some (.bool e.blank):=by unfold World.cell?;rw[h.en];rfl
theorem RdS.e2{w W:World}{x:Sl}{e:En}{a:CA}{c:Cy}(h:RdS w W x e a c):W.cell? ⟨w.heap.size,2,none⟩=some (.slice x.a x.n x.c):=by unfold World.cell?;rw[h.en];rfl
theorem RdS.new(w:World)(x:Sl)(e:En)(a:CA)(c:Cy):RdS w ((((w.alloc (.cells #[.int .i64 e.line,.bool e.blank,.slice x.a x.n x.c] 75)).alloc (.cells #[.slice a.g.a a.g.n a.g.c,.slice a.o.a a.o.n a.o.c,.int .u16 (c.cl:Int),.int .u32 (c.df:Int),.int .u32 (c.tt:Int),.bool c.ho,.bool c.hc,.bool c.ht,.bool c.sd] 63)).alloc (.cells #[.slice none 0 0,.int .u16 0,.int .u16 0,.int .u32 0,.slice none 0 0,.slice none 0 0,.slice none 0 0,.slice none 0 0] 50)).alloc (.cells #[.slice none 0 0,.slice none 0 0,.int .u16 0,.int .u32 0,.int .u32 0,.bool false,.bool false,.bool false,.bool false] 63)) x e a c:=by
 have q1:=heap_alloc_new w (.cells #[.int .i64 e.line,.bool e.blank,.slice x.a x.n x.c] 75)
 generalize hw1:w.alloc (.cells #[.int .i64 e.line,.bool e.blank,.slice x.a x.n x.c] 75)=w1 at*
 have n1:w1.heap.size=w.heap.size+1:=by rw[<- hw1];simp
 have l1:Below w.heap.size w w1:=by rw[<- hw1];exact new_below _ _
 have q2:CyB (w1.alloc (.cells #[.slice a.g.a a.g.n a.g.c,.slice a.o.a a.o.n a.o.c,.int .u16 (c.cl:Int),.int .u32 (c.df:Int),.int .u32 (c.tt:Int),.bool c.ho,.bool c.hc,.bool c.ht,.bool c.sd] 63)) w1.heap.size a c:=CyB.new w1 a c
 have l2:=new_below w1 (.cells #[.slice a.g.a a.g.n a.g.c,.slice a.o.a a.o.n a.o.c,.int .u16 (c.cl:Int),.int .u32 (c.df:Int),.int .u32 (c.tt:Int),.bool c.ho,.bool c.hc,.bool c.ht,.bool c.sd] 63)
 generalize hw2:w1.alloc (.cells #[.slice a.g.a a.g.n a.g.c,.slice a.o.a a.o.n a.o.c,.int .u16 (c.cl:Int),.int .u32 (c.df:Int),.int .u32 (c.tt:Int),.bool c.ho,.bool c.hc,.bool c.ht,.bool c.sd] 63)=w2 at*
 have n2:w2.heap.size=w1.heap.size+1:=by rw[<- hw2];simp
 have q3:RcB (w2.alloc (.cells #[.slice none 0 0,.int .u16 0,.int .u16 0,.int .u32 0,.slice none 0 0,.slice none 0 0,.slice none 0 0,.slice none 0 0] 50)) w2.heap.size ra0 rec0:=heap_alloc_new _ _
 have l3:=new_below w2 (.cells #[.slice none 0 0,.int .u16 0,.int .u16 0,.int .u32 0,.slice none 0 0,.slice none 0 0,.slice none 0 0,.slice none 0 0] 50)
 generalize hw3:w2.alloc (.cells #[.slice none 0 0,.int .u16 0,.int .u16 0,.int .u32 0,.slice none 0 0,.slice none 0 0,.slice none 0 0,.slice none 0 0] 50)=w3 at*
 have n3:w3.heap.size=w2.heap.size+1:=by rw[<- hw3];simp
 have q4:CyB (w3.alloc (.cells #[.slice none 0 0,.slice none 0 0,.int .u16 0,.int .u32 0,.int .u32 0,.bool false,.bool false,.bool false,.bool false] 63)) w3.heap.size ca0 (cy0 []):=CyB.zero w3
 have l4:=new_below w3 (.cells #[.slice none 0 0,.slice none 0 0,.int .u16 0,.int .u32 0,.int .u32 0,.bool false,.bool false,.bool false,.bool false] 63)
 generalize hw4:w3.alloc (.cells #[.slice none 0 0,.slice none 0 0,.int .u16 0,.int .u32 0,.int .u32 0,.bool false,.bool false,.bool false,.bool false] 63)=w4 at*
 rw[n1] at q2
 rw[n2,n1] at q3
 rw[n3,n2,n1] at q4
 have h1:w4.heap[w.heap.size]?=_:=(l4.block _ (by omega)).trans ((l3.block _ (by omega)).trans ((l2.block _ (by omega)).trans q1))
 exact ⟨h1,(l4.block _ (by omega)).trans ((l3.block _ (by omega)).trans q2),(l4.block _ (by omega)).trans q3,q4,l1.trans ((l2.mono (by omega)).trans ((l3.mono (by omega)).trans (l4.mono (by omega))))⟩
def ReP(r:Except Int (Rec × Cy))(a:CA)(w:World)(e:Ending)(w':World):Prop:=
 ∃(x:RA) (rc:Rec) (a':CA) (c':Cy) (er:Int),e=.returned (.tuple #[.agg #[.slice x.o.a x.o.n x.o.c,.int .u16 (rc.t:Int),.int .u16 (rc.cl:Int),.int .u32 (rc.tt:Int),.slice x.d.p1.a x.d.p1.n x.d.p1.c,.slice x.d.p2.a x.d.p2.n x.d.p2.c,.slice x.d.p3.a x.d.p3.n x.d.p3.c,.slice x.d.p4.a x.d.p4.n x.d.p4.c],caV a' c',.int .i64 er])/\Hid (Below w.heap.size w w')/\Hid ((er=0/\r=.ok (rc,c')/\a'.g=a.g/\a'.o=x.o/\ROwx w.heap.size w' x rc)∨(er≠0/\r=.error er))
end Go.Proofs.YtjkljpdolhglcaaGreatDoor
