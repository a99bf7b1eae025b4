/- Texts laid together, in parts: Yc Qe Yd Ye Yf Yg Wd Nb Ps Kd Cd Aw. -/
import Derived.Test.YtjkljpdolhglcaaGreatDoorWjf
set_option maxRecDepth 100000
set_option maxHeartbeats 8000000
set_option linter.unusedVariables false
set_option linter.unusedSimpArgs false
namespace Go.Proofs.YtjkljpdolhglcaaGreatDoor
open Go.ChangeShapes Go.WideShapes Go.ChangeAt Go.RowKit
theorem texts_g(w0 w:World)(N K:Nat)(oa:Option Addr)(on oc:Nat)(o:Option Pst)(hK:K+N<=900)(hE:LayE w0)(h:RG w0 w oa on oc K true o) :
  Calls Tryz.prog 157 #[.pointer (some ⟨w0.heap.size,0,none⟩),.int .i64 (N:Int)] w fun e w'=>∃v,e=.returned v/\Hid (RG w0 w' oa on oc (K+N) true (rep sText N o)):=by
 have H0:Hid (RG w0 w oa on oc K true o):=h
 have HE:Hid (LayE w0):=hE
 have HKN:Hid (K+N<=900):=hK
 have hN1:N<=1000:=by omega
 clear h hE hK
 go_enter Tryz.func157,Tryz.ntmps157
 go_wp2_with fail
 go_loopw [7] (fun y wr=>∃k:Nat,k<=N/\y=.int .i64 k/\Hid (RG w0 wr oa on oc (K+k) true (rep sText k o))) (fun y _=>N - (intOf y).toNat)
 case atStart=>exact ⟨0,Nat.zero_le _,rfl,H0.out⟩
 case round=>
  obtain ⟨k,hk,rfl,HW⟩:=hrel
  by_cases hlt:k<N
  ·have hlt':(k:Int)<(N:Int):=by omega
   have HT:Hid (rep sText (k+1) o=(rep sText k o).bind sText):=rfl
   generalize rep sText k o=ok at*
   obtain ⟨wa',c',x',ws,bad,d,h1,h2,h3,h4,h5,h6,h7⟩:=HW.out
   have KB:Hid (∀W,RX w0 W wa' ws.length c' oa on oc x' bad d->Calls Tryz.prog 175 #[.pointer (some ⟨w0.heap.size,0,none⟩)] W (TkG tkN w0 oa on oc x' d ws bad)):=fun W hW=>next_g w0 W wa' ws c' oa on oc x' bad d h1 h2 h3 hW h5
   have HX:Hid (RX w0 wr wa' ws.length c' oa on oc x' bad d):=h4
   have KR:Hid (∀s W,s.size<=1000000->Below w0.heap.size w0 W->Calls Tryz.prog 174 #[.string s] W fun e w'=>e=.returned (.tuple #[.string (xstrR (nums s)).1,.int .i64 (xstrR (nums s)).2])/\Hid (Below W.heap.size W w')):=fun s W hs hW=>string_any s W (by omega) (HE.out.below hW)
   have HD:Hid (DB (K+k) true d):=h6
   have HO:Hid (RGo bad ws d ok):=h7
   have HL:Hid (d.ts.length<=1000000):=by have:=HKN.out;have:=h6.t;show _<=_;omega
   have HNS:Hid (d.ns=[]):=h6.z rfl
   clear h1 h2 h3 h4 h5 h6 h7 HW H0
   go_wp2_with fail
   refine (KB.out _ HX.out).mono ?_
   rintro e w1 ⟨s,wb,cb,wsb,bd,rfl,H1,H2,H9⟩
   have HSZ:Hid ((xstrR (nums s)).1.size<=1000000):=by
    have h1:=xstrR_size s
    have h2:=H9.out.2.1
    show _<=_;omega
   have HG:Hid (((xstrR (nums s)).2=0/\gStr6 s=some (xstrR (nums s)).1)∨((xstrR (nums s)).2=7/\gStr6 s=none)):=by
    unfold gStr6 xstrR
    cases xstr (nums s) with
    |none=>exact .inr ⟨rfl,rfl⟩
    |some l=>exact .inl ⟨rfl,rfl⟩
   have KR2:=Lib.hid (fun W hW=>KR.out s W H9.out.2.1 hW)
   clear KR
   generalize (xstrR (nums s)).2=er at*
   generalize (xstrR (nums s)).1=nm at*
   go_wp2_with fail
   refine (KR2.out _ H2.out.bel).mono ?_
   rintro e w2 ⟨rfl,H3⟩
   have HA:Hid (RX w0 w2 wb wsb.length cb oa on oc x' bd d):=H2.out.step H3.out
   clear KB KR2 HX H2 H3
   have d6:w2.cell? ⟨w0.heap.size,6,none⟩=some (.bool bd):=HA.out.blk.cells.2.2.2.2.2.2
   have d2:w2.cell? ⟨w0.heap.size,4,none⟩=some (.slice x'.p3.a x'.p3.n x'.p3.c):=HA.out.blk.cells.2.2.2.2.1
   have f6:=HA.out.blk.fz 6
   have f2:=HA.out.blk.fz 4
   have HS:Hid (∀q,RX w0 ((w2.setCell ⟨w0.heap.size,6,none⟩ (.bool q)).alloc (.cells #[.string nm] 9)) wb wsb.length cb oa on oc x' q d):=fun q=>(HA.out.bad q).step (new_below _ _)
   have HO1:Hid (∀q,RdT ((w2.setCell ⟨w0.heap.size,6,none⟩ (.bool q)).alloc (.cells #[.string nm] 9)) (some ⟨w2.heap.size,0,none⟩) [nm]):=fun q=>by
    have:=one_rdT (w2.setCell ⟨w0.heap.size,6,none⟩ (.bool q)) nm
    rw[World.size_setCell] at this
    exact this
   have HB:Hid (∀q,w0.heap.size+1<=((w2.setCell ⟨w0.heap.size,6,none⟩ (.bool q)).alloc (.cells #[.string nm] 9)).heap.size):=fun q=>(HS.out q).blk.lt
   have HM:Hid (nm.size<=1000000000000):=by have:=HSZ.out;show _<=_;omega
   have HF:Hid (∀(q:Bool),(q=false↔bd=false/\er=0)->RGo q wsb ⟨d.ns,d.us,d.ts++[nm],d.raw⟩ (rep sText (k+1) o)):=fun q hq=>by
    rw[HT.out]
    cases q with
    |false=>
     refine .inl ⟨rfl,stp_ok HO.out H9.out (hq.1 rfl).1 ?_⟩
     rcases HG.out with ⟨_,h⟩|⟨h,_⟩
     ·exact h
     ·have:=(hq.1 rfl).2;rw[h] at this;cases this
    |true=>
     refine .inr ⟨rfl,stp_no HO.out H9.out ?_⟩
     cases bd with
     |true=>exact .inl rfl
     |false=>
      rcases HG.out with ⟨h,_⟩|⟨_,h⟩
      ·have:=hq.2 ⟨rfl,h⟩;cases this
      ·exact .inr h
   have HDD:Hid (DB (K+(k+1)) true ⟨d.ns,d.us,d.ts++[nm],d.raw⟩):=HD.out.text HSZ.out
   rcases bd with _|_
   ·by_cases her:er=0
    ·subst her
     clear HG
     go_wp2_with (at_builtin;refine wl_st rfl fun K hK=>?_;refine st_ts rfl _ _ rfl (w0.heap.size+1) x'.p3 d.ts rfl (HS.out false).own.2.2.1 ⟨w2.heap.size,0,none⟩ rfl nm (HO1.out false) HM.out HL.out (HB.out false) ?_;intro t' w' hO hG;obtain ⟨og',hg1,hg2⟩:=hG.out;have HR:=Lib.hid ((HS.out false).app3 HNS.out hg1 hg2 t' _ hO.out);have hr:=((HS.out false).grown hg1 (fun j e=>(hg2 j e).1)).1;have g2:=hr.cells.2.2.2.2.1;have gf:=hr.fz 4;refine hK _ _ ?_)
     exact ⟨⟨k+1,by omega,by go_num,wb,cb,⟨x'.p1,x'.p2,t',x'.p4⟩,wsb,false,⟨d.ns,d.us,d.ts++[nm],d.raw⟩,H1.out.1,H1.out.2.1,H1.out.2.2,HR.out,H9.out.1,HDD.out,HF.out false (by simp)⟩,by simp[intOf];omega⟩
    ·have her2:(er == 0)=false:=by simpa using her
     have her3:(er != 0)=true:=by simpa using her
     clear HG
     go_wp2_with (at_builtin;refine wl_st rfl fun K hK=>?_;refine st_ts rfl _ _ rfl (w0.heap.size+1) x'.p3 d.ts rfl (HS.out true).own.2.2.1 ⟨w2.heap.size,0,none⟩ rfl nm (HO1.out true) HM.out HL.out (HB.out true) ?_;intro t' w' hO hG;obtain ⟨og',hg1,hg2⟩:=hG.out;have HR:=Lib.hid ((HS.out true).app3 HNS.out hg1 hg2 t' _ hO.out);have hr:=((HS.out true).grown hg1 (fun j e=>(hg2 j e).1)).1;have g2:=hr.cells.2.2.2.2.1;have gf:=hr.fz 4;refine hK _ _ ?_)
     exact ⟨⟨k+1,by omega,by go_num,wb,cb,⟨x'.p1,x'.p2,t',x'.p4⟩,wsb,true,⟨d.ns,d.us,d.ts++[nm],d.raw⟩,H1.out.1,H1.out.2.1,H1.out.2.2,HR.out,H9.out.1,HDD.out,HF.out true (by simp[her])⟩,by simp[intOf];omega⟩
   ·clear HG
    go_wp2_with (at_builtin;refine wl_st rfl fun K hK=>?_;refine st_ts rfl _ _ rfl (w0.heap.size+1) x'.p3 d.ts rfl (HS.out true).own.2.2.1 ⟨w2.heap.size,0,none⟩ rfl nm (HO1.out true) HM.out HL.out (HB.out true) ?_;intro t' w' hO hG;obtain ⟨og',hg1,hg2⟩:=hG.out;have HR:=Lib.hid ((HS.out true).app3 HNS.out hg1 hg2 t' _ hO.out);have hr:=((HS.out true).grown hg1 (fun j e=>(hg2 j e).1)).1;have g2:=hr.cells.2.2.2.2.1;have gf:=hr.fz 4;refine hK _ _ ?_)
    exact ⟨⟨k+1,by omega,by go_num,wb,cb,⟨x'.p1,x'.p2,t',x'.p4⟩,wsb,true,⟨d.ns,d.us,d.ts++[nm],d.raw⟩,H1.out.1,H1.out.2.1,H1.out.2.2,HR.out,H9.out.1,HDD.out,HF.out true (by simp)⟩,by simp[intOf];omega⟩
  ·have hge:¬ (k:Int)<(N:Int):=by omega
   have hkn:k=N:=by omega
   subst hkn
   go_wp2_with fail
   go_end0
   exact ⟨⟨_,rfl⟩,HW.out⟩
theorem tag_g(w0 w:World)(K:Nat)(oa:Option Addr)(on oc:Nat)(o:Option Pst)(hK:K+1<=900)(h:RG w0 w oa on oc K true o) :
  Calls Tryz.prog 158 #[.pointer (some ⟨w0.heap.size,0,none⟩)] w fun e w'=>∃v,e=.returned v/\Hid (RG w0 w' oa on oc (K+1) true (rep sTag 1 o)):=by
 obtain ⟨wa,c,x,ws,bad,d,h1,h2,h3,h4,h5,h6,h7⟩:=h
 have KN:Hid (∀W,RX w0 W wa ws.length c oa on oc x bad d->Calls Tryz.prog 175 #[.pointer (some ⟨w0.heap.size,0,none⟩)] W (TkG tkN w0 oa on oc x d ws bad)):=fun W hW=>next_g w0 W wa ws c oa on oc x bad d h1 h2 h3 hW h5
 have HXd:Hid (RX w0 w.drew wa ws.length c oa on oc x bad d):=h4.step (Below.refl _ _).drew
 have d4:w.cell? ⟨w0.heap.size,4,none⟩=some (.slice x.p3.a x.p3.n x.p3.c):=h4.blk.cells.2.2.2.2.1
 have HNS:Hid (d.ns=[]/\d.ts.length<=1000000):=⟨h6.z rfl,by have:=h6.t;omega⟩
 have HD:Hid (DB K true d):=h6
 have HO:Hid (RGo bad ws d o):=h7
 clear h1 h2 h3 h4 h5 h6 h7
 go_enter Tryz.func158,Tryz.ntmps158
 go_region_law (first
  |(go_simp;go_at_call 175;refine (KN.out _ HXd.out).mono ?_;rintro e w1 ⟨s,wb,cb,wsb,bd,rfl,H1,H2,H9⟩;have e4:w1.cell? ⟨w0.heap.size,4,none⟩=some (.slice x.p3.a x.p3.n x.p3.c):=H2.out.blk.cells.2.2.2.2.1;have HS:Hid (RX w0 (w1.alloc (.cells #[.string s] 9)) wb wsb.length cb oa on oc x bd d):=H2.out.step (new_below _ _);have i4:(w1.alloc (.cells #[.string s] 9)).cell? ⟨w0.heap.size,4,none⟩=some (.slice x.p3.a x.p3.n x.p3.c):=HS.out.blk.cells.2.2.2.2.1)
  |(refine st_ts rfl _ _ rfl (w0.heap.size+1) x.p3 d.ts rfl HS.out.own.2.2.1 ⟨w1.heap.size,0,none⟩ rfl s (one_rdT w1 s) (by have:=H9.out.2.1;omega) HNS.out.2 HS.out.blk.lt ?_;intro t' w' hO hG;obtain ⟨og',hg1,hg2⟩:=hG.out;have HR:=Lib.hid (HS.out.app3 HNS.out.1 hg1 hg2 t' _ hO.out);have hr:=(HS.out.grown hg1 (fun j e=>(hg2 j e).1)).1;have g4:=hr.cells.2.2.2.2.1;have gf:=hr.fz 4))
 all_goals
  go_wp2_with fail
  go_end0
  refine ⟨_,rfl,wb,cb,⟨x.p1,x.p2,t',x.p4⟩,wsb,bd,⟨d.ns,d.us,d.ts++[s],d.raw⟩,H1.out.1,H1.out.2.1,H1.out.2.2,HR.out,H9.out.1,?_,?_⟩
  ·exact HD.out.text H9.out.2.1
  ·cases bd with
   |false=>exact .inl ⟨rfl,stp_ok HO.out H9.out rfl rfl⟩
   |true=>exact .inr ⟨rfl,stp_no HO.out H9.out (.inl rfl)⟩
theorem addr_g(w0 w:World)(K:Nat)(oa:Option Addr)(on oc:Nat)(z:Bool)(o:Option Pst)(hE:LayE w0)(h:RG w0 w oa on oc K z o) :
  Calls Tryz.prog 154 #[.pointer (some ⟨w0.heap.size,0,none⟩)] w fun e w'=>∃v,e=.returned v/\Hid (RG w0 w' oa on oc K z (rep sAddr 1 o)):=by
 obtain ⟨wa,c,x,ws,bad,d,h1,h2,h3,h4,h5,h6,h7⟩:=h
 have KB:=Lib.hid (bare_g w0 w wa ws c oa on oc x bad d h1 h2 h3 h4 h5)
 have KP:Hid (∀s W,s.size<=1000000->Below w0.heap.size w0 W->Calls Tryz.prog 172 #[.string s] W (AdPost (xpaddr (nums s)) W)):=fun s W hs hW=>paddr_any s W (by omega) (hE.below hW)
 have HD:Hid (DB K z d):=h6
 have HO:Hid (RGo bad ws d o):=h7
 clear h1 h2 h3 h4 h5 h6 h7 hE
 go_enter Tryz.func154,Tryz.ntmps154
 go_wp2_with fail
 refine KB.out.mono ?_
 rintro e w1 ⟨s,wb,cb,wsb,bd,rfl,H1,H2,H9⟩
 go_wp2_with fail
 refine (KP.out s _ H9.out.2.1 H2.out.bel).mono ?_
 intro e w2 hP
 have HZ:Hid (∃(zs:List Int) (er:Int) (v:Value),e=.returned (.tuple #[v,.int .i64 er])/\zs.length<=1000000/\((er=0/\xpaddr (nums s)=some zs)∨(er=7/\xpaddr (nums s)=none))/\(∃ao:Option Addr,∃c:Nat,v=.slice ao zs.length c/\BOwn w1.heap.size w2 ⟨ao,zs.length,c⟩ zs)/\Below w1.heap.size w1 w2):=by
  cases hx:xpaddr (nums s) with
  |none=>
   obtain ⟨rfl,H3⟩:=hP.2 hx
   exact ⟨[],7,_,rfl,by simp,.inr ⟨rfl,rfl⟩,⟨none,0,rfl,[],.inl ⟨rfl,rfl,rfl⟩,rfl⟩,H3.out⟩
  |some zs=>
   obtain ⟨v,ys,rfl,H3⟩:=hP.1 zs hx
   obtain ⟨ao,rfl,hoa⟩:=H3.out.1.addr
   exact ⟨zs,0,_,rfl,xpaddr_len hx,.inl ⟨rfl,rfl⟩,⟨ao,ys.length,rfl,ys,H3.out.1,H3.out.2.1⟩,H3.out.2.2⟩
 obtain ⟨zs,er,v,rfl,hzl,hx,⟨ao,cc,rfl,hbo⟩,hbb⟩:=HZ.out
 have HG:Hid ((er=0/\xpaddr (nums s)=some zs)∨(er=7/\xpaddr (nums s)=none)):=hx
 have HDA:Hid (DB K z ⟨d.ns,d.us,d.ts,zs⟩):=HD.out.addr hzl
 have HA:Hid (RX w0 w2 wb wsb.length cb oa on oc x bd d):=H2.out.step hbb
 have HOW:Hid (BOwn (w0.heap.size+1) w2 ⟨ao,zs.length,cc⟩ zs):=by
  obtain ⟨ys,q1,q2⟩:=hbo
  exact ⟨ys,q1.mono H2.out.blk.lt,q2⟩
 clear KB KP H2 hP HZ hx hbo hbb hzl
 have d6:w2.cell? ⟨w0.heap.size,6,none⟩=some (.bool bd):=HA.out.blk.cells.2.2.2.2.2.2
 have d5:w2.cell? ⟨w0.heap.size,5,none⟩=some (.slice x.p4.a x.p4.n x.p4.c):=HA.out.blk.cells.2.2.2.2.2.1
 have f6:=HA.out.blk.fz 6
 have f5:=HA.out.blk.fz 5
 have HR:Hid (∀q,RX w0 ((w2.setCell ⟨w0.heap.size,6,none⟩ (.bool q)).setCell ⟨w0.heap.size,5,none⟩ (.slice ao zs.length cc)) wb wsb.length cb oa on oc ⟨x.p1,x.p2,x.p3,⟨ao,zs.length,cc⟩⟩ q ⟨d.ns,d.us,d.ts,zs⟩):=fun q=>(HA.out.bad q).put4 ⟨ao,zs.length,cc⟩ zs (HOW.out.keep (fun j hj _=>Below.heap_setCell _ _ _ j (by show j≠w0.heap.size;omega)))
 have HF:Hid (∀(q:Bool),(q=false↔bd=false/\er=0)->RGo q wsb ⟨d.ns,d.us,d.ts,zs⟩ (rep sAddr 1 o)):=fun q hq=>by
  cases q with
  |false=>
   refine .inl ⟨rfl,stp_ok HO.out H9.out (hq.1 rfl).1 ?_⟩
   rcases HG.out with ⟨_,h⟩|⟨h,_⟩
   ·exact h
   ·have:=(hq.1 rfl).2;rw[h] at this;cases this
  |true=>
   refine .inr ⟨rfl,stp_no HO.out H9.out ?_⟩
   cases bd with
   |true=>exact .inl rfl
   |false=>
    rcases HG.out with ⟨h,_⟩|⟨_,h⟩
    ·have:=hq.2 ⟨rfl,h⟩;cases this
    ·exact .inr h
 clear HG
 rcases bd with _|_
 ·by_cases her:er=0
  ·subst her
   go_wp2_with fail
   go_end0
   exact ⟨_,rfl,wb,cb,_,wsb,false,⟨d.ns,d.us,d.ts,zs⟩,H1.out.1,H1.out.2.1,H1.out.2.2,HR.out false,H9.out.1,HDA.out,HF.out false (by simp)⟩
  ·have her2:(er == 0)=false:=by simpa using her
   have her3:(er != 0)=true:=by simpa using her
   go_wp2_with fail
   go_end0
   exact ⟨_,rfl,wb,cb,_,wsb,true,⟨d.ns,d.us,d.ts,zs⟩,H1.out.1,H1.out.2.1,H1.out.2.2,HR.out true,H9.out.1,HDA.out,HF.out true (by simp[her])⟩
 ·go_wp2_with fail
  go_end0
  exact ⟨_,rfl,wb,cb,_,wsb,true,⟨d.ns,d.us,d.ts,zs⟩,H1.out.1,H1.out.2.1,H1.out.2.2,HR.out true,H9.out.1,HDA.out,HF.out true (by simp)⟩
theorem hasT_any(t:Nat)(w:World):Calls Tryz.prog 110 #[.int .u16 t] w fun e w'=>e=.returned (.bool (mayT t))/\w'=w:=by
 have HS:Hid (∀W,Calls Tryz.prog 134 #[.int .u16 t] W fun e w'=>e=.returned (.bool (decide (t≠0) && decide (t≠41) && (decide (t<128) || decide (255<t))))/\w'=W):=by
  intro W
  go_enter Tryz.func134,Tryz.ntmps134
  by_cases h0:t=0
  ·subst h0
   go_wp2_with fail
   go_ret
   exact ⟨ret_bool (by decide),rfl⟩
  ·by_cases h1:t=41
   ·subst h1
    go_wp2_with fail
    go_ret
    exact ⟨ret_bool (by decide),rfl⟩
   ·have q0:((t:Int) == 0)=false:=by simp;omega
    have q1:((t:Int) == 41)=false:=by simp;omega
    go_wp2_with fail
    refine (asked_any t _).mono ?_
    rintro e W ⟨rfl,rfl⟩
    go_wp2_with fail
    go_ret
    refine ⟨ret_bool ?_,rfl⟩
    simp[h0,h1]
    by_cases h2:t<128
    ·simp[h2];omega
    ·by_cases h3:255<t
     ·simp[h3];omega
     ·simp[h2,h3];omega
 go_enter Tryz.func110,Tryz.ntmps110
 by_cases h1:t=41
 ·subst h1
  go_wp2_with fail
  refine (HS.out _).mono ?_
  rintro e W ⟨rfl,rfl⟩
  go_wp2_with fail
  go_ret
  exact ⟨rfl,rfl⟩
 ·have q1:((t:Int) == 41)=false:=by simp;omega
  go_wp2_with fail
  refine (HS.out _).mono ?_
  rintro e W ⟨rfl,rfl⟩
  have hm:(decide (t≠0) && decide (t≠41) && (decide (t<128) || decide (255<t)))=mayT t:=by simp[mayT,h1]
  rw[hm]
  cases hmt:mayT t
  all_goals
   go_wp2_with fail
   go_ret
   exact ⟨by rw[hmt];rfl,rfl⟩
theorem lh_size{ps:List Wd}{Lh:ByteArray}(h:(⟨(catL ps).toArray⟩:ByteArray)=Lh):(catL ps).length=Lh.size:=by subst h;simp[ByteArray.size]
theorem hsh_n1{t:Nat}{num:ByteArray}{qn:Bool}{ps:List Wd}(h:gNum6 num=none):hshF t ((num,qn)::ps)=none:=by
 unfold gNum6 at h
 simp[hshF,h]
theorem hsh_n2{t:Nat}{num:ByteArray}{qn:Bool}{ps:List Wd}{n l:Nat}{Lh:ByteArray}(h:gNum6 num=some n)(hL:(⟨(catL ps).toArray⟩:ByteArray)=Lh)(h2:Lh.size=2*l)(h3:¬ n=l):hshF t ((num,qn)::ps)=none:=by
 unfold gNum6 at h
 have hs:=lh_size hL
 simp only[hshF,h,Option.bind_some]
 rw[if_neg]
 rintro ⟨a1,a2,a3⟩
 omega
theorem hsh_n3{t:Nat}{num:ByteArray}{qn:Bool}{ps:List Wd}{n:Nat}{Lh:ByteArray}(h:gNum6 num=some n)(hL:(⟨(catL ps).toArray⟩:ByteArray)=Lh)(h2:¬ (Lh.size<=131070/\∃m,Lh.size=2*m/\∀k,k<m->okp (nums Lh) k)):hshF t ((num,qn)::ps)=none:=by
 unfold gNum6 at h
 have hs:=lh_size hL
 simp only[hshF,h,Option.bind_some]
 rw[if_neg]
 rintro ⟨a1,a2,a3⟩
 refine h2 ⟨by omega,n,by omega,fun k hk=>?_⟩
 rw[List.all_eq_true] at a3
 have:=a3 k (List.mem_range.2 hk)
 rw[hL] at this
 simpa using this
theorem hsh_y{t:Nat}{num:ByteArray}{qn:Bool}{ps:List Wd}{n:Nat}{Lh:ByteArray}(h:gNum6 num=some n)(hL:(⟨(catL ps).toArray⟩:ByteArray)=Lh)(h1:Lh.size<=131070)(h2:Lh.size=2*n)(h3:∀k,k<n->okp (nums Lh) k) :
  hshF t ((num,qn)::ps)=if (readF t (prs (nums Lh) n)).2=0 then some (readF t (prs (nums Lh) n)).1 else none:=by
 unfold gNum6 at h
 have hs:=lh_size hL
 simp only[hshF,h,Option.bind_some,hL]
 rw[if_pos]
 refine ⟨by omega,by omega,?_⟩
 rw[List.all_eq_true]
 intro k hk
 simpa using h3 k (List.mem_range.1 hk)
def UxP(s:ByteArray)(w:World)(e:Ending)(w':World):Prop:=
 ∃(ao:Option Addr) (n c:Nat) (er:Int),e=.returned (.tuple #[.slice ao n c,.int .i64 er])/\Hid ((er=0/\s.size<=131070/\s.size=2*n/\(∀k,k<n->okp (nums s) k)/\∃ys,OwnA w.heap.size w' ao n ys/\c=ys.length/\ys.take n=prs (nums s) n)∨(er≠0/\¬ (s.size<=131070/\∃m,s.size=2*m/\∀k,k<m->okp (nums s) k)))/\Hid (Below w.heap.size w w')
theorem ux_g(s:ByteArray)(w:World)(hs:s.size<=9223372036854775807):Calls Tryz.prog 152 #[.string s] w (UxP s w):=by
 by_cases h:s.size<=131070
 ·by_cases ho:s.size % 2=1
  ·refine (unhex_odd s w h ho).mono ?_
   rintro e w' ⟨rfl,rfl⟩
   exact ⟨_,_,_,_,rfl,.inr ⟨by decide,fun ⟨_,m,hm,_⟩=>by omega⟩,Below.refl _ _⟩
  ·refine (unhex_even s (s.size / 2) w (by omega) h).mono ?_
   rintro e w' (⟨⟨k,hk,hno⟩,rfl,hb⟩|⟨hok,ao,ys,rfl,h1,h2,h3⟩)
   ·refine ⟨_,_,_,_,rfl,.inr ⟨by decide,fun ⟨_,m,hm,hall⟩=>hno (hall k (by omega))⟩,hb⟩
   ·exact ⟨ao,_,_,_,rfl,.inl ⟨rfl,h,by omega,hok,ys,h1,rfl,h2⟩,h3⟩
 ·refine (unhex_long s w (by omega) hs).mono ?_
  rintro e w' ⟨rfl,rfl⟩
  exact ⟨_,_,_,_,rfl,.inr ⟨by decide,fun ⟨h',_⟩=>h h'⟩,Below.refl _ _⟩
def HsP(o:Option Dat)(w:World)(e:Ending)(w':World):Prop:=
 ∃(x:DA) (b:Bool),e=.returned (.tuple #[.agg #[.slice x.p1.a x.p1.n x.p1.c,.slice x.p2.a x.p2.n x.p2.c,.slice x.p3.a x.p3.n x.p3.c,.slice x.p4.a x.p4.n x.p4.c],.bool b])/\Hid (Below w.heap.size w w'/\(b=true->∃d,o=some d/\DOwn w.heap.size w' x d)/\(b=false->o=none))
theorem hash_g(t:Nat)(b o:Nat)(num:ByteArray)(qn:Bool)(ps:List Wd)(c:Nat)(w:World)(hw:RdW w (some ⟨b,o,none⟩) ((num,qn)::ps))(hc:ps.length+1<=c)(h63:c<=9223372036854775807)(hns:num.size<=1000000)(hs:(catL ps).length<=1000000000)(hE:LayE w) :
  Calls Tryz.prog 135 #[.int .u16 (t:Int),.slice (some ⟨b,o,none⟩) (ps.length+1) c] w (HsP (hshF t ((num,qn)::ps)) w):=by
 obtain ⟨b',o',e',hb,c1,c2,-⟩:=hw.head
 injection e' with e'
 injection e' with e1 e2
 subst e1;subst e2
 have HW:Hid (RdW w (some ⟨b,o,none⟩) ((num,qn)::ps)):=hw
 have HZ:Hid (Below w.heap.size w (nilB w)/\DBlk (nilB w) w.heap.size nilDA):=⟨new_below _ _,heap_alloc_new _ _⟩
 have hs0:(nilB w).heap.size=w.heap.size+1:=by simp[nilB]
 have HG0:Hid (G2 (w.heap.size+1) ((nilB w).alloc (.cells #[.pointer none,.slice none 0 0] 66)) (w.heap.size+1) []/\Below (w.heap.size+1) (nilB w) ((nilB w).alloc (.cells #[.pointer none,.slice none 0 0] 66))):=by
  have h1:BB ((nilB w).alloc (.cells #[.pointer none,.slice none 0 0] 66)) (nilB w).heap.size (.pointer none) (.slice none 0 0):=heap_alloc_new _ _
  have h2:=new_below (nilB w) (.cells #[.pointer none,.slice none 0 0] 66)
  rw[hs0] at h1 h2
  exact ⟨.inl ⟨h1,rfl⟩,h2⟩
 have KN:Hid (∀W,Below w.heap.size w W->Calls Tryz.prog 151 #[.string num,.int .i64 32] W (NuP num W)):=fun W hW=>num_g num (by omega) W (hE.below hW)
 have HLh0:∃Lh:ByteArray,(⟨(catL ps).toArray⟩:ByteArray)=Lh:=⟨_,rfl⟩
 obtain ⟨Lh,hLh⟩:=HLh0
 have HLh:Hid ((⟨(catL ps).toArray⟩:ByteArray)=Lh):=hLh
 have KU:Hid (∀W,Calls Tryz.prog 152 #[.string Lh] W (UxP Lh W)):=fun W=>ux_g Lh W (by have:=lh_size hLh;omega)
 have HS:Hid ((catL ps).length<=1000000000):=hs
 clear hw hs hE hLh
 obtain ⟨N,hN⟩:∃N,ps.length=N:=⟨_,rfl⟩
 have HN:Hid (ps.length=N):=hN
 rw[hN] at hc ⊢
 clear hN
 by_cases hc1:c=1
 ·have hN0:N=0:=by omega
  subst hc1;subst hN0
  go_enter Tryz.func135,Tryz.ntmps135
  go_wp2_with fail
  go_loopw [21] (fun y wr=>∃k:Nat,k<=0/\y=.int .i64 k/\Hid (G2 (w.heap.size+1) wr (w.heap.size+1) (Lib.byteCells (catL (ps.take k)))/\Below (w.heap.size+1) (nilB w) wr)) (fun y _=>0 - (intOf y).toNat)
  case atStart=>exact ⟨0,Nat.zero_le _,rfl,HG0.out⟩
  case round=>
   obtain ⟨k,hk,rfl,HR⟩:=hrel
   have HBW:Hid (Below w.heap.size w wr):=HZ.out.1.trans (HR.out.2.mono (by omega))
   by_cases hlt:k<0
   ·exact absurd hlt (by omega)
   ·have hge:¬ (k:Int)<(0:Int):=by omega
    have hkn:k=0:=by omega
    subst hkn
    have hall:ps.take 0=ps:=List.take_of_length_le (by rw[HN.out];exact Nat.le_refl _)
    have HG:Hid (G2 (w.heap.size+1) wr (w.heap.size+1) (Lib.byteCells (catL ps))/\Below (w.heap.size+1) (nilB w) wr):=by rw[hall] at HR;exact HR
    have q1:wr.cell? ⟨b,o,none⟩=some (.string num):=(HBW.out.cell (p:=⟨b,o,none⟩) hb).trans c1
    have HBWx:Hid (Below w.heap.size w wr):=HBW
    clear HR hall HBW
    go_wp2_with fail
    refine (KN.out _ HBWx.out).mono ?_
    rintro e w2 ⟨n,nb,rfl,Hn,H8,H2⟩
    have hn:=Hn.out
    have HG2:Hid (G2 (w.heap.size+1) w2 (w.heap.size+1) (Lib.byteCells (catL ps))/\Below (w.heap.size+1) (nilB w) w2):=⟨HG.out.1.below H2.out,HG.out.2.trans (H2.out.mono (by have:=HG.out.2.size;rw[hs0] at this;exact this))⟩
    have KS:Hid (Calls Tryz.prog 22 #[.pointer (some ⟨w.heap.size+1,0,none⟩)] w2 fun e w'=>e=.returned (.string Lh)/\Hid (Below (w.heap.size+1) w2 w')):=by
     have:=wstringU (w.heap.size+1) (w.heap.size+1) (catL ps) w2 HG2.out.1 (by have:=HS.out;omega)
     rw[HLh.out] at this
     exact this
    clear HG H2 HBWx
    go_wp2_with fail
    refine KS.out.mono ?_
    rintro e w3 ⟨rfl,H3⟩
    have HB3:Hid (Below (w.heap.size+1) (nilB w) w3):=HG2.out.2.trans H3.out
    clear KS H3 HG2
    go_wp2_with fail
    refine (KU.out _).mono ?_
    rintro e w4 ⟨ao,l,cl,er,rfl,H4,H5⟩
    have HB4:Hid (Below (w.heap.size+1) (nilB w) w4):=HB3.out.trans (H5.out.mono (by have:=HB3.out.size;rw[hs0] at this;exact this))
    have hs4:w.heap.size+1<=w4.heap.size:=by have:=HB4.out.size;rw[hs0] at this;exact this
    have HRB:Hid (DBlk w4 w.heap.size nilDA):=(HB4.out.block _ (by omega)).trans HZ.out.2
    have HBW6:Hid (Below w.heap.size w w4):=HZ.out.1.trans (HB4.out.mono (by omega))
    clear HB3 KU KN H5
    rcases nb with _|_
    ·have er0:=HRB.out.box.1
     have er1:=HRB.out.box.2.1
     have er2:=HRB.out.box.2.2.1
     have er3:=HRB.out.box.2.2.2.1
     have ez0:=HRB.out.fz 0
     have ez1:=HRB.out.fz 1
     have ez2:=HRB.out.fz 2
     have ez3:=HRB.out.fz 3
     simp only at er0 er1 er2 er3
     clear H4
     go_wp2_with fail
     have HX:Hid (DBlk (((((w4.setCell ⟨w.heap.size,0,none⟩ (.slice none 0 0)).setCell ⟨w.heap.size,1,none⟩ (.slice none 0 0)).setCell ⟨w.heap.size,2,none⟩ (.slice none 0 0)).setCell ⟨w.heap.size,3,none⟩ (.slice none 0 0))) w.heap.size nilDA/\Below w.heap.size w (((((w4.setCell ⟨w.heap.size,0,none⟩ (.slice none 0 0)).setCell ⟨w.heap.size,1,none⟩ (.slice none 0 0)).setCell ⟨w.heap.size,2,none⟩ (.slice none 0 0)).setCell ⟨w.heap.size,3,none⟩ (.slice none 0 0)))):=ret4 HRB.out HBW6.out (Nat.le_refl _) nilDA
     generalize (((((w4.setCell ⟨w.heap.size,0,none⟩ (.slice none 0 0)).setCell ⟨w.heap.size,1,none⟩ (.slice none 0 0)).setCell ⟨w.heap.size,2,none⟩ (.slice none 0 0)).setCell ⟨w.heap.size,3,none⟩ (.slice none 0 0)))=W9 at*
     have z0:=HX.out.1.box.1
     have z1:=HX.out.1.box.2.1
     have z2:=HX.out.1.box.2.2.1
     have z3:=HX.out.1.box.2.2.2.1
     exact bodyPost_ret (v:=.tuple #[.agg #[.slice none 0 0,.slice none 0 0,.slice none 0 0,.slice none 0 0],.bool false]) (by simp[results,Tryz.results135,go_sem,z0,z1,z2,z3]) rfl ⟨nilDA,false,rfl,⟨HX.out.2,fun h=>by (cases h),fun _=>hsh_n1 (H8.out.2 (by simp))⟩⟩
    ·by_cases her:er=0
     ·subst her
      have HQ:Hid (Lh.size<=131070/\Lh.size=2*l/\(∀k,k<l->okp (nums Lh) k)/\∃ys,OwnA w3.heap.size w4 ao l ys/\cl=ys.length/\ys.take l=prs (nums Lh) l):=by
       rcases H4.out with ⟨_,h⟩|⟨h,_⟩
       ·exact h
       ·exact absurd rfl h
      clear H4
      by_cases hnl:n=l
      ·subst hnl
       obtain ⟨ys,g1,g2,g3⟩:=HQ.out.2.2.2
       subst g2
       have KR:Hid (Calls Tryz.prog 153 #[.int .u16 t,.slice ao n ys.length] w4 (RdP (readF t (prs (nums Lh) n)) w4)):=by
        have hr:=g1.rdTake n
        rw[g3] at hr
        exact read5_any t ao n ys.length (prs (nums Lh) n) w4 hr (prs_len _ _) (OwnA.capb g1).1 (OwnA.capb g1).2
       have HY:Hid (∀r:Dat × Int,r=readF t (prs (nums Lh) n)->hshF t ((num,qn)::ps)=if r.2=0 then some r.1 else none):=fun r hr=>by
        subst hr
        exact hsh_y (H8.out.1 (by simp)) HLh.out HQ.out.1 HQ.out.2.1 HQ.out.2.2.1
       have hl1:n<=65535:=by have:=HQ.out.1;have:=HQ.out.2.1;omega
       generalize readF t (prs (nums Lh) n)=rr at*
       clear g1 g3 HQ
       go_wp2_with fail
       refine KR.out.mono ?_
       rintro e w6 ⟨x,rfl,H6⟩
       have HB6:Hid (Below (w.heap.size+1) (nilB w) w6):=HB4.out.trans (H6.out.2.mono hs4)
       have hs6:w.heap.size+1<=w6.heap.size:=by have:=HB6.out.size;rw[hs0] at this;exact this
       have HRB6:Hid (DBlk w6 w.heap.size nilDA):=(HB6.out.block _ (by omega)).trans HZ.out.2
       have HO:Hid (DOwn w4.heap.size w6 x rr.1):=H6.out.1
       have HBW7:Hid (Below w.heap.size w w6):=HZ.out.1.trans (HB6.out.mono (by omega))
       have HYY:=Lib.hid (HY.out rr rfl)
       have er0:=HRB6.out.box.1
       have er1:=HRB6.out.box.2.1
       have er2:=HRB6.out.box.2.2.1
       have er3:=HRB6.out.box.2.2.2.1
       have ez0:=HRB6.out.fz 0
       have ez1:=HRB6.out.fz 1
       have ez2:=HRB6.out.fz 2
       have ez3:=HRB6.out.fz 3
       simp only at er0 er1 er2 er3
       have hne1:¬ w.heap.size=w6.heap.size:=by omega
       have hne2:¬ w6.heap.size=w.heap.size:=by omega
       have hlt6:w.heap.size<w6.heap.size:=by omega
       clear KR H6 HB4 HB6 HY HRB HBW6
       generalize rr.2=r2 at*
       generalize rr.1=r1 at*
       by_cases hr2:r2=0
       ·subst hr2
        go_wp2_with fail
        have HX:Hid (DBlk (((((w6.setCell ⟨w.heap.size,0,none⟩ (.slice x.p1.a x.p1.n x.p1.c)).setCell ⟨w.heap.size,1,none⟩ (.slice x.p2.a x.p2.n x.p2.c)).setCell ⟨w.heap.size,2,none⟩ (.slice x.p3.a x.p3.n x.p3.c)).setCell ⟨w.heap.size,3,none⟩ (.slice x.p4.a x.p4.n x.p4.c))) w.heap.size x/\Below w.heap.size w (((((w6.setCell ⟨w.heap.size,0,none⟩ (.slice x.p1.a x.p1.n x.p1.c)).setCell ⟨w.heap.size,1,none⟩ (.slice x.p2.a x.p2.n x.p2.c)).setCell ⟨w.heap.size,2,none⟩ (.slice x.p3.a x.p3.n x.p3.c)).setCell ⟨w.heap.size,3,none⟩ (.slice x.p4.a x.p4.n x.p4.c)))):=ret4 HRB6.out HBW7.out (Nat.le_refl _) x
        have HX2:Hid (DOwn w.heap.size (((((w6.setCell ⟨w.heap.size,0,none⟩ (.slice x.p1.a x.p1.n x.p1.c)).setCell ⟨w.heap.size,1,none⟩ (.slice x.p2.a x.p2.n x.p2.c)).setCell ⟨w.heap.size,2,none⟩ (.slice x.p3.a x.p3.n x.p3.c)).setCell ⟨w.heap.size,3,none⟩ (.slice x.p4.a x.p4.n x.p4.c))) x r1):=HO.out.ret4 (by omega) (by omega)
        have HY:Hid (DBlk ((((((w6.setCell ⟨w.heap.size,0,none⟩ (.slice x.p1.a x.p1.n x.p1.c)).setCell ⟨w.heap.size,1,none⟩ (.slice x.p2.a x.p2.n x.p2.c)).setCell ⟨w.heap.size,2,none⟩ (.slice x.p3.a x.p3.n x.p3.c)).setCell ⟨w.heap.size,3,none⟩ (.slice x.p4.a x.p4.n x.p4.c))).alloc (.cells #[.slice x.p1.a x.p1.n x.p1.c,.slice x.p2.a x.p2.n x.p2.c,.slice x.p3.a x.p3.n x.p3.c,.slice x.p4.a x.p4.n x.p4.c] 48)) w.heap.size x/\DOwn w.heap.size ((((((w6.setCell ⟨w.heap.size,0,none⟩ (.slice x.p1.a x.p1.n x.p1.c)).setCell ⟨w.heap.size,1,none⟩ (.slice x.p2.a x.p2.n x.p2.c)).setCell ⟨w.heap.size,2,none⟩ (.slice x.p3.a x.p3.n x.p3.c)).setCell ⟨w.heap.size,3,none⟩ (.slice x.p4.a x.p4.n x.p4.c))).alloc (.cells #[.slice x.p1.a x.p1.n x.p1.c,.slice x.p2.a x.p2.n x.p2.c,.slice x.p3.a x.p3.n x.p3.c,.slice x.p4.a x.p4.n x.p4.c] 48)) x r1/\Below w.heap.size w ((((((w6.setCell ⟨w.heap.size,0,none⟩ (.slice x.p1.a x.p1.n x.p1.c)).setCell ⟨w.heap.size,1,none⟩ (.slice x.p2.a x.p2.n x.p2.c)).setCell ⟨w.heap.size,2,none⟩ (.slice x.p3.a x.p3.n x.p3.c)).setCell ⟨w.heap.size,3,none⟩ (.slice x.p4.a x.p4.n x.p4.c))).alloc (.cells #[.slice x.p1.a x.p1.n x.p1.c,.slice x.p2.a x.p2.n x.p2.c,.slice x.p3.a x.p3.n x.p3.c,.slice x.p4.a x.p4.n x.p4.c] 48))):=⟨((new_below (((((w6.setCell ⟨w.heap.size,0,none⟩ (.slice x.p1.a x.p1.n x.p1.c)).setCell ⟨w.heap.size,1,none⟩ (.slice x.p2.a x.p2.n x.p2.c)).setCell ⟨w.heap.size,2,none⟩ (.slice x.p3.a x.p3.n x.p3.c)).setCell ⟨w.heap.size,3,none⟩ (.slice x.p4.a x.p4.n x.p4.c))) (.cells #[.slice x.p1.a x.p1.n x.p1.c,.slice x.p2.a x.p2.n x.p2.c,.slice x.p3.a x.p3.n x.p3.c,.slice x.p4.a x.p4.n x.p4.c] 48)).block _ HX.out.1.lt).trans HX.out.1,HX2.out.stays (new_below (((((w6.setCell ⟨w.heap.size,0,none⟩ (.slice x.p1.a x.p1.n x.p1.c)).setCell ⟨w.heap.size,1,none⟩ (.slice x.p2.a x.p2.n x.p2.c)).setCell ⟨w.heap.size,2,none⟩ (.slice x.p3.a x.p3.n x.p3.c)).setCell ⟨w.heap.size,3,none⟩ (.slice x.p4.a x.p4.n x.p4.c))) (.cells #[.slice x.p1.a x.p1.n x.p1.c,.slice x.p2.a x.p2.n x.p2.c,.slice x.p3.a x.p3.n x.p3.c,.slice x.p4.a x.p4.n x.p4.c] 48)),HX.out.2.trans ((new_below (((((w6.setCell ⟨w.heap.size,0,none⟩ (.slice x.p1.a x.p1.n x.p1.c)).setCell ⟨w.heap.size,1,none⟩ (.slice x.p2.a x.p2.n x.p2.c)).setCell ⟨w.heap.size,2,none⟩ (.slice x.p3.a x.p3.n x.p3.c)).setCell ⟨w.heap.size,3,none⟩ (.slice x.p4.a x.p4.n x.p4.c))) (.cells #[.slice x.p1.a x.p1.n x.p1.c,.slice x.p2.a x.p2.n x.p2.c,.slice x.p3.a x.p3.n x.p3.c,.slice x.p4.a x.p4.n x.p4.c] 48)).mono HX.out.2.size)⟩
        generalize ((((((w6.setCell ⟨w.heap.size,0,none⟩ (.slice x.p1.a x.p1.n x.p1.c)).setCell ⟨w.heap.size,1,none⟩ (.slice x.p2.a x.p2.n x.p2.c)).setCell ⟨w.heap.size,2,none⟩ (.slice x.p3.a x.p3.n x.p3.c)).setCell ⟨w.heap.size,3,none⟩ (.slice x.p4.a x.p4.n x.p4.c))).alloc (.cells #[.slice x.p1.a x.p1.n x.p1.c,.slice x.p2.a x.p2.n x.p2.c,.slice x.p3.a x.p3.n x.p3.c,.slice x.p4.a x.p4.n x.p4.c] 48))=W9 at*
        have z0:=HY.out.1.box.1
        have z1:=HY.out.1.box.2.1
        have z2:=HY.out.1.box.2.2.1
        have z3:=HY.out.1.box.2.2.2.1
        exact bodyPost_ret (v:=.tuple #[.agg #[.slice x.p1.a x.p1.n x.p1.c,.slice x.p2.a x.p2.n x.p2.c,.slice x.p3.a x.p3.n x.p3.c,.slice x.p4.a x.p4.n x.p4.c],.bool true]) (by simp[results,Tryz.results135,go_sem,z0,z1,z2,z3]) rfl ⟨x,true,rfl,⟨HY.out.2.2,fun _=>⟨r1,HYY.out,HY.out.2.1⟩,fun h=>by (cases h)⟩⟩
       ·have hr3:(r2 == 0)=false:=by simpa using hr2
        go_wp2_with fail
        have HX:Hid (DBlk (((((w6.setCell ⟨w.heap.size,0,none⟩ (.slice x.p1.a x.p1.n x.p1.c)).setCell ⟨w.heap.size,1,none⟩ (.slice x.p2.a x.p2.n x.p2.c)).setCell ⟨w.heap.size,2,none⟩ (.slice x.p3.a x.p3.n x.p3.c)).setCell ⟨w.heap.size,3,none⟩ (.slice x.p4.a x.p4.n x.p4.c))) w.heap.size x/\Below w.heap.size w (((((w6.setCell ⟨w.heap.size,0,none⟩ (.slice x.p1.a x.p1.n x.p1.c)).setCell ⟨w.heap.size,1,none⟩ (.slice x.p2.a x.p2.n x.p2.c)).setCell ⟨w.heap.size,2,none⟩ (.slice x.p3.a x.p3.n x.p3.c)).setCell ⟨w.heap.size,3,none⟩ (.slice x.p4.a x.p4.n x.p4.c)))):=ret4 HRB6.out HBW7.out (Nat.le_refl _) x
        have HY:Hid (DBlk ((((((w6.setCell ⟨w.heap.size,0,none⟩ (.slice x.p1.a x.p1.n x.p1.c)).setCell ⟨w.heap.size,1,none⟩ (.slice x.p2.a x.p2.n x.p2.c)).setCell ⟨w.heap.size,2,none⟩ (.slice x.p3.a x.p3.n x.p3.c)).setCell ⟨w.heap.size,3,none⟩ (.slice x.p4.a x.p4.n x.p4.c))).alloc (.cells #[.slice x.p1.a x.p1.n x.p1.c,.slice x.p2.a x.p2.n x.p2.c,.slice x.p3.a x.p3.n x.p3.c,.slice x.p4.a x.p4.n x.p4.c] 48)) w.heap.size x/\Below w.heap.size w ((((((w6.setCell ⟨w.heap.size,0,none⟩ (.slice x.p1.a x.p1.n x.p1.c)).setCell ⟨w.heap.size,1,none⟩ (.slice x.p2.a x.p2.n x.p2.c)).setCell ⟨w.heap.size,2,none⟩ (.slice x.p3.a x.p3.n x.p3.c)).setCell ⟨w.heap.size,3,none⟩ (.slice x.p4.a x.p4.n x.p4.c))).alloc (.cells #[.slice x.p1.a x.p1.n x.p1.c,.slice x.p2.a x.p2.n x.p2.c,.slice x.p3.a x.p3.n x.p3.c,.slice x.p4.a x.p4.n x.p4.c] 48))):=⟨((new_below (((((w6.setCell ⟨w.heap.size,0,none⟩ (.slice x.p1.a x.p1.n x.p1.c)).setCell ⟨w.heap.size,1,none⟩ (.slice x.p2.a x.p2.n x.p2.c)).setCell ⟨w.heap.size,2,none⟩ (.slice x.p3.a x.p3.n x.p3.c)).setCell ⟨w.heap.size,3,none⟩ (.slice x.p4.a x.p4.n x.p4.c))) (.cells #[.slice x.p1.a x.p1.n x.p1.c,.slice x.p2.a x.p2.n x.p2.c,.slice x.p3.a x.p3.n x.p3.c,.slice x.p4.a x.p4.n x.p4.c] 48)).block _ HX.out.1.lt).trans HX.out.1,HX.out.2.trans ((new_below (((((w6.setCell ⟨w.heap.size,0,none⟩ (.slice x.p1.a x.p1.n x.p1.c)).setCell ⟨w.heap.size,1,none⟩ (.slice x.p2.a x.p2.n x.p2.c)).setCell ⟨w.heap.size,2,none⟩ (.slice x.p3.a x.p3.n x.p3.c)).setCell ⟨w.heap.size,3,none⟩ (.slice x.p4.a x.p4.n x.p4.c))) (.cells #[.slice x.p1.a x.p1.n x.p1.c,.slice x.p2.a x.p2.n x.p2.c,.slice x.p3.a x.p3.n x.p3.c,.slice x.p4.a x.p4.n x.p4.c] 48)).mono HX.out.2.size)⟩
        generalize ((((((w6.setCell ⟨w.heap.size,0,none⟩ (.slice x.p1.a x.p1.n x.p1.c)).setCell ⟨w.heap.size,1,none⟩ (.slice x.p2.a x.p2.n x.p2.c)).setCell ⟨w.heap.size,2,none⟩ (.slice x.p3.a x.p3.n x.p3.c)).setCell ⟨w.heap.size,3,none⟩ (.slice x.p4.a x.p4.n x.p4.c))).alloc (.cells #[.slice x.p1.a x.p1.n x.p1.c,.slice x.p2.a x.p2.n x.p2.c,.slice x.p3.a x.p3.n x.p3.c,.slice x.p4.a x.p4.n x.p4.c] 48))=W9 at*
        have z0:=HY.out.1.box.1
        have z1:=HY.out.1.box.2.1
        have z2:=HY.out.1.box.2.2.1
        have z3:=HY.out.1.box.2.2.2.1
        exact bodyPost_ret (v:=.tuple #[.agg #[.slice x.p1.a x.p1.n x.p1.c,.slice x.p2.a x.p2.n x.p2.c,.slice x.p3.a x.p3.n x.p3.c,.slice x.p4.a x.p4.n x.p4.c],.bool false]) (by simp[results,Tryz.results135,go_sem,z0,z1,z2,z3]) rfl ⟨x,false,rfl,⟨HY.out.2,fun h=>by (cases h),fun _=>by rw[HYY.out,if_neg hr2]⟩⟩
      ·have hnl1:((n:Int) != (l:Int))=true:=by rw[bne_iff_ne];omega
       have hnl2:((n:Int) == (l:Int))=false:=by rw[beq_eq_false_iff_ne];omega
       have hl1:l<=65535:=by have:=HQ.out.1;have:=HQ.out.2.1;omega
       have er0:=HRB.out.box.1
       have er1:=HRB.out.box.2.1
       have er2:=HRB.out.box.2.2.1
       have er3:=HRB.out.box.2.2.2.1
       have ez0:=HRB.out.fz 0
       have ez1:=HRB.out.fz 1
       have ez2:=HRB.out.fz 2
       have ez3:=HRB.out.fz 3
       simp only at er0 er1 er2 er3
       go_wp2_with fail
       have HX:Hid (DBlk (((((w4.setCell ⟨w.heap.size,0,none⟩ (.slice none 0 0)).setCell ⟨w.heap.size,1,none⟩ (.slice none 0 0)).setCell ⟨w.heap.size,2,none⟩ (.slice none 0 0)).setCell ⟨w.heap.size,3,none⟩ (.slice none 0 0))) w.heap.size nilDA/\Below w.heap.size w (((((w4.setCell ⟨w.heap.size,0,none⟩ (.slice none 0 0)).setCell ⟨w.heap.size,1,none⟩ (.slice none 0 0)).setCell ⟨w.heap.size,2,none⟩ (.slice none 0 0)).setCell ⟨w.heap.size,3,none⟩ (.slice none 0 0)))):=ret4 HRB.out HBW6.out (Nat.le_refl _) nilDA
       generalize (((((w4.setCell ⟨w.heap.size,0,none⟩ (.slice none 0 0)).setCell ⟨w.heap.size,1,none⟩ (.slice none 0 0)).setCell ⟨w.heap.size,2,none⟩ (.slice none 0 0)).setCell ⟨w.heap.size,3,none⟩ (.slice none 0 0)))=W9 at*
       have z0:=HX.out.1.box.1
       have z1:=HX.out.1.box.2.1
       have z2:=HX.out.1.box.2.2.1
       have z3:=HX.out.1.box.2.2.2.1
       exact bodyPost_ret (v:=.tuple #[.agg #[.slice none 0 0,.slice none 0 0,.slice none 0 0,.slice none 0 0],.bool false]) (by simp[results,Tryz.results135,go_sem,z0,z1,z2,z3]) rfl ⟨nilDA,false,rfl,⟨HX.out.2,fun h=>by (cases h),fun _=>hsh_n2 (H8.out.1 (by simp)) HLh.out HQ.out.2.1 hnl⟩⟩
     ·have her2:(er == 0)=false:=by simpa using her
      have her3:(er != 0)=true:=by simpa using her
      have HQ:Hid (¬ (Lh.size<=131070/\∃m,Lh.size=2*m/\∀k,k<m->okp (nums Lh) k)):=by
       rcases H4.out with ⟨h,_⟩|⟨_,h⟩
       ·exact absurd h her
       ·exact h
      have er0:=HRB.out.box.1
      have er1:=HRB.out.box.2.1
      have er2:=HRB.out.box.2.2.1
      have er3:=HRB.out.box.2.2.2.1
      have ez0:=HRB.out.fz 0
      have ez1:=HRB.out.fz 1
      have ez2:=HRB.out.fz 2
      have ez3:=HRB.out.fz 3
      simp only at er0 er1 er2 er3
      clear H4
      go_wp2_with fail
      have HX:Hid (DBlk (((((w4.setCell ⟨w.heap.size,0,none⟩ (.slice none 0 0)).setCell ⟨w.heap.size,1,none⟩ (.slice none 0 0)).setCell ⟨w.heap.size,2,none⟩ (.slice none 0 0)).setCell ⟨w.heap.size,3,none⟩ (.slice none 0 0))) w.heap.size nilDA/\Below w.heap.size w (((((w4.setCell ⟨w.heap.size,0,none⟩ (.slice none 0 0)).setCell ⟨w.heap.size,1,none⟩ (.slice none 0 0)).setCell ⟨w.heap.size,2,none⟩ (.slice none 0 0)).setCell ⟨w.heap.size,3,none⟩ (.slice none 0 0)))):=ret4 HRB.out HBW6.out (Nat.le_refl _) nilDA
      generalize (((((w4.setCell ⟨w.heap.size,0,none⟩ (.slice none 0 0)).setCell ⟨w.heap.size,1,none⟩ (.slice none 0 0)).setCell ⟨w.heap.size,2,none⟩ (.slice none 0 0)).setCell ⟨w.heap.size,3,none⟩ (.slice none 0 0)))=W9 at*
      have z0:=HX.out.1.box.1
      have z1:=HX.out.1.box.2.1
      have z2:=HX.out.1.box.2.2.1
      have z3:=HX.out.1.box.2.2.2.1
      exact bodyPost_ret (v:=.tuple #[.agg #[.slice none 0 0,.slice none 0 0,.slice none 0 0,.slice none 0 0],.bool false]) (by simp[results,Tryz.results135,go_sem,z0,z1,z2,z3]) rfl ⟨nilDA,false,rfl,⟨HX.out.2,fun h=>by (cases h),fun _=>hsh_n3 (H8.out.1 (by simp)) HLh.out HQ.out⟩⟩
 ·have hc1':¬ c - 1=0:=by omega
  have hc2:¬ (c:Int) - 1=0:=by omega
  go_enter Tryz.func135,Tryz.ntmps135
  go_wp2_with fail
  go_loopw [21] (fun y wr=>∃k:Nat,k<=N/\y=.int .i64 k/\Hid (G2 (w.heap.size+1) wr (w.heap.size+1) (Lib.byteCells (catL (ps.take k)))/\Below (w.heap.size+1) (nilB w) wr)) (fun y _=>N - (intOf y).toNat)
  case atStart=>exact ⟨0,Nat.zero_le _,rfl,HG0.out⟩
  case round=>
   obtain ⟨k,hk,rfl,HR⟩:=hrel
   have HBW:Hid (Below w.heap.size w wr):=HZ.out.1.trans (HR.out.2.mono (by omega))
   by_cases hlt:k<N
   ·have hlt':(k:Int)<(N:Int):=by omega
    have hkp:k<ps.length:=by rw[HN.out];exact hlt
    obtain ⟨-,r1,r2⟩:=HW.out.at k hkp
    have q1:wr.cell? ⟨b,o+2+k*2,none⟩=some (.string ps[k].1):=(HBW.out.cell (p:=⟨b,o+2+k*2,none⟩) hb).trans r1
    have q2:wr.cell? ⟨b,o+2+k*2+1,none⟩=some (.bool ps[k].2):=(HBW.out.cell (p:=⟨b,o+2+k*2+1,none⟩) hb).trans r2
    have HT:=Lib.hid (catL_snoc ps k hkp)
    have HL:Hid ((Lib.byteCells (catL (ps.take k))).length+ps[k].1.size<=140737488355328):=by
     show _<=_
     have h1:=catL_le ps (k+1)
     rw[catL_snoc ps k hkp,List.length_append] at h1
     have h2:=HS.out
     rw[Lib.byteCells_length]
     have h3:ps[k].1.data.toList.length=ps[k].1.size:=rfl
     omega
    clear r1 r2
    generalize ps[k].1=s at*
    generalize ps[k].2=q at*
    go_wp2_with fail
    have hnb:Below wr.heap.size wr (wr.alloc (.cells #[.string s,.bool q] 77)):=new_below _ _
    have hbz:w.heap.size+1<=wr.heap.size:=by have:=HR.out.2.size;rw[hs0] at this;exact this
    have KW:=Lib.hid (wstrU (w.heap.size+1) (w.heap.size+1) (Lib.byteCells (catL (ps.take k))) s (wr.alloc (.cells #[.string s,.bool q] 77)) (HR.out.1.below hnb) (Nat.le_refl _) HL.out)
    refine KW.out.mono ?_
    rintro e w2 ⟨rfl,H2⟩
    go_wp2_with fail
    refine ⟨⟨k+1,by omega,by go_num,?_,?_⟩,by simp[intOf];omega⟩
    ·rw[HT.out,cells_app];exact .inr H2.out.1
    ·exact (HR.out.2.trans (hnb.mono hbz)).trans H2.out.2
   ·have hge:¬ (k:Int)<(N:Int):=by omega
    have hkn:k=N:=by omega
    subst hkn
    have hall:ps.take k=ps:=List.take_of_length_le (by rw[HN.out];exact Nat.le_refl _)
    have HG:Hid (G2 (w.heap.size+1) wr (w.heap.size+1) (Lib.byteCells (catL ps))/\Below (w.heap.size+1) (nilB w) wr):=by rw[hall] at HR;exact HR
    have q1:wr.cell? ⟨b,o,none⟩=some (.string num):=(HBW.out.cell (p:=⟨b,o,none⟩) hb).trans c1
    have HBWx:Hid (Below w.heap.size w wr):=HBW
    clear HR hall HBW
    go_wp2_with fail
    refine (KN.out _ HBWx.out).mono ?_
    rintro e w2 ⟨n,nb,rfl,Hn,H8,H2⟩
    have hn:=Hn.out
    have HG2:Hid (G2 (w.heap.size+1) w2 (w.heap.size+1) (Lib.byteCells (catL ps))/\Below (w.heap.size+1) (nilB w) w2):=⟨HG.out.1.below H2.out,HG.out.2.trans (H2.out.mono (by have:=HG.out.2.size;rw[hs0] at this;exact this))⟩
    have KS:Hid (Calls Tryz.prog 22 #[.pointer (some ⟨w.heap.size+1,0,none⟩)] w2 fun e w'=>e=.returned (.string Lh)/\Hid (Below (w.heap.size+1) w2 w')):=by
     have:=wstringU (w.heap.size+1) (w.heap.size+1) (catL ps) w2 HG2.out.1 (by have:=HS.out;omega)
     rw[HLh.out] at this
     exact this
    clear HG H2 HBWx
    go_wp2_with fail
    refine KS.out.mono ?_
    rintro e w3 ⟨rfl,H3⟩
    have HB3:Hid (Below (w.heap.size+1) (nilB w) w3):=HG2.out.2.trans H3.out
    clear KS H3 HG2
    go_wp2_with fail
    refine (KU.out _).mono ?_
    rintro e w4 ⟨ao,l,cl,er,rfl,H4,H5⟩
    have HB4:Hid (Below (w.heap.size+1) (nilB w) w4):=HB3.out.trans (H5.out.mono (by have:=HB3.out.size;rw[hs0] at this;exact this))
    have hs4:w.heap.size+1<=w4.heap.size:=by have:=HB4.out.size;rw[hs0] at this;exact this
    have HRB:Hid (DBlk w4 w.heap.size nilDA):=(HB4.out.block _ (by omega)).trans HZ.out.2
    have HBW6:Hid (Below w.heap.size w w4):=HZ.out.1.trans (HB4.out.mono (by omega))
    clear HB3 KU KN H5
    rcases nb with _|_
    ·have er0:=HRB.out.box.1
     have er1:=HRB.out.box.2.1
     have er2:=HRB.out.box.2.2.1
     have er3:=HRB.out.box.2.2.2.1
     have ez0:=HRB.out.fz 0
     have ez1:=HRB.out.fz 1
     have ez2:=HRB.out.fz 2
     have ez3:=HRB.out.fz 3
     simp only at er0 er1 er2 er3
     clear H4
     go_wp2_with fail
     have HX:Hid (DBlk (((((w4.setCell ⟨w.heap.size,0,none⟩ (.slice none 0 0)).setCell ⟨w.heap.size,1,none⟩ (.slice none 0 0)).setCell ⟨w.heap.size,2,none⟩ (.slice none 0 0)).setCell ⟨w.heap.size,3,none⟩ (.slice none 0 0))) w.heap.size nilDA/\Below w.heap.size w (((((w4.setCell ⟨w.heap.size,0,none⟩ (.slice none 0 0)).setCell ⟨w.heap.size,1,none⟩ (.slice none 0 0)).setCell ⟨w.heap.size,2,none⟩ (.slice none 0 0)).setCell ⟨w.heap.size,3,none⟩ (.slice none 0 0)))):=ret4 HRB.out HBW6.out (Nat.le_refl _) nilDA
     generalize (((((w4.setCell ⟨w.heap.size,0,none⟩ (.slice none 0 0)).setCell ⟨w.heap.size,1,none⟩ (.slice none 0 0)).setCell ⟨w.heap.size,2,none⟩ (.slice none 0 0)).setCell ⟨w.heap.size,3,none⟩ (.slice none 0 0)))=W9 at*
     have z0:=HX.out.1.box.1
     have z1:=HX.out.1.box.2.1
     have z2:=HX.out.1.box.2.2.1
     have z3:=HX.out.1.box.2.2.2.1
     exact bodyPost_ret (v:=.tuple #[.agg #[.slice none 0 0,.slice none 0 0,.slice none 0 0,.slice none 0 0],.bool false]) (by simp[results,Tryz.results135,go_sem,z0,z1,z2,z3]) rfl ⟨nilDA,false,rfl,⟨HX.out.2,fun h=>by (cases h),fun _=>hsh_n1 (H8.out.2 (by simp))⟩⟩
    ·by_cases her:er=0
     ·subst her
      have HQ:Hid (Lh.size<=131070/\Lh.size=2*l/\(∀k,k<l->okp (nums Lh) k)/\∃ys,OwnA w3.heap.size w4 ao l ys/\cl=ys.length/\ys.take l=prs (nums Lh) l):=by
       rcases H4.out with ⟨_,h⟩|⟨h,_⟩
       ·exact h
       ·exact absurd rfl h
      clear H4
      by_cases hnl:n=l
      ·subst hnl
       obtain ⟨ys,g1,g2,g3⟩:=HQ.out.2.2.2
       subst g2
       have KR:Hid (Calls Tryz.prog 153 #[.int .u16 t,.slice ao n ys.length] w4 (RdP (readF t (prs (nums Lh) n)) w4)):=by
        have hr:=g1.rdTake n
        rw[g3] at hr
        exact read5_any t ao n ys.length (prs (nums Lh) n) w4 hr (prs_len _ _) (OwnA.capb g1).1 (OwnA.capb g1).2
       have HY:Hid (∀r:Dat × Int,r=readF t (prs (nums Lh) n)->hshF t ((num,qn)::ps)=if r.2=0 then some r.1 else none):=fun r hr=>by
        subst hr
        exact hsh_y (H8.out.1 (by simp)) HLh.out HQ.out.1 HQ.out.2.1 HQ.out.2.2.1
       have hl1:n<=65535:=by have:=HQ.out.1;have:=HQ.out.2.1;omega
       generalize readF t (prs (nums Lh) n)=rr at*
       clear g1 g3 HQ
       go_wp2_with fail
       refine KR.out.mono ?_
       rintro e w6 ⟨x,rfl,H6⟩
       have HB6:Hid (Below (w.heap.size+1) (nilB w) w6):=HB4.out.trans (H6.out.2.mono hs4)
       have hs6:w.heap.size+1<=w6.heap.size:=by have:=HB6.out.size;rw[hs0] at this;exact this
       have HRB6:Hid (DBlk w6 w.heap.size nilDA):=(HB6.out.block _ (by omega)).trans HZ.out.2
       have HO:Hid (DOwn w4.heap.size w6 x rr.1):=H6.out.1
       have HBW7:Hid (Below w.heap.size w w6):=HZ.out.1.trans (HB6.out.mono (by omega))
       have HYY:=Lib.hid (HY.out rr rfl)
       have er0:=HRB6.out.box.1
       have er1:=HRB6.out.box.2.1
       have er2:=HRB6.out.box.2.2.1
       have er3:=HRB6.out.box.2.2.2.1
       have ez0:=HRB6.out.fz 0
       have ez1:=HRB6.out.fz 1
       have ez2:=HRB6.out.fz 2
       have ez3:=HRB6.out.fz 3
       simp only at er0 er1 er2 er3
       have hne1:¬ w.heap.size=w6.heap.size:=by omega
       have hne2:¬ w6.heap.size=w.heap.size:=by omega
       have hlt6:w.heap.size<w6.heap.size:=by omega
       clear KR H6 HB4 HB6 HY HRB HBW6
       generalize rr.2=r2 at*
       generalize rr.1=r1 at*
       by_cases hr2:r2=0
       ·subst hr2
        go_wp2_with fail
        have HX:Hid (DBlk (((((w6.setCell ⟨w.heap.size,0,none⟩ (.slice x.p1.a x.p1.n x.p1.c)).setCell ⟨w.heap.size,1,none⟩ (.slice x.p2.a x.p2.n x.p2.c)).setCell ⟨w.heap.size,2,none⟩ (.slice x.p3.a x.p3.n x.p3.c)).setCell ⟨w.heap.size,3,none⟩ (.slice x.p4.a x.p4.n x.p4.c))) w.heap.size x/\Below w.heap.size w (((((w6.setCell ⟨w.heap.size,0,none⟩ (.slice x.p1.a x.p1.n x.p1.c)).setCell ⟨w.heap.size,1,none⟩ (.slice x.p2.a x.p2.n x.p2.c)).setCell ⟨w.heap.size,2,none⟩ (.slice x.p3.a x.p3.n x.p3.c)).setCell ⟨w.heap.size,3,none⟩ (.slice x.p4.a x.p4.n x.p4.c)))):=ret4 HRB6.out HBW7.out (Nat.le_refl _) x
        have HX2:Hid (DOwn w.heap.size (((((w6.setCell ⟨w.heap.size,0,none⟩ (.slice x.p1.a x.p1.n x.p1.c)).setCell ⟨w.heap.size,1,none⟩ (.slice x.p2.a x.p2.n x.p2.c)).setCell ⟨w.heap.size,2,none⟩ (.slice x.p3.a x.p3.n x.p3.c)).setCell ⟨w.heap.size,3,none⟩ (.slice x.p4.a x.p4.n x.p4.c))) x r1):=HO.out.ret4 (by omega) (by omega)
        have HY:Hid (DBlk ((((((w6.setCell ⟨w.heap.size,0,none⟩ (.slice x.p1.a x.p1.n x.p1.c)).setCell ⟨w.heap.size,1,none⟩ (.slice x.p2.a x.p2.n x.p2.c)).setCell ⟨w.heap.size,2,none⟩ (.slice x.p3.a x.p3.n x.p3.c)).setCell ⟨w.heap.size,3,none⟩ (.slice x.p4.a x.p4.n x.p4.c))).alloc (.cells #[.slice x.p1.a x.p1.n x.p1.c,.slice x.p2.a x.p2.n x.p2.c,.slice x.p3.a x.p3.n x.p3.c,.slice x.p4.a x.p4.n x.p4.c] 48)) w.heap.size x/\DOwn w.heap.size ((((((w6.setCell ⟨w.heap.size,0,none⟩ (.slice x.p1.a x.p1.n x.p1.c)).setCell ⟨w.heap.size,1,none⟩ (.slice x.p2.a x.p2.n x.p2.c)).setCell ⟨w.heap.size,2,none⟩ (.slice x.p3.a x.p3.n x.p3.c)).setCell ⟨w.heap.size,3,none⟩ (.slice x.p4.a x.p4.n x.p4.c))).alloc (.cells #[.slice x.p1.a x.p1.n x.p1.c,.slice x.p2.a x.p2.n x.p2.c,.slice x.p3.a x.p3.n x.p3.c,.slice x.p4.a x.p4.n x.p4.c] 48)) x r1/\Below w.heap.size w ((((((w6.setCell ⟨w.heap.size,0,none⟩ (.slice x.p1.a x.p1.n x.p1.c)).setCell ⟨w.heap.size,1,none⟩ (.slice x.p2.a x.p2.n x.p2.c)).setCell ⟨w.heap.size,2,none⟩ (.slice x.p3.a x.p3.n x.p3.c)).setCell ⟨w.heap.size,3,none⟩ (.slice x.p4.a x.p4.n x.p4.c))).alloc (.cells #[.slice x.p1.a x.p1.n x.p1.c,.slice x.p2.a x.p2.n x.p2.c,.slice x.p3.a x.p3.n x.p3.c,.slice x.p4.a x.p4.n x.p4.c] 48))):=⟨((new_below (((((w6.setCell ⟨w.heap.size,0,none⟩ (.slice x.p1.a x.p1.n x.p1.c)).setCell ⟨w.heap.size,1,none⟩ (.slice x.p2.a x.p2.n x.p2.c)).setCell ⟨w.heap.size,2,none⟩ (.slice x.p3.a x.p3.n x.p3.c)).setCell ⟨w.heap.size,3,none⟩ (.slice x.p4.a x.p4.n x.p4.c))) (.cells #[.slice x.p1.a x.p1.n x.p1.c,.slice x.p2.a x.p2.n x.p2.c,.slice x.p3.a x.p3.n x.p3.c,.slice x.p4.a x.p4.n x.p4.c] 48)).block _ HX.out.1.lt).trans HX.out.1,HX2.out.stays (new_below (((((w6.setCell ⟨w.heap.size,0,none⟩ (.slice x.p1.a x.p1.n x.p1.c)).setCell ⟨w.heap.size,1,none⟩ (.slice x.p2.a x.p2.n x.p2.c)).setCell ⟨w.heap.size,2,none⟩ (.slice x.p3.a x.p3.n x.p3.c)).setCell ⟨w.heap.size,3,none⟩ (.slice x.p4.a x.p4.n x.p4.c))) (.cells #[.slice x.p1.a x.p1.n x.p1.c,.slice x.p2.a x.p2.n x.p2.c,.slice x.p3.a x.p3.n x.p3.c,.slice x.p4.a x.p4.n x.p4.c] 48)),HX.out.2.trans ((new_below (((((w6.setCell ⟨w.heap.size,0,none⟩ (.slice x.p1.a x.p1.n x.p1.c)).setCell ⟨w.heap.size,1,none⟩ (.slice x.p2.a x.p2.n x.p2.c)).setCell ⟨w.heap.size,2,none⟩ (.slice x.p3.a x.p3.n x.p3.c)).setCell ⟨w.heap.size,3,none⟩ (.slice x.p4.a x.p4.n x.p4.c))) (.cells #[.slice x.p1.a x.p1.n x.p1.c,.slice x.p2.a x.p2.n x.p2.c,.slice x.p3.a x.p3.n x.p3.c,.slice x.p4.a x.p4.n x.p4.c] 48)).mono HX.out.2.size)⟩
        generalize ((((((w6.setCell ⟨w.heap.size,0,none⟩ (.slice x.p1.a x.p1.n x.p1.c)).setCell ⟨w.heap.size,1,none⟩ (.slice x.p2.a x.p2.n x.p2.c)).setCell ⟨w.heap.size,2,none⟩ (.slice x.p3.a x.p3.n x.p3.c)).setCell ⟨w.heap.size,3,none⟩ (.slice x.p4.a x.p4.n x.p4.c))).alloc (.cells #[.slice x.p1.a x.p1.n x.p1.c,.slice x.p2.a x.p2.n x.p2.c,.slice x.p3.a x.p3.n x.p3.c,.slice x.p4.a x.p4.n x.p4.c] 48))=W9 at*
        have z0:=HY.out.1.box.1
        have z1:=HY.out.1.box.2.1
        have z2:=HY.out.1.box.2.2.1
        have z3:=HY.out.1.box.2.2.2.1
        exact bodyPost_ret (v:=.tuple #[.agg #[.slice x.p1.a x.p1.n x.p1.c,.slice x.p2.a x.p2.n x.p2.c,.slice x.p3.a x.p3.n x.p3.c,.slice x.p4.a x.p4.n x.p4.c],.bool true]) (by simp[results,Tryz.results135,go_sem,z0,z1,z2,z3]) rfl ⟨x,true,rfl,⟨HY.out.2.2,fun _=>⟨r1,HYY.out,HY.out.2.1⟩,fun h=>by (cases h)⟩⟩
       ·have hr3:(r2 == 0)=false:=by simpa using hr2
        go_wp2_with fail
        have HX:Hid (DBlk (((((w6.setCell ⟨w.heap.size,0,none⟩ (.slice x.p1.a x.p1.n x.p1.c)).setCell ⟨w.heap.size,1,none⟩ (.slice x.p2.a x.p2.n x.p2.c)).setCell ⟨w.heap.size,2,none⟩ (.slice x.p3.a x.p3.n x.p3.c)).setCell ⟨w.heap.size,3,none⟩ (.slice x.p4.a x.p4.n x.p4.c))) w.heap.size x/\Below w.heap.size w (((((w6.setCell ⟨w.heap.size,0,none⟩ (.slice x.p1.a x.p1.n x.p1.c)).setCell ⟨w.heap.size,1,none⟩ (.slice x.p2.a x.p2.n x.p2.c)).setCell ⟨w.heap.size,2,none⟩ (.slice x.p3.a x.p3.n x.p3.c)).setCell ⟨w.heap.size,3,none⟩ (.slice x.p4.a x.p4.n x.p4.c)))):=ret4 HRB6.out HBW7.out (Nat.le_refl _) x
        have HY:Hid (DBlk ((((((w6.setCell ⟨w.heap.size,0,none⟩ (.slice x.p1.a x.p1.n x.p1.c)).setCell ⟨w.heap.size,1,none⟩ (.slice x.p2.a x.p2.n x.p2.c)).setCell ⟨w.heap.size,2,none⟩ (.slice x.p3.a x.p3.n x.p3.c)).setCell ⟨w.heap.size,3,none⟩ (.slice x.p4.a x.p4.n x.p4.c))).alloc (.cells #[.slice x.p1.a x.p1.n x.p1.c,.slice x.p2.a x.p2.n x.p2.c,.slice x.p3.a x.p3.n x.p3.c,.slice x.p4.a x.p4.n x.p4.c] 48)) w.heap.size x/\Below w.heap.size w ((((((w6.setCell ⟨w.heap.size,0,none⟩ (.slice x.p1.a x.p1.n x.p1.c)).setCell ⟨w.heap.size,1,none⟩ (.slice x.p2.a x.p2.n x.p2.c)).setCell ⟨w.heap.size,2,none⟩ (.slice x.p3.a x.p3.n x.p3.c)).setCell ⟨w.heap.size,3,none⟩ (.slice x.p4.a x.p4.n x.p4.c))).alloc (.cells #[.slice x.p1.a x.p1.n x.p1.c,.slice x.p2.a x.p2.n x.p2.c,.slice x.p3.a x.p3.n x.p3.c,.slice x.p4.a x.p4.n x.p4.c] 48))):=⟨((new_below (((((w6.setCell ⟨w.heap.size,0,none⟩ (.slice x.p1.a x.p1.n x.p1.c)).setCell ⟨w.heap.size,1,none⟩ (.slice x.p2.a x.p2.n x.p2.c)).setCell ⟨w.heap.size,2,none⟩ (.slice x.p3.a x.p3.n x.p3.c)).setCell ⟨w.heap.size,3,none⟩ (.slice x.p4.a x.p4.n x.p4.c))) (.cells #[.slice x.p1.a x.p1.n x.p1.c,.slice x.p2.a x.p2.n x.p2.c,.slice x.p3.a x.p3.n x.p3.c,.slice x.p4.a x.p4.n x.p4.c] 48)).block _ HX.out.1.lt).trans HX.out.1,HX.out.2.trans ((new_below (((((w6.setCell ⟨w.heap.size,0,none⟩ (.slice x.p1.a x.p1.n x.p1.c)).setCell ⟨w.heap.size,1,none⟩ (.slice x.p2.a x.p2.n x.p2.c)).setCell ⟨w.heap.size,2,none⟩ (.slice x.p3.a x.p3.n x.p3.c)).setCell ⟨w.heap.size,3,none⟩ (.slice x.p4.a x.p4.n x.p4.c))) (.cells #[.slice x.p1.a x.p1.n x.p1.c,.slice x.p2.a x.p2.n x.p2.c,.slice x.p3.a x.p3.n x.p3.c,.slice x.p4.a x.p4.n x.p4.c] 48)).mono HX.out.2.size)⟩
        generalize ((((((w6.setCell ⟨w.heap.size,0,none⟩ (.slice x.p1.a x.p1.n x.p1.c)).setCell ⟨w.heap.size,1,none⟩ (.slice x.p2.a x.p2.n x.p2.c)).setCell ⟨w.heap.size,2,none⟩ (.slice x.p3.a x.p3.n x.p3.c)).setCell ⟨w.heap.size,3,none⟩ (.slice x.p4.a x.p4.n x.p4.c))).alloc (.cells #[.slice x.p1.a x.p1.n x.p1.c,.slice x.p2.a x.p2.n x.p2.c,.slice x.p3.a x.p3.n x.p3.c,.slice x.p4.a x.p4.n x.p4.c] 48))=W9 at*
        have z0:=HY.out.1.box.1
        have z1:=HY.out.1.box.2.1
        have z2:=HY.out.1.box.2.2.1
        have z3:=HY.out.1.box.2.2.2.1
        exact bodyPost_ret (v:=.tuple #[.agg #[.slice x.p1.a x.p1.n x.p1.c,.slice x.p2.a x.p2.n x.p2.c,.slice x.p3.a x.p3.n x.p3.c,.slice x.p4.a x.p4.n x.p4.c],.bool false]) (by simp[results,Tryz.results135,go_sem,z0,z1,z2,z3]) rfl ⟨x,false,rfl,⟨HY.out.2,fun h=>by (cases h),fun _=>by rw[HYY.out,if_neg hr2]⟩⟩
      ·have hnl1:((n:Int) != (l:Int))=true:=by rw[bne_iff_ne];omega
       have hnl2:((n:Int) == (l:Int))=false:=by rw[beq_eq_false_iff_ne];omega
       have hl1:l<=65535:=by have:=HQ.out.1;have:=HQ.out.2.1;omega
       have er0:=HRB.out.box.1
       have er1:=HRB.out.box.2.1
       have er2:=HRB.out.box.2.2.1
       have er3:=HRB.out.box.2.2.2.1
       have ez0:=HRB.out.fz 0
       have ez1:=HRB.out.fz 1
       have ez2:=HRB.out.fz 2
       have ez3:=HRB.out.fz 3
       simp only at er0 er1 er2 er3
       go_wp2_with fail
       have HX:Hid (DBlk (((((w4.setCell ⟨w.heap.size,0,none⟩ (.slice none 0 0)).setCell ⟨w.heap.size,1,none⟩ (.slice none 0 0)).setCell ⟨w.heap.size,2,none⟩ (.slice none 0 0)).setCell ⟨w.heap.size,3,none⟩ (.slice none 0 0))) w.heap.size nilDA/\Below w.heap.size w (((((w4.setCell ⟨w.heap.size,0,none⟩ (.slice none 0 0)).setCell ⟨w.heap.size,1,none⟩ (.slice none 0 0)).setCell ⟨w.heap.size,2,none⟩ (.slice none 0 0)).setCell ⟨w.heap.size,3,none⟩ (.slice none 0 0)))):=ret4 HRB.out HBW6.out (Nat.le_refl _) nilDA
       generalize (((((w4.setCell ⟨w.heap.size,0,none⟩ (.slice none 0 0)).setCell ⟨w.heap.size,1,none⟩ (.slice none 0 0)).setCell ⟨w.heap.size,2,none⟩ (.slice none 0 0)).setCell ⟨w.heap.size,3,none⟩ (.slice none 0 0)))=W9 at*
       have z0:=HX.out.1.box.1
       have z1:=HX.out.1.box.2.1
       have z2:=HX.out.1.box.2.2.1
       have z3:=HX.out.1.box.2.2.2.1
       exact bodyPost_ret (v:=.tuple #[.agg #[.slice none 0 0,.slice none 0 0,.slice none 0 0,.slice none 0 0],.bool false]) (by simp[results,Tryz.results135,go_sem,z0,z1,z2,z3]) rfl ⟨nilDA,false,rfl,⟨HX.out.2,fun h=>by (cases h),fun _=>hsh_n2 (H8.out.1 (by simp)) HLh.out HQ.out.2.1 hnl⟩⟩
     ·have her2:(er == 0)=false:=by simpa using her
      have her3:(er != 0)=true:=by simpa using her
      have HQ:Hid (¬ (Lh.size<=131070/\∃m,Lh.size=2*m/\∀k,k<m->okp (nums Lh) k)):=by
       rcases H4.out with ⟨h,_⟩|⟨_,h⟩
       ·exact absurd h her
       ·exact h
      have er0:=HRB.out.box.1
      have er1:=HRB.out.box.2.1
      have er2:=HRB.out.box.2.2.1
      have er3:=HRB.out.box.2.2.2.1
      have ez0:=HRB.out.fz 0
      have ez1:=HRB.out.fz 1
      have ez2:=HRB.out.fz 2
      have ez3:=HRB.out.fz 3
      simp only at er0 er1 er2 er3
      clear H4
      go_wp2_with fail
      have HX:Hid (DBlk (((((w4.setCell ⟨w.heap.size,0,none⟩ (.slice none 0 0)).setCell ⟨w.heap.size,1,none⟩ (.slice none 0 0)).setCell ⟨w.heap.size,2,none⟩ (.slice none 0 0)).setCell ⟨w.heap.size,3,none⟩ (.slice none 0 0))) w.heap.size nilDA/\Below w.heap.size w (((((w4.setCell ⟨w.heap.size,0,none⟩ (.slice none 0 0)).setCell ⟨w.heap.size,1,none⟩ (.slice none 0 0)).setCell ⟨w.heap.size,2,none⟩ (.slice none 0 0)).setCell ⟨w.heap.size,3,none⟩ (.slice none 0 0)))):=ret4 HRB.out HBW6.out (Nat.le_refl _) nilDA
      generalize (((((w4.setCell ⟨w.heap.size,0,none⟩ (.slice none 0 0)).setCell ⟨w.heap.size,1,none⟩ (.slice none 0 0)).setCell ⟨w.heap.size,2,none⟩ (.slice none 0 0)).setCell ⟨w.heap.size,3,none⟩ (.slice none 0 0)))=W9 at*
      have z0:=HX.out.1.box.1
      have z1:=HX.out.1.box.2.1
      have z2:=HX.out.1.box.2.2.1
      have z3:=HX.out.1.box.2.2.2.1
      exact bodyPost_ret (v:=.tuple #[.agg #[.slice none 0 0,.slice none 0 0,.slice none 0 0,.slice none 0 0],.bool false]) (by simp[results,Tryz.results135,go_sem,z0,z1,z2,z3]) rfl ⟨nilDA,false,rfl,⟨HX.out.2,fun h=>by (cases h),fun _=>hsh_n3 (H8.out.1 (by simp)) HLh.out HQ.out⟩⟩
def RdG(t:Nat)(w0:World)(wa:Option Addr)(ws:List Wd)(c:Nat)(oa:Option Addr)(on oc:Nat)(og:List ByteArray):Prop:=
 ∀w,RX w0 w wa ws.length c oa on oc nilDA false ⟨[],[],[],[]⟩->Calls Tryz.prog 136 #[.pointer (some ⟨w0.heap.size,0,none⟩),.int .u16 (t:Int)] w fun e w'=>∃v,e=.returned v/\Hid (∃K z,K<=900/\RG w0 w' oa on oc K z (fldF t og ws))
theorem rg_start{w0 w:World}{wa:Option Addr}{ws:List Wd}{c:Nat}{oa:Option Addr}{on oc:Nat}(hw:RdW w0 wa ws)(hc:ws.length<=c)(h63:c<=9223372036854775807)(hb:WB ws)(h:RX w0 w wa ws.length c oa on oc nilDA false ⟨[],[],[],[]⟩)(K:Nat)(z:Bool):RG w0 w oa on oc K z (some (ws,nilD)):=
 ⟨wa,c,nilDA,ws,false,nilD,hw,hc,h63,h,hb,DB.nil K z,.inl ⟨rfl,rfl⟩⟩
theorem fA(t:Nat)(ht:t=1∨t=28)(w0:World)(wa:Option Addr)(ws:List Wd)(c:Nat)(oa:Option Addr)(on oc:Nat)(og:List ByteArray)(hE:LayE w0)(hog:Nm w0 oa on og)(hw:RdW w0 wa ws)(hc:ws.length<=c)(h63:c<=9223372036854775807)(hb:WB ws):RdG t w0 wa ws c oa on oc og:=by
 intro w h
 have K1:=Lib.hid (addr_g w0 w 0 oa on oc true _ hE (rg_start hw hc h63 hb h 0 true))
 clear hE hog hw hc h63 hb h
 rcases ht with rfl|rfl
 all_goals
  go_enter Tryz.func136,Tryz.ntmps136
  go_wp2_with fail
  refine K1.out.mono ?_
  rintro e w1 ⟨v1,rfl,H1⟩
  go_wp2_with fail
  go_end0
  exact ⟨_,rfl,_,_,(by omega),H1.out⟩
theorem fNS(t:Nat)(ht:t=2∨t=5∨t=12)(w0:World)(wa:Option Addr)(ws:List Wd)(c:Nat)(oa:Option Addr)(on oc:Nat)(og:List ByteArray)(hE:LayE w0)(hog:Nm w0 oa on og)(hw:RdW w0 wa ws)(hc:ws.length<=c)(h63:c<=9223372036854775807)(hb:WB ws):RdG t w0 wa ws c oa on oc og:=by
 intro w h
 have K1:=Lib.hid (names_g w0 w 1 0 oa on oc og _ (by omega) hog (rg_start hw hc h63 hb h 0 false))
 clear hE hog hw hc h63 hb h
 rcases ht with rfl|rfl|rfl
 all_goals
  go_enter Tryz.func136,Tryz.ntmps136
  go_wp2_with fail
  refine K1.out.mono ?_
  rintro e w1 ⟨v1,rfl,H1⟩
  go_wp2_with fail
  go_end0
  exact ⟨_,rfl,_,_,(by omega),H1.out⟩
theorem fSOA(t:Nat)(ht:t=6)(w0:World)(wa:Option Addr)(ws:List Wd)(c:Nat)(oa:Option Addr)(on oc:Nat)(og:List ByteArray)(hE:LayE w0)(hog:Nm w0 oa on og)(hw:RdW w0 wa ws)(hc:ws.length<=c)(h63:c<=9223372036854775807)(hb:WB ws):RdG t w0 wa ws c oa on oc og:=by
 intro w h
 have K1:=Lib.hid (names_g w0 w 2 0 oa on oc og _ (by omega) hog (rg_start hw hc h63 hb h 0 false))
 have K2:Hid (∀W o,RG w0 W oa on oc (0+2) false o->Calls Tryz.prog 156 #[.pointer (some ⟨w0.heap.size,0,none⟩),.int .i64 5] W fun e w'=>∃v,e=.returned v/\Hid (RG w0 w' oa on oc (0+2+5) false (rep sNum 5 o))):=fun W o hW=>nums_g w0 W 5 (0+2) oa on oc false o (by omega) hE hW
 clear hE hog hw hc h63 hb h
 subst ht
 go_enter Tryz.func136,Tryz.ntmps136
 go_wp2_with fail
 refine K1.out.mono ?_
 rintro e w1 ⟨v1,rfl,H1⟩
 go_wp2_with fail
 refine (K2.out _ _ H1.out).mono ?_
 rintro e w2 ⟨v2,rfl,H2⟩
 go_wp2_with fail
 go_end0
 exact ⟨_,rfl,_,_,(by omega),H2.out⟩
theorem fMX(t:Nat)(ht:t=15)(w0:World)(wa:Option Addr)(ws:List Wd)(c:Nat)(oa:Option Addr)(on oc:Nat)(og:List ByteArray)(hE:LayE w0)(hog:Nm w0 oa on og)(hw:RdW w0 wa ws)(hc:ws.length<=c)(h63:c<=9223372036854775807)(hb:WB ws):RdG t w0 wa ws c oa on oc og:=by
 intro w h
 have K1:=Lib.hid (nums_g w0 w 1 0 oa on oc false _ (by omega) hE (rg_start hw hc h63 hb h 0 false))
 have K2:Hid (∀W o,RG w0 W oa on oc (0+1) false o->Calls Tryz.prog 155 #[.pointer (some ⟨w0.heap.size,0,none⟩),.int .i64 1] W fun e w'=>∃v,e=.returned v/\Hid (RG w0 w' oa on oc (0+1+1) false (rep (sName og) 1 o))):=fun W o hW=>names_g w0 W 1 (0+1) oa on oc og o (by omega) hog hW
 clear hE hog hw hc h63 hb h
 subst ht
 go_enter Tryz.func136,Tryz.ntmps136
 go_wp2_with fail
 refine K1.out.mono ?_
 rintro e w1 ⟨v1,rfl,H1⟩
 go_wp2_with fail
 refine (K2.out _ _ H1.out).mono ?_
 rintro e w2 ⟨v2,rfl,H2⟩
 go_wp2_with fail
 go_end0
 exact ⟨_,rfl,_,_,(by omega),H2.out⟩
theorem fSRV(t:Nat)(ht:t=33)(w0:World)(wa:Option Addr)(ws:List Wd)(c:Nat)(oa:Option Addr)(on oc:Nat)(og:List ByteArray)(hE:LayE w0)(hog:Nm w0 oa on og)(hw:RdW w0 wa ws)(hc:ws.length<=c)(h63:c<=9223372036854775807)(hb:WB ws):RdG t w0 wa ws c oa on oc og:=by
 intro w h
 have K1:=Lib.hid (nums_g w0 w 3 0 oa on oc false _ (by omega) hE (rg_start hw hc h63 hb h 0 false))
 have K2:Hid (∀W o,RG w0 W oa on oc (0+3) false o->Calls Tryz.prog 155 #[.pointer (some ⟨w0.heap.size,0,none⟩),.int .i64 1] W fun e w'=>∃v,e=.returned v/\Hid (RG w0 w' oa on oc (0+3+1) false (rep (sName og) 1 o))):=fun W o hW=>names_g w0 W 1 (0+3) oa on oc og o (by omega) hog hW
 clear hE hog hw hc h63 hb h
 subst ht
 go_enter Tryz.func136,Tryz.ntmps136
 go_wp2_with fail
 refine K1.out.mono ?_
 rintro e w1 ⟨v1,rfl,H1⟩
 go_wp2_with fail
 refine (K2.out _ _ H1.out).mono ?_
 rintro e w2 ⟨v2,rfl,H2⟩
 go_wp2_with fail
 go_end0
 exact ⟨_,rfl,_,_,(by omega),H2.out⟩
theorem fCAA(t:Nat)(ht:t=257)(w0:World)(wa:Option Addr)(ws:List Wd)(c:Nat)(oa:Option Addr)(on oc:Nat)(og:List ByteArray)(hE:LayE w0)(hog:Nm w0 oa on og)(hw:RdW w0 wa ws)(hc:ws.length<=c)(h63:c<=9223372036854775807)(hb:WB ws):RdG t w0 wa ws c oa on oc og:=by
 intro w h
 have K1:=Lib.hid (nums_g w0 w 1 0 oa on oc true _ (by omega) hE (rg_start hw hc h63 hb h 0 true))
 have K2:Hid (∀W o,RG w0 W oa on oc (0+1) true o->Calls Tryz.prog 158 #[.pointer (some ⟨w0.heap.size,0,none⟩)] W fun e w'=>∃v,e=.returned v/\Hid (RG w0 w' oa on oc (0+1+1) true (rep sTag 1 o))):=fun W o hW=>tag_g w0 W (0+1) oa on oc o (by omega) hW
 have K3:Hid (∀W o,RG w0 W oa on oc (0+1+1) true o->Calls Tryz.prog 157 #[.pointer (some ⟨w0.heap.size,0,none⟩),.int .i64 1] W fun e w'=>∃v,e=.returned v/\Hid (RG w0 w' oa on oc (0+1+1+1) true (rep sText 1 o))):=fun W o hW=>texts_g w0 W 1 (0+1+1) oa on oc o (by omega) hE hW
 clear hE hog hw hc h63 hb h
 subst ht
 go_enter Tryz.func136,Tryz.ntmps136
 go_wp2_with fail
 refine K1.out.mono ?_
 rintro e w1 ⟨v1,rfl,H1⟩
 go_wp2_with fail
 refine (K2.out _ _ H1.out).mono ?_
 rintro e w2 ⟨v2,rfl,H2⟩
 go_wp2_with fail
 refine (K3.out _ _ H2.out).mono ?_
 rintro e w3 ⟨v3,rfl,H3⟩
 go_wp2_with fail
 go_end0
 exact ⟨_,rfl,_,_,(by omega),H3.out⟩
theorem fTXT(w0:World)(wa:Option Addr)(ws:List Wd)(c:Nat)(oa:Option Addr)(on oc:Nat)(og:List ByteArray)(hE:LayE w0)(hw:RdW w0 wa ws)(hc:ws.length<=c)(h63:c<=9223372036854775807)(hb:WB ws):RdG 16 w0 wa ws c oa on oc og:=by
 intro w h
 have HF:Hid (fldF 16 og ws=rep sText (max 1 ws.length) (some (ws,nilD))):=rfl
 rw[HF.out]
 have K1:=Lib.hid (texts_g w0 w (max 1 ws.length) 0 oa on oc _ (by have:=hb.1;omega) hE (rg_start hw hc h63 hb h 0 true))
 have d0:=h.blk.cells.1
 have hN:=hb.1
 obtain ⟨M,hM⟩:∃M,max 1 ws.length=M:=⟨_,rfl⟩
 rw[hM] at K1 ⊢
 obtain ⟨L,hL⟩:∃L,ws.length=L:=⟨_,rfl⟩
 rw[hL] at hM hN d0
 have hmax:max (1:Int) (L:Int)=(M:Int):=by omega
 have HM:Hid (M<=900):=by show _<=_;omega
 clear hE hw hc h63 hb h HF hL hM
 go_enter Tryz.func136,Tryz.ntmps136
 go_wp2_with fail
 refine K1.out.mono ?_
 rintro e w1 ⟨v1,rfl,H1⟩
 go_wp2_with fail
 go_end0
 exact ⟨_,rfl,_,_,(by have:=HM.out;omega),H1.out⟩
def knT(t:Nat):Prop:=t=1∨t=28∨t=2∨t=5∨t=12∨t=6∨t=15∨t=33∨t=16∨t=257
theorem fOther(t:Nat)(ht:¬ knT t)(w0:World)(wa:Option Addr)(ws:List Wd)(c:Nat)(oa:Option Addr)(on oc:Nat)(og:List ByteArray)(hw:RdW w0 wa ws)(hc:ws.length<=c)(h63:c<=9223372036854775807)(hb:WB ws):RdG t w0 wa ws c oa on oc og:=by
 intro w h
 unfold knT at ht
 have HF:Hid (fldF t og ws=none):=by
  show _=_
  unfold fldF
  rw[if_neg (by omega),if_neg (by omega),if_neg (by omega),if_neg (by omega),if_neg (by omega),if_neg (by omega),if_neg (by omega)]
 have HR:Hid (∀W,RX w0 W wa ws.length c oa on oc nilDA true ⟨[],[],[],[]⟩->RG w0 W oa on oc 0 true none):=fun W hW=>⟨wa,c,nilDA,ws,true,nilD,hw,hc,h63,hW,hb,DB.nil 0 true,.inr ⟨rfl,rfl⟩⟩
 rw[HF.out]
 have q1:((t:Int) == 1)=false:=by rw[beq_eq_false_iff_ne];omega
 have q28:((t:Int) == 28)=false:=by rw[beq_eq_false_iff_ne];omega
 have q2:((t:Int) == 2)=false:=by rw[beq_eq_false_iff_ne];omega
 have q5:((t:Int) == 5)=false:=by rw[beq_eq_false_iff_ne];omega
 have q12:((t:Int) == 12)=false:=by rw[beq_eq_false_iff_ne];omega
 have q6:((t:Int) == 6)=false:=by rw[beq_eq_false_iff_ne];omega
 have q15:((t:Int) == 15)=false:=by rw[beq_eq_false_iff_ne];omega
 have q33:((t:Int) == 33)=false:=by rw[beq_eq_false_iff_ne];omega
 have q16:((t:Int) == 16)=false:=by rw[beq_eq_false_iff_ne];omega
 have q257:((t:Int) == 257)=false:=by rw[beq_eq_false_iff_ne];omega
 have HX:=Lib.hid (h.bad true)
 have f6:=h.blk.fz 6
 have d6:=h.blk.cells.2.2.2.2.2.2
 clear h hw hc h63 hb ht HF
 go_enter Tryz.func136,Tryz.ntmps136
 go_wp2_with fail
 go_end0
 exact ⟨_,rfl,0,true,(by omega),HR.out _ HX.out⟩
theorem fields_g(t:Nat)(w0:World)(wa:Option Addr)(ws:List Wd)(c:Nat)(oa:Option Addr)(on oc:Nat)(og:List ByteArray)(hE:LayE w0)(hog:Nm w0 oa on og)(hw:RdW w0 wa ws)(hc:ws.length<=c)(h63:c<=9223372036854775807)(hb:WB ws):RdG t w0 wa ws c oa on oc og:=by
 by_cases h:knT t
 ·rcases h with h|h|h|h|h|h|h|h|h|h
  ·exact fA t (.inl h) w0 wa ws c oa on oc og hE hog hw hc h63 hb
  ·exact fA t (.inr h) w0 wa ws c oa on oc og hE hog hw hc h63 hb
  ·exact fNS t (.inl h) w0 wa ws c oa on oc og hE hog hw hc h63 hb
  ·exact fNS t (.inr (.inl h)) w0 wa ws c oa on oc og hE hog hw hc h63 hb
  ·exact fNS t (.inr (.inr h)) w0 wa ws c oa on oc og hE hog hw hc h63 hb
  ·exact fSOA t h w0 wa ws c oa on oc og hE hog hw hc h63 hb
  ·exact fMX t h w0 wa ws c oa on oc og hE hog hw hc h63 hb
  ·exact fSRV t h w0 wa ws c oa on oc og hE hog hw hc h63 hb
  ·subst h;exact fTXT w0 wa ws c oa on oc og hE hw hc h63 hb
  ·exact fCAA t h w0 wa ws c oa on oc og hE hog hw hc h63 hb
 ·exact fOther t h w0 wa ws c oa on oc og hw hc h63 hb
theorem wrd_y{t:Nat}{og:List ByteArray}{ws wsb:List Wd}{B:Nat}{W:World}{x:DA}{d:Dat}(hw:wrdF t og ws=(fldF t og ws).bind fun p=>if p.1=[] then some p.2 else none)(h:RGo false wsb d (fldF t og ws))(hl:wsb.length=0)(ho:DOwn B W x d):∃d,wrdF t og ws=some d/\DOwn B W x d:=by
 rcases h with ⟨_,h⟩|⟨h,_⟩
 ·have:wsb=[]:=List.length_eq_zero_iff.1 hl
  subst this
  exact ⟨d,by rw[hw,h];rfl,ho⟩
 ·cases h
theorem wrd_n1{t:Nat}{og:List ByteArray}{ws wsb:List Wd}{d:Dat}(hw:wrdF t og ws=(fldF t og ws).bind fun p=>if p.1=[] then some p.2 else none)(h:RGo false wsb d (fldF t og ws))(hl:¬ wsb.length=0):wrdF t og ws=none:=by
 rcases h with ⟨_,h⟩|⟨h,_⟩
 ·rw[hw,h]
  simp only[Option.bind_some]
  rw[if_neg (fun e=>hl (by rw[e];rfl))]
 ·cases h
theorem wrd_n2{t:Nat}{og:List ByteArray}{ws wsb:List Wd}{d:Dat}(hw:wrdF t og ws=(fldF t og ws).bind fun p=>if p.1=[] then some p.2 else none)(h:RGo true wsb d (fldF t og ws)):wrdF t og ws=none:=by
 rcases h with ⟨h,_⟩|⟨_,h⟩
 ·cases h
 ·rw[hw,h];rfl
theorem read_g1(t:Nat)(a:Option Addr)(ws:List Wd)(c:Nat)(oa:Option Addr)(on oc:Nat)(og:List ByteArray)(w:World)(hne:ws.head?≠some hash6)(hw:RdW w a ws)(h:∀w0,Below w.heap.size w w0->RdG t w0 a ws c oa on oc og) :
  Calls Tryz.prog 111 #[.int .u16 (t:Int),.slice a ws.length c,.slice oa on oc] w (HsP (wrdF t og ws) w):=by
 have HZ:Hid (Below w.heap.size w (w.alloc (.cells #[.slice none 0 0,.slice none 0 0,.slice none 0 0,.slice none 0 0] 48))/\DBlk (w.alloc (.cells #[.slice none 0 0,.slice none 0 0,.slice none 0 0,.slice none 0 0] 48)) w.heap.size nilDA):=⟨new_below _ _,heap_alloc_new _ _⟩
 have hsz0:(w.alloc (.cells #[.slice none 0 0,.slice none 0 0,.slice none 0 0,.slice none 0 0] 48)).heap.size=w.heap.size+1:=by simp
 have K:=Lib.hid (h _ HZ.out.1 _ (start_rx (w.alloc (.cells #[.slice none 0 0,.slice none 0 0,.slice none 0 0,.slice none 0 0] 48)) a ws.length c oa on oc))
 rw[hsz0] at K
 have HW:Hid (wrdF t og ws=(fldF t og ws).bind fun p=>if p.1=[] then some p.2 else none):=by show _=_;unfold wrdF;rw[if_neg hne]
 clear h
 have hcase:ws=[]∨∃s q r b o,ws=(s,q)::r/\a=some ⟨b,o,none⟩/\b<w.heap.size/\w.cell? ⟨b,o,none⟩=some (.string s)/\w.cell? ⟨b,o+1,none⟩=some (.bool q)/\((s.toList=[92,35]/\q=true)∨(s.toList == [92,35])=false):=by
  cases ws with
  |nil=>exact .inl rfl
  |cons y r=>
   obtain ⟨s,q⟩:=y
   obtain ⟨b,o,e,hb,c1,c2,hrr⟩:=hw.head
   refine .inr ⟨s,q,r,b,o,rfl,e,hb,c1,c2,?_⟩
   by_cases hq:s.toList=[92,35]
   ·refine .inl ⟨hq,?_⟩
    cases q with
    |true=>rfl
    |false=>
     exfalso
     apply hne
     have:s=⟨#[92,35]⟩:=by
      have h2:s.data.toList=[92,35]:=by rw[<- Lib.toList_data];exact hq
      cases s with|mk da=>simp at h2;rw[show da=#[92,35] from by rw[<- Array.toArray_toList (xs:=da),h2]]
     rw[this];rfl
   ·right;simpa using hq
 clear hne hw
 obtain ⟨ws9,hws9⟩:∃ws9,ws9=ws:=⟨_,rfl⟩
 rw[<- hws9] at K HW ⊢
 generalize hlen:ws9.length=len at K ⊢
 rcases hcase with rfl|⟨s,q,r,b,o,rfl,rfl,hbs,c1,c2,hs|hs⟩
 focus
  have hl:len=0:=by rw[<- hlen,hws9];rfl
  subst hl
  clear hlen hws9
 rotate_left
 focus
  obtain ⟨hs,rfl⟩:=hs
  have hl0:(0:Int)<(len:Int):=by have:len=r.length+1:=(by rw[<- hlen,hws9];rfl);omega
  clear hlen hws9
 rotate_left
 focus
  have hl0:(0:Int)<(len:Int):=by have:len=r.length+1:=(by rw[<- hlen,hws9];rfl);omega
  clear hlen hws9
 all_goals
  go_enter Tryz.func111,Tryz.ntmps111
  go_wp2_with fail
  refine K.out.mono ?_
  rintro e w1 ⟨v,rfl,H2⟩
  obtain ⟨K7,z7,hk9,wa,c',x,wsb,bd,d,h1,h2,h3,h4,h5,h6,h7⟩:=H2.out
  obtain ⟨⟨d0,d2,d3,d4,d5,d6⟩,k1,k2,k3⟩:=rx_facts h4
  have HK:Hid (DBlk w1 w.heap.size nilDA/\Below w.heap.size w w1/\DOwn (w.heap.size+2) w1 x d):=⟨k1,k2,k3⟩
  have HO:Hid (RGo bd wsb d (fldF t og ws9)):=h7
  have er0:=k1.box.1
  have er1:=k1.box.2.1
  have er2:=k1.box.2.2.1
  have er3:=k1.box.2.2.2.1
  have ez0:=k1.fz 0
  have ez1:=k1.fz 1
  have ez2:=k1.fz 2
  have ez3:=k1.fz 3
  simp only at er0 er1 er2 er3
  have hne1:¬ w.heap.size=w.heap.size+1:=by omega
  clear k1 k2 k3 h1 h2 h3 h4 h5 h6 h7 H2 K HZ hsz0 hk9
  rcases bd with _|_
  ·obtain ⟨L,hL⟩:∃L,wsb.length=L:=⟨_,rfl⟩
   have HL:Hid (wsb.length=L):=hL
   rw[hL] at d0
   clear hL
   by_cases hL0:L=0
   ·subst hL0
    go_wp2_with fail
    go_region_held3 (fun W=>W.cell? ⟨w.heap.size+1,0,none⟩=some (.slice wa 0 c')/\W.cell? ⟨w.heap.size+1,2,none⟩=some (.slice x.p1.a x.p1.n x.p1.c)/\W.cell? ⟨w.heap.size+1,3,none⟩=some (.slice x.p2.a x.p2.n x.p2.c)/\W.cell? ⟨w.heap.size+1,4,none⟩=some (.slice x.p3.a x.p3.n x.p3.c)/\W.cell? ⟨w.heap.size+1,5,none⟩=some (.slice x.p4.a x.p4.n x.p4.c)/\W.cell? ⟨w.heap.size+1,6,none⟩=some (.bool false)) (exact ⟨by go_keep,by go_keep,by go_keep,by go_keep,by go_keep,by go_keep⟩) (fail)
    all_goals
     go_wp2_with fail
     have HX:Hid (DBlk (((((w1.setCell ⟨w.heap.size,0,none⟩ (.slice x.p1.a x.p1.n x.p1.c)).setCell ⟨w.heap.size,1,none⟩ (.slice x.p2.a x.p2.n x.p2.c)).setCell ⟨w.heap.size,2,none⟩ (.slice x.p3.a x.p3.n x.p3.c)).setCell ⟨w.heap.size,3,none⟩ (.slice x.p4.a x.p4.n x.p4.c)).drew) w.heap.size x/\DOwn w.heap.size (((((w1.setCell ⟨w.heap.size,0,none⟩ (.slice x.p1.a x.p1.n x.p1.c)).setCell ⟨w.heap.size,1,none⟩ (.slice x.p2.a x.p2.n x.p2.c)).setCell ⟨w.heap.size,2,none⟩ (.slice x.p3.a x.p3.n x.p3.c)).setCell ⟨w.heap.size,3,none⟩ (.slice x.p4.a x.p4.n x.p4.c)).drew) x d/\Below w.heap.size w (((((w1.setCell ⟨w.heap.size,0,none⟩ (.slice x.p1.a x.p1.n x.p1.c)).setCell ⟨w.heap.size,1,none⟩ (.slice x.p2.a x.p2.n x.p2.c)).setCell ⟨w.heap.size,2,none⟩ (.slice x.p3.a x.p3.n x.p3.c)).setCell ⟨w.heap.size,3,none⟩ (.slice x.p4.a x.p4.n x.p4.c)).drew)):=⟨HK.out.1.four x,(HK.out.2.2.ret4 (by omega) (by omega)).stays (Below.refl _ _).drew,(ret4 HK.out.1 HK.out.2.1 (Nat.le_refl _) x).2.drew⟩
     generalize (((((w1.setCell ⟨w.heap.size,0,none⟩ (.slice x.p1.a x.p1.n x.p1.c)).setCell ⟨w.heap.size,1,none⟩ (.slice x.p2.a x.p2.n x.p2.c)).setCell ⟨w.heap.size,2,none⟩ (.slice x.p3.a x.p3.n x.p3.c)).setCell ⟨w.heap.size,3,none⟩ (.slice x.p4.a x.p4.n x.p4.c)).drew)=W9 at*
     have z0:=HX.out.1.box.1
     have z1:=HX.out.1.box.2.1
     have z2:=HX.out.1.box.2.2.1
     have z3:=HX.out.1.box.2.2.2.1
     exact bodyPost_ret (v:=.tuple #[.agg #[.slice x.p1.a x.p1.n x.p1.c,.slice x.p2.a x.p2.n x.p2.c,.slice x.p3.a x.p3.n x.p3.c,.slice x.p4.a x.p4.n x.p4.c],.bool true]) (by simp[results,Tryz.results111,go_sem,z0,z1,z2,z3]) rfl ⟨x,true,rfl,⟨HX.out.2.2,fun _=>wrd_y HW.out HO.out HL.out HX.out.2.1,fun h=>by (cases h)⟩⟩
   ·have hL1:((L:Int) == 0)=false:=by rw[beq_eq_false_iff_ne];omega
    go_wp2_with fail
    go_region_held3 (fun W=>W.cell? ⟨w.heap.size+1,0,none⟩=some (.slice wa L c')/\W.cell? ⟨w.heap.size+1,2,none⟩=some (.slice x.p1.a x.p1.n x.p1.c)/\W.cell? ⟨w.heap.size+1,3,none⟩=some (.slice x.p2.a x.p2.n x.p2.c)/\W.cell? ⟨w.heap.size+1,4,none⟩=some (.slice x.p3.a x.p3.n x.p3.c)/\W.cell? ⟨w.heap.size+1,5,none⟩=some (.slice x.p4.a x.p4.n x.p4.c)/\W.cell? ⟨w.heap.size+1,6,none⟩=some (.bool false)) (exact ⟨by go_keep,by go_keep,by go_keep,by go_keep,by go_keep,by go_keep⟩) (fail)
    all_goals
     go_wp2_with fail
     have HX:Hid (DBlk (((((w1.setCell ⟨w.heap.size,0,none⟩ (.slice x.p1.a x.p1.n x.p1.c)).setCell ⟨w.heap.size,1,none⟩ (.slice x.p2.a x.p2.n x.p2.c)).setCell ⟨w.heap.size,2,none⟩ (.slice x.p3.a x.p3.n x.p3.c)).setCell ⟨w.heap.size,3,none⟩ (.slice x.p4.a x.p4.n x.p4.c)).drew) w.heap.size x/\DOwn w.heap.size (((((w1.setCell ⟨w.heap.size,0,none⟩ (.slice x.p1.a x.p1.n x.p1.c)).setCell ⟨w.heap.size,1,none⟩ (.slice x.p2.a x.p2.n x.p2.c)).setCell ⟨w.heap.size,2,none⟩ (.slice x.p3.a x.p3.n x.p3.c)).setCell ⟨w.heap.size,3,none⟩ (.slice x.p4.a x.p4.n x.p4.c)).drew) x d/\Below w.heap.size w (((((w1.setCell ⟨w.heap.size,0,none⟩ (.slice x.p1.a x.p1.n x.p1.c)).setCell ⟨w.heap.size,1,none⟩ (.slice x.p2.a x.p2.n x.p2.c)).setCell ⟨w.heap.size,2,none⟩ (.slice x.p3.a x.p3.n x.p3.c)).setCell ⟨w.heap.size,3,none⟩ (.slice x.p4.a x.p4.n x.p4.c)).drew)):=⟨HK.out.1.four x,(HK.out.2.2.ret4 (by omega) (by omega)).stays (Below.refl _ _).drew,(ret4 HK.out.1 HK.out.2.1 (Nat.le_refl _) x).2.drew⟩
     generalize (((((w1.setCell ⟨w.heap.size,0,none⟩ (.slice x.p1.a x.p1.n x.p1.c)).setCell ⟨w.heap.size,1,none⟩ (.slice x.p2.a x.p2.n x.p2.c)).setCell ⟨w.heap.size,2,none⟩ (.slice x.p3.a x.p3.n x.p3.c)).setCell ⟨w.heap.size,3,none⟩ (.slice x.p4.a x.p4.n x.p4.c)).drew)=W9 at*
     have z0:=HX.out.1.box.1
     have z1:=HX.out.1.box.2.1
     have z2:=HX.out.1.box.2.2.1
     have z3:=HX.out.1.box.2.2.2.1
     exact bodyPost_ret (v:=.tuple #[.agg #[.slice x.p1.a x.p1.n x.p1.c,.slice x.p2.a x.p2.n x.p2.c,.slice x.p3.a x.p3.n x.p3.c,.slice x.p4.a x.p4.n x.p4.c],.bool false]) (by simp[results,Tryz.results111,go_sem,z0,z1,z2,z3]) rfl ⟨x,false,rfl,⟨HX.out.2.2,fun h=>by (cases h),fun _=>wrd_n1 HW.out HO.out (by rw[HL.out];exact hL0)⟩⟩
  ·go_wp2_with fail
   first|(go_region_law (fail))|fail
   all_goals
    go_wp2_with fail
    have HX:Hid (DBlk (((((w1.setCell ⟨w.heap.size,0,none⟩ (.slice x.p1.a x.p1.n x.p1.c)).setCell ⟨w.heap.size,1,none⟩ (.slice x.p2.a x.p2.n x.p2.c)).setCell ⟨w.heap.size,2,none⟩ (.slice x.p3.a x.p3.n x.p3.c)).setCell ⟨w.heap.size,3,none⟩ (.slice x.p4.a x.p4.n x.p4.c)).drew) w.heap.size x/\DOwn w.heap.size (((((w1.setCell ⟨w.heap.size,0,none⟩ (.slice x.p1.a x.p1.n x.p1.c)).setCell ⟨w.heap.size,1,none⟩ (.slice x.p2.a x.p2.n x.p2.c)).setCell ⟨w.heap.size,2,none⟩ (.slice x.p3.a x.p3.n x.p3.c)).setCell ⟨w.heap.size,3,none⟩ (.slice x.p4.a x.p4.n x.p4.c)).drew) x d/\Below w.heap.size w (((((w1.setCell ⟨w.heap.size,0,none⟩ (.slice x.p1.a x.p1.n x.p1.c)).setCell ⟨w.heap.size,1,none⟩ (.slice x.p2.a x.p2.n x.p2.c)).setCell ⟨w.heap.size,2,none⟩ (.slice x.p3.a x.p3.n x.p3.c)).setCell ⟨w.heap.size,3,none⟩ (.slice x.p4.a x.p4.n x.p4.c)).drew)):=⟨HK.out.1.four x,(HK.out.2.2.ret4 (by omega) (by omega)).stays (Below.refl _ _).drew,(ret4 HK.out.1 HK.out.2.1 (Nat.le_refl _) x).2.drew⟩
    generalize (((((w1.setCell ⟨w.heap.size,0,none⟩ (.slice x.p1.a x.p1.n x.p1.c)).setCell ⟨w.heap.size,1,none⟩ (.slice x.p2.a x.p2.n x.p2.c)).setCell ⟨w.heap.size,2,none⟩ (.slice x.p3.a x.p3.n x.p3.c)).setCell ⟨w.heap.size,3,none⟩ (.slice x.p4.a x.p4.n x.p4.c)).drew)=W9 at*
    have z0:=HX.out.1.box.1
    have z1:=HX.out.1.box.2.1
    have z2:=HX.out.1.box.2.2.1
    have z3:=HX.out.1.box.2.2.2.1
    exact bodyPost_ret (v:=.tuple #[.agg #[.slice x.p1.a x.p1.n x.p1.c,.slice x.p2.a x.p2.n x.p2.c,.slice x.p3.a x.p3.n x.p3.c,.slice x.p4.a x.p4.n x.p4.c],.bool false]) (by simp[results,Tryz.results111,go_sem,z0,z1,z2,z3]) rfl ⟨x,false,rfl,⟨HX.out.2.2,fun h=>by (cases h),fun _=>wrd_n2 HW.out HO.out⟩⟩
theorem getd_bd(s:ByteArray)(k:Nat):0<=(nums s).getD k 0/\(nums s).getD k 0<=255:=by
 rw[List.getD_eq_getElem?_getD]
 cases h:(nums s)[k]? with
 |none=>simp
 |some z=>exact nums_all s z (List.mem_of_getElem? h)
theorem raw_bd6{t:Nat}{ws:List Wd}{d:Dat}(h:hshF t ws=some d):Bd d:=by
 cases ws with
 |nil=>cases h
 |cons p ps=>
  simp only[hshF] at h
  rw[Option.bind_eq_some_iff] at h
  obtain ⟨m,hm,h⟩:=h
  split at h
  ·rename_i hc
   split at h
   ·rename_i h2
    injection h with h
    subst h
    obtain ⟨h3,h4,h5⟩:=readF_ok h2
    have hpl:(prs (nums ⟨(catL ps).toArray⟩) m).length<=65535:=h5
    have hmay:mayT t=true:=by
     cases hmt:mayT t with
     |true=>rfl
     |false=>unfold checkF at h3;rw[hmt] at h3;simp at h3
    have hb:∀z∈prs (nums ⟨(catL ps).toArray⟩) m,0<=z/\z<=255:=by
     intro z hz
     unfold prs at hz
     rw[List.mem_map] at hz
     obtain ⟨k,hk,rfl⟩:=hz
     have hok:=List.all_eq_true.1 hc.2.2 k hk
     simp only[decide_eq_true_eq] at hok
     have hb1:=wv_bd ((nums ⟨(catL ps).toArray⟩).getD (2*k) 0) (getd_bd _ _)
     have hb2:=wv_bd ((nums ⟨(catL ps).toArray⟩).getD (2*k+1) 0) (getd_bd _ _)
     unfold okp at hok
     unfold pv
     omega
    rw[readF_at t _ hb hmay hpl] at h2 ⊢
    split at h2
    ·rename_i h6
     split at h2
     ·rename_i h7
      rw[if_pos h6,if_pos h7]
      exact pread_bd t _ hpl
     ·cases h2
    ·cases h2
   ·cases h
  ·cases h
theorem db_bd{K:Nat}{z:Bool}{d:Dat}(hK:K<=900)(h:DB K z d):Bd d:=by
 refine ⟨by have:=h.n;omega,h.nl,by have:=h.u;omega,?_,by have:=h.r;omega⟩
 unfold tsum
 have h1:=sum_le (d.ts.map tz) 1000001 (fun x hx=>by
  rw[List.mem_map] at hx
  obtain ⟨s,hs,rfl⟩:=hx
  have:=h.tl s hs
  unfold tz;omega)
 rw[List.length_map] at h1
 have:=h.t
 have h2:d.ts.length*1000001<=900*1000001:=Nat.mul_le_mul_right _ (by omega)
 omega
structure PB(K:Nat)(p:Pst):Prop where
 d:DB K false p.2
 w:WB p.1
theorem WB.sub{ws ws':List Wd}{s:ByteArray}(h:WB ws)(h2:tkN ws=some (s,ws')):WB ws'/\s.size<=1000000:=by
 cases ws with
 |nil=>cases h2
 |cons p r=>
  obtain ⟨a,q⟩:=p
  simp only[tkN,Option.some.injEq,Prod.mk.injEq] at h2
  obtain ⟨rfl,rfl⟩:=h2
  exact ⟨h.tail,h.2 (a,q) (by simp)⟩
theorem tkB_N{ws ws':List Wd}{s:ByteArray}(h2:tkB ws=some (s,ws')):tkN ws=some (s,ws'):=by
 cases ws with
 |nil=>cases h2
 |cons p r=>
  obtain ⟨a,q⟩:=p
  cases q with
  |true=>cases h2
  |false=>exact h2
theorem stp_pb{α:Type}{tk:List Wd->Option (ByteArray × List Wd)}{g:ByteArray->Option α}{put:Dat->α->Dat}{K K':Nat}{p p':Pst}(htk:∀ws s ws',tk ws=some (s,ws')->tkN ws=some (s,ws'))(hput:∀d s v,DB K false d->s.size<=1000000->g s=some v->DB K' false (put d v))(h:PB K p)(h2:stp tk g put p=some p'):PB K' p':=by
 unfold stp at h2
 rw[Option.bind_eq_some_iff] at h2
 obtain ⟨q,hq,h2⟩:=h2
 rw[Option.map_eq_some_iff] at h2
 obtain ⟨v,hv,rfl⟩:=h2
 obtain ⟨s,ws'⟩:=q
 obtain ⟨h3,h4⟩:=h.w.sub (htk _ _ _ hq)
 exact ⟨hput _ s v h.d h4 hv,h3⟩
theorem rep_pb{f:Pst->Option Pst}(hf:∀K p p',PB K p->f p=some p'->PB (K+1) p'):∀(k K:Nat) (o:Option Pst),(∀p,o=some p->PB K p)->∀p,rep f k o=some p->PB (K+k) p
 |0,K,o,h,p,hp=>h p hp
 |k+1,K,o,h,p,hp=>by
  rw[rep_succ,Option.bind_eq_some_iff] at hp
  obtain ⟨p1,h1,h2⟩:=hp
  exact hf _ _ _ (rep_pb hf k K o h p1 h1) h2
theorem name_pb(og:List ByteArray):∀K p p',PB K p->sName og p=some p'->PB (K+1) p':=fun K p p' h h2=>stp_pb (fun _ _ _=>tkB_N) (fun d s v hd hs hv=>by
 unfold gName6 at hv
 split at hv
 ·injection hv with hv;subst hv;exact hd.name (nrel_len6 s og)
 ·cases hv) h h2
theorem num_pb:∀K p p',PB K p->sNum p=some p'->PB (K+1) p':=fun K p p' h h2=>stp_pb (fun _ _ _=>tkB_N) (fun d s v hd hs hv=>hd.num v) h h2
theorem gStr6_len{s v:ByteArray}(hs:s.size<=1000000)(hv:gStr6 s=some v):v.size<=1000000:=by
 have h1:=xstrR_size s
 unfold gStr6 at hv
 unfold xstrR at h1
 cases hx:xstr (nums s) with
 |none=>rw[hx] at hv;cases hv
 |some o=>rw[hx] at hv h1;simp at hv;subst hv;simp at h1;omega
theorem text_pb:∀K p p',PB K p->sText p=some p'->PB (K+1) p':=fun K p p' h h2=>stp_pb (fun _ _ _ h=>h) (fun d s v hd hs hv=>hd.text (gStr6_len hs hv)) h h2
theorem tag_pb:∀K p p',PB K p->sTag p=some p'->PB (K+1) p':=fun K p p' h h2=>stp_pb (fun _ _ _ h=>h) (fun d s v hd hs hv=>by injection hv with hv;subst hv;exact hd.text hs) h h2
theorem DB.up{K:Nat}{z:Bool}{d:Dat}(h:DB K z d):DB (K+1) z d:=⟨Nat.le_succ_of_le h.n,Nat.le_succ_of_le h.u,Nat.le_succ_of_le h.t,h.z,h.nl,h.tl,h.r⟩
theorem addr_pb:∀K p p',PB K p->sAddr p=some p'->PB (K+1) p':=fun K p p' h h2=>stp_pb (fun _ _ _=>tkB_N) (fun d s v hd hs hv=>(hd.addr (xpaddr_len hv)).up) h h2
theorem fld_pb{t:Nat}{og:List ByteArray}{ws:List Wd}{p:Pst}(hb:WB ws)(h:fldF t og ws=some p):∃K,K<=900/\PB K p:=by
 have h0:∀p,some (ws,nilD)=some p->PB 0 p:=fun p hp=>by injection hp with hp;subst hp;exact ⟨DB.nil 0 false,hb⟩
 unfold fldF at h
 split at h
 ·exact ⟨_,by omega,rep_pb addr_pb 1 0 _ h0 p h⟩
 split at h
 ·exact ⟨_,by omega,rep_pb (name_pb og) 1 0 _ h0 p h⟩
 split at h
 ·exact ⟨_,by omega,rep_pb num_pb 5 _ _ (rep_pb (name_pb og) 2 0 _ h0) p h⟩
 split at h
 ·exact ⟨_,by omega,rep_pb (name_pb og) 1 _ _ (rep_pb num_pb 1 0 _ h0) p h⟩
 split at h
 ·exact ⟨_,by omega,rep_pb (name_pb og) 1 _ _ (rep_pb num_pb 3 0 _ h0) p h⟩
 split at h
 ·exact ⟨_,by have:=hb.1;omega,rep_pb text_pb (max 1 ws.length) 0 _ h0 p h⟩
 split at h
 ·exact ⟨_,by omega,rep_pb text_pb 1 _ _ (rep_pb tag_pb 1 _ _ (rep_pb num_pb 1 0 _ h0)) p h⟩
 ·cases h
theorem wrd_bd{t:Nat}{og:List ByteArray}{ws:List Wd}{d:Dat}(hb:WB ws)(h:wrdF t og ws=some d):Bd d:=by
 unfold wrdF at h
 split at h
 ·exact raw_bd6 h
 ·rw[Option.bind_eq_some_iff] at h
  obtain ⟨p,hp,h⟩:=h
  split at h
  ·injection h with h;subst h
   obtain ⟨K,hK,hpb⟩:=fld_pb hb hp
   exact db_bd hK hpb.d
  ·cases h
theorem cat_bd{ps:List Wd}(h:WB ps):(catL ps).length<=1000000000:=by
 have h1:∀ps:List Wd,(∀p∈ps,p.1.size<=1000000)->(catL ps).length<=ps.length*1000000:=by
  intro ps
  induction ps with
  |nil=>intro _;simp[catL]
  |cons p r ih=>
   intro h
   have a:=ih (fun q hq=>h q (by simp[hq]))
   have b:=h p (by simp)
   have c:p.1.data.toList.length=p.1.size:=rfl
   have e:catL (p::r)=p.1.data.toList++catL r:=by simp[catL]
   rw[e,List.length_append,List.length_cons,Nat.succ_mul];omega
 have:=h1 ps h.2
 have h2:ps.length*1000000<=500*1000000:=Nat.mul_le_mul_right _ h.1
 omega
theorem hash_nil (t : Nat) (a : Option Addr) (c : Nat) (w : World) : Calls Tryz.prog 135 #[.int .u16 (t : Int), .slice a 0 c] w (HsP none w) := by
  have HRB : Hid (DBlk (w.alloc (.cells #[.slice none 0 0, .slice none 0 0, .slice none 0 0, .slice none 0 0] 48)) w.heap.size nilDA) := heap_alloc_new _ _
  have HBW6 : Hid (Below w.heap.size w (w.alloc (.cells #[.slice none 0 0, .slice none 0 0, .slice none 0 0, .slice none 0 0] 48))) := new_below _ _
  have er0 := HRB.out.box.1
  have er1 := HRB.out.box.2.1
  have er2 := HRB.out.box.2.2.1
  have er3 := HRB.out.box.2.2.2.1
  have ez0 := HRB.out.fz 0
  have ez1 := HRB.out.fz 1
  have ez2 := HRB.out.fz 2
  have ez3 := HRB.out.fz 3
  simp only at er0 er1 er2 er3
  go_enter Tryz.func135, Tryz.ntmps135
  go_wp2_with fail
  first
  | exact bodyPost_ret (v := .tuple #[.agg #[.slice none 0 0, .slice none 0 0, .slice none 0 0, .slice none 0 0], .bool false]) (by simp [results, Tryz.results135, go_sem, er0, er1, er2, er3]) rfl ⟨nilDA, false, rfl, ⟨HBW6.out, fun h => by (cases h), fun _ => rfl⟩⟩
  | (have HX : Hid (DBlk ((((((w.alloc (.cells #[.slice none 0 0, .slice none 0 0, .slice none 0 0, .slice none 0 0] 48)).setCell ⟨w.heap.size, 0, none⟩ (.slice none 0 0)).setCell ⟨w.heap.size, 1, none⟩ (.slice none 0 0)).setCell ⟨w.heap.size, 2, none⟩ (.slice none 0 0)).setCell ⟨w.heap.size, 3, none⟩ (.slice none 0 0))) w.heap.size nilDA /\ Below w.heap.size w ((((((w.alloc (.cells #[.slice none 0 0, .slice none 0 0, .slice none 0 0, .slice none 0 0] 48)).setCell ⟨w.heap.size, 0, none⟩ (.slice none 0 0)).setCell ⟨w.heap.size, 1, none⟩ (.slice none 0 0)).setCell ⟨w.heap.size, 2, none⟩ (.slice none 0 0)).setCell ⟨w.heap.size, 3, none⟩ (.slice none 0 0)))) := ret4 HRB.out HBW6.out (Nat.le_refl _) nilDA
     generalize ((((((w.alloc (.cells #[.slice none 0 0, .slice none 0 0, .slice none 0 0, .slice none 0 0] 48)).setCell ⟨w.heap.size, 0, none⟩ (.slice none 0 0)).setCell ⟨w.heap.size, 1, none⟩ (.slice none 0 0)).setCell ⟨w.heap.size, 2, none⟩ (.slice none 0 0)).setCell ⟨w.heap.size, 3, none⟩ (.slice none 0 0))) = W9 at *
     have z0 := HX.out.1.box.1
     have z1 := HX.out.1.box.2.1
     have z2 := HX.out.1.box.2.2.1
     have z3 := HX.out.1.box.2.2.2.1
     exact bodyPost_ret (v := .tuple #[.agg #[.slice none 0 0, .slice none 0 0, .slice none 0 0, .slice none 0 0], .bool false]) (by simp [results, Tryz.results135, go_sem, z0, z1, z2, z3]) rfl ⟨nilDA, false, rfl, ⟨HX.out.2, fun h => by (cases h), fun _ => rfl⟩⟩)
theorem readH_g(t:Nat)(b o:Nat)(r:List Wd)(c:Nat)(oa:Option Addr)(on oc:Nat)(w:World)(hw:RdW w (some ⟨b,o,none⟩) (hash6::r))(hc:r.length+1<=c)(h63:c<=9223372036854775807)(hb5:WB r)(hE:LayE w) :
  Calls Tryz.prog 111 #[.int .u16 (t:Int),.slice (some ⟨b,o,none⟩) (r.length+1) c,.slice oa on oc] w (HsP (hshF t r) w):=by
 obtain ⟨b',o',e',hb,c1,c2,hrr⟩:=hw.head
 injection e' with e'
 injection e' with e1 e2
 subst e1;subst e2
 have HZ:Hid (Below w.heap.size w (nilB w)/\DBlk (nilB w) w.heap.size nilDA):=⟨new_below _ _,heap_alloc_new _ _⟩
 have hs0:(nilB w).heap.size=w.heap.size+1:=by simp[nilB]
 cases r with
 |nil=>
  have KA:Hid (∀a c,Calls Tryz.prog 135 #[.int .u16 (t:Int),.slice a 0 c] (nilB w) (HsP (hshF t []) (nilB w))):=fun a c=>hash_nil t a c (nilB w)
  obtain ⟨OO,hOO⟩:∃OO,hshF t []=OO:=⟨_,rfl⟩
  rw[hOO] at KA ⊢
  clear hw hrr hb5 hE hOO
  simp only[List.length_nil,Nat.zero_add] at hc ⊢
  by_cases hc1:c=1
  ·subst hc1
   go_enter Tryz.func111,Tryz.ntmps111
   go_wp2_with fail
   have K:=Lib.hid (KA.out (some ⟨b,o,none⟩) 0)
   have K':=Lib.hid (KA.out (some ⟨b,o+2,none⟩) 0)
   have K'':=Lib.hid (KA.out none 0)
   first|refine K.out.mono ?_|refine K'.out.mono ?_|refine K''.out.mono ?_
   rintro e w6 ⟨x,q,rfl,H6⟩
   have HB6:Hid (Below (w.heap.size+1) (nilB w) w6):=by rw[<- hs0];exact H6.out.1
   have hs6:w.heap.size+1<=w6.heap.size:=by have:=HB6.out.size;rw[hs0] at this;exact this
   have HRB:Hid (DBlk w6 w.heap.size nilDA):=(HB6.out.block _ (by omega)).trans HZ.out.2
   have HBW6:Hid (Below w.heap.size w w6):=HZ.out.1.trans (HB6.out.mono (by omega))
   have HO:Hid (q=true->∃d,OO=some d/\DOwn (w.heap.size+1) w6 x d):=by rw[<- hs0];exact H6.out.2.1
   have HO2:Hid (q=false->OO=none):=H6.out.2.2
   have er0:=HRB.out.box.1
   have er1:=HRB.out.box.2.1
   have er2:=HRB.out.box.2.2.1
   have er3:=HRB.out.box.2.2.2.1
   have ez0:=HRB.out.fz 0
   have ez1:=HRB.out.fz 1
   have ez2:=HRB.out.fz 2
   have ez3:=HRB.out.fz 3
   simp only at er0 er1 er2 er3
   clear K K' K'' KA H6 HB6
   go_wp2_with fail
   have HX:Hid (DBlk (((((w6.setCell ⟨w.heap.size,0,none⟩ (.slice x.p1.a x.p1.n x.p1.c)).setCell ⟨w.heap.size,1,none⟩ (.slice x.p2.a x.p2.n x.p2.c)).setCell ⟨w.heap.size,2,none⟩ (.slice x.p3.a x.p3.n x.p3.c)).setCell ⟨w.heap.size,3,none⟩ (.slice x.p4.a x.p4.n x.p4.c))) w.heap.size x/\Below w.heap.size w (((((w6.setCell ⟨w.heap.size,0,none⟩ (.slice x.p1.a x.p1.n x.p1.c)).setCell ⟨w.heap.size,1,none⟩ (.slice x.p2.a x.p2.n x.p2.c)).setCell ⟨w.heap.size,2,none⟩ (.slice x.p3.a x.p3.n x.p3.c)).setCell ⟨w.heap.size,3,none⟩ (.slice x.p4.a x.p4.n x.p4.c)))):=ret4 HRB.out HBW6.out (Nat.le_refl _) x
   have HX2:Hid (q=true->∃d,OO=some d/\DOwn w.heap.size (((((w6.setCell ⟨w.heap.size,0,none⟩ (.slice x.p1.a x.p1.n x.p1.c)).setCell ⟨w.heap.size,1,none⟩ (.slice x.p2.a x.p2.n x.p2.c)).setCell ⟨w.heap.size,2,none⟩ (.slice x.p3.a x.p3.n x.p3.c)).setCell ⟨w.heap.size,3,none⟩ (.slice x.p4.a x.p4.n x.p4.c))) x d):=fun h=>by
    obtain ⟨d,h1,h2⟩:=HO.out h
    exact ⟨d,h1,h2.ret4 (by omega) (by omega)⟩
   generalize (((((w6.setCell ⟨w.heap.size,0,none⟩ (.slice x.p1.a x.p1.n x.p1.c)).setCell ⟨w.heap.size,1,none⟩ (.slice x.p2.a x.p2.n x.p2.c)).setCell ⟨w.heap.size,2,none⟩ (.slice x.p3.a x.p3.n x.p3.c)).setCell ⟨w.heap.size,3,none⟩ (.slice x.p4.a x.p4.n x.p4.c)))=W9 at*
   have z0:=HX.out.1.box.1
   have z1:=HX.out.1.box.2.1
   have z2:=HX.out.1.box.2.2.1
   have z3:=HX.out.1.box.2.2.2.1
   exact bodyPost_ret (v:=.tuple #[.agg #[.slice x.p1.a x.p1.n x.p1.c,.slice x.p2.a x.p2.n x.p2.c,.slice x.p3.a x.p3.n x.p3.c,.slice x.p4.a x.p4.n x.p4.c],.bool q]) (by simp[results,Tryz.results111,go_sem,z0,z1,z2,z3]) rfl ⟨x,q,rfl,⟨HX.out.2,HX2.out,HO2.out⟩⟩
  ·have hc2:¬ (c:Int) - 1=0:=by omega
   have hc1':¬ c - 1=0:=by omega
   go_enter Tryz.func111,Tryz.ntmps111
   go_wp2_with fail
   have K:=Lib.hid (KA.out (some ⟨b,o+2,none⟩) (c - 1))
   clear KA
   refine K.out.mono ?_
   rintro e w6 ⟨x,q,rfl,H6⟩
   have HB6:Hid (Below (w.heap.size+1) (nilB w) w6):=by rw[<- hs0];exact H6.out.1
   have hs6:w.heap.size+1<=w6.heap.size:=by have:=HB6.out.size;rw[hs0] at this;exact this
   have HRB:Hid (DBlk w6 w.heap.size nilDA):=(HB6.out.block _ (by omega)).trans HZ.out.2
   have HBW6:Hid (Below w.heap.size w w6):=HZ.out.1.trans (HB6.out.mono (by omega))
   have HO:Hid (q=true->∃d,OO=some d/\DOwn (w.heap.size+1) w6 x d):=by rw[<- hs0];exact H6.out.2.1
   have HO2:Hid (q=false->OO=none):=H6.out.2.2
   have er0:=HRB.out.box.1
   have er1:=HRB.out.box.2.1
   have er2:=HRB.out.box.2.2.1
   have er3:=HRB.out.box.2.2.2.1
   have ez0:=HRB.out.fz 0
   have ez1:=HRB.out.fz 1
   have ez2:=HRB.out.fz 2
   have ez3:=HRB.out.fz 3
   simp only at er0 er1 er2 er3
   clear K H6 HB6
   go_wp2_with fail
   have HX:Hid (DBlk (((((w6.setCell ⟨w.heap.size,0,none⟩ (.slice x.p1.a x.p1.n x.p1.c)).setCell ⟨w.heap.size,1,none⟩ (.slice x.p2.a x.p2.n x.p2.c)).setCell ⟨w.heap.size,2,none⟩ (.slice x.p3.a x.p3.n x.p3.c)).setCell ⟨w.heap.size,3,none⟩ (.slice x.p4.a x.p4.n x.p4.c))) w.heap.size x/\Below w.heap.size w (((((w6.setCell ⟨w.heap.size,0,none⟩ (.slice x.p1.a x.p1.n x.p1.c)).setCell ⟨w.heap.size,1,none⟩ (.slice x.p2.a x.p2.n x.p2.c)).setCell ⟨w.heap.size,2,none⟩ (.slice x.p3.a x.p3.n x.p3.c)).setCell ⟨w.heap.size,3,none⟩ (.slice x.p4.a x.p4.n x.p4.c)))):=ret4 HRB.out HBW6.out (Nat.le_refl _) x
   have HX2:Hid (q=true->∃d,OO=some d/\DOwn w.heap.size (((((w6.setCell ⟨w.heap.size,0,none⟩ (.slice x.p1.a x.p1.n x.p1.c)).setCell ⟨w.heap.size,1,none⟩ (.slice x.p2.a x.p2.n x.p2.c)).setCell ⟨w.heap.size,2,none⟩ (.slice x.p3.a x.p3.n x.p3.c)).setCell ⟨w.heap.size,3,none⟩ (.slice x.p4.a x.p4.n x.p4.c))) x d):=fun h=>by
    obtain ⟨d,h1,h2⟩:=HO.out h
    exact ⟨d,h1,h2.ret4 (by omega) (by omega)⟩
   generalize (((((w6.setCell ⟨w.heap.size,0,none⟩ (.slice x.p1.a x.p1.n x.p1.c)).setCell ⟨w.heap.size,1,none⟩ (.slice x.p2.a x.p2.n x.p2.c)).setCell ⟨w.heap.size,2,none⟩ (.slice x.p3.a x.p3.n x.p3.c)).setCell ⟨w.heap.size,3,none⟩ (.slice x.p4.a x.p4.n x.p4.c)))=W9 at*
   have z0:=HX.out.1.box.1
   have z1:=HX.out.1.box.2.1
   have z2:=HX.out.1.box.2.2.1
   have z3:=HX.out.1.box.2.2.2.1
   exact bodyPost_ret (v:=.tuple #[.agg #[.slice x.p1.a x.p1.n x.p1.c,.slice x.p2.a x.p2.n x.p2.c,.slice x.p3.a x.p3.n x.p3.c,.slice x.p4.a x.p4.n x.p4.c],.bool q]) (by simp[results,Tryz.results111,go_sem,z0,z1,z2,z3]) rfl ⟨x,q,rfl,⟨HX.out.2,HX2.out,HO2.out⟩⟩
 |cons p ps=>
  obtain ⟨num,qn⟩:=p
  have K:Hid (Calls Tryz.prog 135 #[.int .u16 (t:Int),.slice (some ⟨b,o+2,none⟩) (ps.length+1) (c - 1)] (nilB w) (HsP (hshF t ((num,qn)::ps)) (nilB w))):=hash_g t b (o+2) num qn ps (c - 1) (nilB w) (hrr.below HZ.out.1) (by simp at hc;omega) (by omega) (hb5.2 (num,qn) (by simp)) (cat_bd hb5.tail) (hE.below HZ.out.1)
  obtain ⟨OO,hOO⟩:∃OO,hshF t ((num,qn)::ps)=OO:=⟨_,rfl⟩
  rw[hOO] at K ⊢
  simp only[List.length_cons] at hc ⊢
  obtain ⟨N,hN⟩:∃N,ps.length=N:=⟨_,rfl⟩
  rw[hN] at hc K ⊢
  have hN0:(0:Int)<(N:Int)+2:=by omega
  have hN9:(0:Int)<(N:Int)+1+1:=by omega
  have hc2:¬ (c:Int) - 1=0:=by omega
  have hc1':¬ c - 1=0:=by omega
  have hsub:N+1+1 - 1=N+1:=by omega
  have hsub2:(N:Int)+1+1 - 1=(N:Int)+1:=by omega
  clear hw hN hrr hb5 hE hOO
  go_enter Tryz.func111,Tryz.ntmps111
  go_wp2_with fail
  refine K.out.mono ?_
  rintro e w6 ⟨x,q,rfl,H6⟩
  have HB6:Hid (Below (w.heap.size+1) (nilB w) w6):=by rw[<- hs0];exact H6.out.1
  have hs6:w.heap.size+1<=w6.heap.size:=by have:=HB6.out.size;rw[hs0] at this;exact this
  have HRB:Hid (DBlk w6 w.heap.size nilDA):=(HB6.out.block _ (by omega)).trans HZ.out.2
  have HBW6:Hid (Below w.heap.size w w6):=HZ.out.1.trans (HB6.out.mono (by omega))
  have HO:Hid (q=true->∃d,OO=some d/\DOwn (w.heap.size+1) w6 x d):=by rw[<- hs0];exact H6.out.2.1
  have HO2:Hid (q=false->OO=none):=H6.out.2.2
  have er0:=HRB.out.box.1
  have er1:=HRB.out.box.2.1
  have er2:=HRB.out.box.2.2.1
  have er3:=HRB.out.box.2.2.2.1
  have ez0:=HRB.out.fz 0
  have ez1:=HRB.out.fz 1
  have ez2:=HRB.out.fz 2
  have ez3:=HRB.out.fz 3
  simp only at er0 er1 er2 er3
  clear K H6 HB6
  go_wp2_with fail
  have HX:Hid (DBlk (((((w6.setCell ⟨w.heap.size,0,none⟩ (.slice x.p1.a x.p1.n x.p1.c)).setCell ⟨w.heap.size,1,none⟩ (.slice x.p2.a x.p2.n x.p2.c)).setCell ⟨w.heap.size,2,none⟩ (.slice x.p3.a x.p3.n x.p3.c)).setCell ⟨w.heap.size,3,none⟩ (.slice x.p4.a x.p4.n x.p4.c))) w.heap.size x/\Below w.heap.size w (((((w6.setCell ⟨w.heap.size,0,none⟩ (.slice x.p1.a x.p1.n x.p1.c)).setCell ⟨w.heap.size,1,none⟩ (.slice x.p2.a x.p2.n x.p2.c)).setCell ⟨w.heap.size,2,none⟩ (.slice x.p3.a x.p3.n x.p3.c)).setCell ⟨w.heap.size,3,none⟩ (.slice x.p4.a x.p4.n x.p4.c)))):=ret4 HRB.out HBW6.out (Nat.le_refl _) x
  have HX2:Hid (q=true->∃d,OO=some d/\DOwn w.heap.size (((((w6.setCell ⟨w.heap.size,0,none⟩ (.slice x.p1.a x.p1.n x.p1.c)).setCell ⟨w.heap.size,1,none⟩ (.slice x.p2.a x.p2.n x.p2.c)).setCell ⟨w.heap.size,2,none⟩ (.slice x.p3.a x.p3.n x.p3.c)).setCell ⟨w.heap.size,3,none⟩ (.slice x.p4.a x.p4.n x.p4.c))) x d):=fun h=>by
   obtain ⟨d,h1,h2⟩:=HO.out h
   exact ⟨d,h1,h2.ret4 (by omega) (by omega)⟩
  generalize (((((w6.setCell ⟨w.heap.size,0,none⟩ (.slice x.p1.a x.p1.n x.p1.c)).setCell ⟨w.heap.size,1,none⟩ (.slice x.p2.a x.p2.n x.p2.c)).setCell ⟨w.heap.size,2,none⟩ (.slice x.p3.a x.p3.n x.p3.c)).setCell ⟨w.heap.size,3,none⟩ (.slice x.p4.a x.p4.n x.p4.c)))=W9 at*
  have z0:=HX.out.1.box.1
  have z1:=HX.out.1.box.2.1
  have z2:=HX.out.1.box.2.2.1
  have z3:=HX.out.1.box.2.2.2.1
  exact bodyPost_ret (v:=.tuple #[.agg #[.slice x.p1.a x.p1.n x.p1.c,.slice x.p2.a x.p2.n x.p2.c,.slice x.p3.a x.p3.n x.p3.c,.slice x.p4.a x.p4.n x.p4.c],.bool q]) (by simp[results,Tryz.results111,go_sem,z0,z1,z2,z3]) rfl ⟨x,q,rfl,⟨HX.out.2,HX2.out,HO2.out⟩⟩
theorem read_g(t:Nat)(a:Option Addr)(ws:List Wd)(c:Nat)(oa:Option Addr)(on oc:Nat)(og:List ByteArray)(w:World)(hw:RdW w a ws)(hc:ws.length<=c)(h63:c<=9223372036854775807)(hb:WB ws)(hog:Nm w oa on og)(hE:LayE w) :
  Calls Tryz.prog 111 #[.int .u16 (t:Int),.slice a ws.length c,.slice oa on oc] w (HsP (wrdF t og ws) w):=by
 by_cases hh:ws.head?=some hash6
 ·cases ws with
  |nil=>cases hh
  |cons p r=>
   simp only[List.head?_cons,Option.some.injEq] at hh
   subst hh
   obtain ⟨b,o,rfl,-⟩:=hw.head
   have:=readH_g t b o r c oa on oc w hw hc h63 hb.tail hE
   have e:wrdF t og (hash6::r)=hshF t r:=by unfold wrdF;rw[if_pos (show (hash6::r).head?=some hash6 from rfl)];rfl
   rw[e]
   exact this
 ·exact read_g1 t a ws c oa on oc og w hh hw (fun w0 h0=>fields_g t w0 a ws c oa on oc og (hE.below h0) (hog.below h0) (hw.below h0) hc h63 hb)
def PsP(o:Option Dat)(w:World)(e:Ending)(w':World):Prop:=
 ∃(x:DA) (er:Int),e=.returned (.tuple #[.agg #[.slice x.p1.a x.p1.n x.p1.c,.slice x.p2.a x.p2.n x.p2.c,.slice x.p3.a x.p3.n x.p3.c,.slice x.p4.a x.p4.n x.p4.c],.int .i64 er])/\Hid (Below w.heap.size w w'/\((er=0/\∃d,o=some d/\DOwn w.heap.size w' x d)∨(er=7/\o=none/\x=nilDA)))
theorem parse_g(t:Nat)(a:Option Addr)(ws:List Wd)(c:Nat)(oa:Option Addr)(on oc:Nat)(og:List ByteArray)(w:World)(hw:RdW w a ws)(hc:ws.length<=c)(h63:c<=9223372036854775807)(hb:WB ws)(hog:Nm w oa on og)(hE:LayE w)(hck:nck og=0)(hmay:mayT t=true) :
  Calls Tryz.prog 89 #[.int .u16 (t:Int),.slice a ws.length c,.slice oa on oc] w (PsP (prsF t og ws) w):=by
 have HZ:Hid (Below w.heap.size w (w.alloc (.cells #[.slice none 0 0,.slice none 0 0,.slice none 0 0,.slice none 0 0] 48))/\DBlk (w.alloc (.cells #[.slice none 0 0,.slice none 0 0,.slice none 0 0,.slice none 0 0] 48)) w.heap.size nilDA):=⟨new_below _ _,heap_alloc_new _ _⟩
 have hs0:w.heap.size<(w.alloc (.cells #[.slice none 0 0,.slice none 0 0,.slice none 0 0,.slice none 0 0] 48)).heap.size:=by simp
 have KN:Hid (Calls Tryz.prog 17 #[.slice oa on oc] (w.alloc (.cells #[.slice none 0 0,.slice none 0 0,.slice none 0 0,.slice none 0 0] 48)) fun e w'=>e=.returned (.int .i64 0)/\w'=(w.alloc (.cells #[.slice none 0 0,.slice none 0 0,.slice none 0 0,.slice none 0 0] 48))):=by
  have:=pm_check oc (hog.below HZ.out.1)
  rw[hck] at this
  exact this
 have KH:Hid (∀W,Calls Tryz.prog 110 #[.int .u16 (t:Int)] W fun e w'=>e=.returned (.bool true)/\w'=W):=fun W=>by have:=hasT_any t W;rw[hmay] at this;exact this
 have K:Hid (Calls Tryz.prog 111 #[.int .u16 (t:Int),.slice a ws.length c,.slice oa on oc] (w.alloc (.cells #[.slice none 0 0,.slice none 0 0,.slice none 0 0,.slice none 0 0] 48)) (HsP (wrdF t og ws) (w.alloc (.cells #[.slice none 0 0,.slice none 0 0,.slice none 0 0,.slice none 0 0] 48)))):=read_g t a ws c oa on oc og _ (hw.below HZ.out.1) hc h63 hb (hog.below HZ.out.1) (hE.below HZ.out.1)
 have KC:Hid (∀W x d,wrdF t og ws=some d->DRd W x d->Calls Tryz.prog 112 #[.int .u16 (t:Int),.agg #[.slice x.p1.a x.p1.n x.p1.c,.slice x.p2.a x.p2.n x.p2.c,.slice x.p3.a x.p3.n x.p3.c,.slice x.p4.a x.p4.n x.p4.c]] W fun e w'=>e=.returned (.int .i64 (checkF t d))/\Hid (Below W.heap.size W w')):=fun W x d hd hW=>check_any t x d W hW (wrd_bd hb hd)
 have HPR:Hid (prsF t og ws=(wrdF t og ws).bind fun d=>if checkF t d=0 then some d else none):=rfl
 generalize wrdF t og ws=OO at*
 generalize prsF t og ws=PP at*
 obtain ⟨len,hlen⟩:∃len,ws.length=len:=⟨_,rfl⟩
 rw[hlen] at K ⊢
 clear hw hc h63 hb hog hE hck hmay hlen
 go_enter Tryz.func89,Tryz.ntmps89
 generalize hw0:w.alloc (.cells #[.slice none 0 0,.slice none 0 0,.slice none 0 0,.slice none 0 0] 48)=w0 at*
 go_wp2_with fail
 try rw[hw0]
 refine KN.out.mono ?_
 rintro e w1 ⟨rfl,rfl⟩
 go_wp2_with fail
 refine (KH.out _).mono ?_
 rintro e w2 ⟨rfl,rfl⟩
 go_wp2_with fail
 refine K.out.mono ?_
 rintro e w3 ⟨x,q,rfl,H3⟩
 rcases q with _|_
 ·have HP0:Hid (PP=none):=by show _=_;rw[HPR.out,H3.out.2.2 rfl];rfl
  have HB34:Hid (Below w3.heap.size w3 (w3.alloc (.cells #[.slice x.p1.a x.p1.n x.p1.c,.slice x.p2.a x.p2.n x.p2.c,.slice x.p3.a x.p3.n x.p3.c,.slice x.p4.a x.p4.n x.p4.c] 48))):=new_below _ _
  have hs3:=Nat.lt_of_lt_of_le hs0 H3.out.1.size
  have HRB:Hid (DBlk w3 w.heap.size nilDA):=(H3.out.1.block _ hs0).trans HZ.out.2
  have HBW:Hid (Below w.heap.size w w3):=HZ.out.1.trans (H3.out.1.mono (by omega))
  have er0:=HRB.out.box.1
  have er1:=HRB.out.box.2.1
  have er2:=HRB.out.box.2.2.1
  have er3:=HRB.out.box.2.2.2.1
  have ez0:=HRB.out.fz 0
  have ez1:=HRB.out.fz 1
  have ez2:=HRB.out.fz 2
  have ez3:=HRB.out.fz 3
  simp only at er0 er1 er2 er3
  have hne1:¬ w.heap.size=w3.heap.size:=by omega
  have hne2:¬ w3.heap.size=w.heap.size:=by omega
  clear KN KH K HZ H3 KC HPR
  go_wp2_with fail
  have HX0:Hid (DBlk (((((w3.setCell ⟨w.heap.size,0,none⟩ (.slice none 0 0)).setCell ⟨w.heap.size,1,none⟩ (.slice none 0 0)).setCell ⟨w.heap.size,2,none⟩ (.slice none 0 0)).setCell ⟨w.heap.size,3,none⟩ (.slice none 0 0))) w.heap.size nilDA/\Below w.heap.size w (((((w3.setCell ⟨w.heap.size,0,none⟩ (.slice none 0 0)).setCell ⟨w.heap.size,1,none⟩ (.slice none 0 0)).setCell ⟨w.heap.size,2,none⟩ (.slice none 0 0)).setCell ⟨w.heap.size,3,none⟩ (.slice none 0 0)))):=ret4 HRB.out HBW.out (Nat.le_refl _) nilDA
  have HX:Hid (DBlk ((((((w3.setCell ⟨w.heap.size,0,none⟩ (.slice none 0 0)).setCell ⟨w.heap.size,1,none⟩ (.slice none 0 0)).setCell ⟨w.heap.size,2,none⟩ (.slice none 0 0)).setCell ⟨w.heap.size,3,none⟩ (.slice none 0 0))).alloc (.cells #[.slice x.p1.a x.p1.n x.p1.c,.slice x.p2.a x.p2.n x.p2.c,.slice x.p3.a x.p3.n x.p3.c,.slice x.p4.a x.p4.n x.p4.c] 48)) w.heap.size nilDA/\Below w.heap.size w ((((((w3.setCell ⟨w.heap.size,0,none⟩ (.slice none 0 0)).setCell ⟨w.heap.size,1,none⟩ (.slice none 0 0)).setCell ⟨w.heap.size,2,none⟩ (.slice none 0 0)).setCell ⟨w.heap.size,3,none⟩ (.slice none 0 0))).alloc (.cells #[.slice x.p1.a x.p1.n x.p1.c,.slice x.p2.a x.p2.n x.p2.c,.slice x.p3.a x.p3.n x.p3.c,.slice x.p4.a x.p4.n x.p4.c] 48))):=⟨((new_below (((((w3.setCell ⟨w.heap.size,0,none⟩ (.slice none 0 0)).setCell ⟨w.heap.size,1,none⟩ (.slice none 0 0)).setCell ⟨w.heap.size,2,none⟩ (.slice none 0 0)).setCell ⟨w.heap.size,3,none⟩ (.slice none 0 0))) (.cells #[.slice x.p1.a x.p1.n x.p1.c,.slice x.p2.a x.p2.n x.p2.c,.slice x.p3.a x.p3.n x.p3.c,.slice x.p4.a x.p4.n x.p4.c] 48)).block _ HX0.out.1.lt).trans HX0.out.1,HX0.out.2.trans ((new_below (((((w3.setCell ⟨w.heap.size,0,none⟩ (.slice none 0 0)).setCell ⟨w.heap.size,1,none⟩ (.slice none 0 0)).setCell ⟨w.heap.size,2,none⟩ (.slice none 0 0)).setCell ⟨w.heap.size,3,none⟩ (.slice none 0 0))) (.cells #[.slice x.p1.a x.p1.n x.p1.c,.slice x.p2.a x.p2.n x.p2.c,.slice x.p3.a x.p3.n x.p3.c,.slice x.p4.a x.p4.n x.p4.c] 48)).mono HX0.out.2.size)⟩
  generalize ((((((w3.setCell ⟨w.heap.size,0,none⟩ (.slice none 0 0)).setCell ⟨w.heap.size,1,none⟩ (.slice none 0 0)).setCell ⟨w.heap.size,2,none⟩ (.slice none 0 0)).setCell ⟨w.heap.size,3,none⟩ (.slice none 0 0))).alloc (.cells #[.slice x.p1.a x.p1.n x.p1.c,.slice x.p2.a x.p2.n x.p2.c,.slice x.p3.a x.p3.n x.p3.c,.slice x.p4.a x.p4.n x.p4.c] 48))=W9 at*
  have z0:=HX.out.1.box.1
  have z1:=HX.out.1.box.2.1
  have z2:=HX.out.1.box.2.2.1
  have z3:=HX.out.1.box.2.2.2.1
  exact bodyPost_ret (v:=.tuple #[.agg #[.slice none 0 0,.slice none 0 0,.slice none 0 0,.slice none 0 0],.int .i64 7]) (by simp[results,Tryz.results89,go_sem,z0,z1,z2,z3]) rfl ⟨nilDA,7,rfl,⟨HX.out.2,.inr ⟨rfl,HP0.out,rfl⟩⟩⟩
 ·obtain ⟨d,hd1,hd2⟩:=H3.out.2.1 rfl
  have HD1:Hid (OO=some d):=hd1
  have HD2:Hid (DOwn w2.heap.size w3 x d):=hd2
  have HN:Hid (DRd (w3.alloc (.cells #[.slice x.p1.a x.p1.n x.p1.c,.slice x.p2.a x.p2.n x.p2.c,.slice x.p3.a x.p3.n x.p3.c,.slice x.p4.a x.p4.n x.p4.c] 48)) x d/\Below w3.heap.size w3 (w3.alloc (.cells #[.slice x.p1.a x.p1.n x.p1.c,.slice x.p2.a x.p2.n x.p2.c,.slice x.p3.a x.p3.n x.p3.c,.slice x.p4.a x.p4.n x.p4.c] 48))):=⟨hd2.rd.below (new_below _ _),new_below _ _⟩
  clear hd1 hd2
  go_wp2_with fail
  refine (KC.out _ x d HD1.out HN.out.1).mono ?_
  rintro e w4 ⟨rfl,H4⟩
  have HD:Hid (DBlk w4 w3.heap.size x):=(H4.out.block _ (by simp)).trans (heap_alloc_new _ _)
  have d0:w4.cell? ⟨w3.heap.size,0,none⟩=_:=HD.out.box.1
  have d1:w4.cell? ⟨w3.heap.size,1,none⟩=_:=HD.out.box.2.1
  have d2:w4.cell? ⟨w3.heap.size,2,none⟩=_:=HD.out.box.2.2.1
  have d3:w4.cell? ⟨w3.heap.size,3,none⟩=_:=HD.out.box.2.2.2.1
  have HB34:Hid (Below w3.heap.size w3 w4):=HN.out.2.trans (H4.out.mono HN.out.2.size)
  have HRB:Hid (DBlk w4 w.heap.size nilDA):=(HB34.out.block _ (Nat.lt_of_lt_of_le hs0 H3.out.1.size)).trans ((H3.out.1.block _ hs0).trans HZ.out.2)
  have HBW:Hid (Below w.heap.size w w4):=(HZ.out.1.trans (H3.out.1.mono (by omega))).trans (HB34.out.mono (by have:=H3.out.1.size;omega))
  have HO:Hid (DOwn w2.heap.size w4 x d):=HD2.out.stays HB34.out
  have hne1:¬ w.heap.size=w3.heap.size:=by have:=H3.out.1.size;omega
  have hne2:¬ w3.heap.size=w.heap.size:=by omega
  have HPY:Hid (checkF t d=0->PP=some d):=fun h=>by rw[HPR.out,HD1.out];simp[h]
  have HPN:Hid (¬ checkF t d=0->PP=none):=fun h=>by rw[HPR.out,HD1.out];simp[h]
  have er0:=HRB.out.box.1
  have er1:=HRB.out.box.2.1
  have er2:=HRB.out.box.2.2.1
  have er3:=HRB.out.box.2.2.2.1
  have ez0:=HRB.out.fz 0
  have ez1:=HRB.out.fz 1
  have ez2:=HRB.out.fz 2
  have ez3:=HRB.out.fz 3
  simp only at er0 er1 er2 er3
  clear KN KH K KC HN H4 HB34 HZ H3 HD HPR HD1 HD2
  generalize checkF t d=ck at*
  by_cases hk:ck=0
  ·subst hk
   go_wp2_with fail
   have HX:Hid (DBlk (((((w4.setCell ⟨w.heap.size,0,none⟩ (.slice x.p1.a x.p1.n x.p1.c)).setCell ⟨w.heap.size,1,none⟩ (.slice x.p2.a x.p2.n x.p2.c)).setCell ⟨w.heap.size,2,none⟩ (.slice x.p3.a x.p3.n x.p3.c)).setCell ⟨w.heap.size,3,none⟩ (.slice x.p4.a x.p4.n x.p4.c))) w.heap.size x/\DOwn w.heap.size (((((w4.setCell ⟨w.heap.size,0,none⟩ (.slice x.p1.a x.p1.n x.p1.c)).setCell ⟨w.heap.size,1,none⟩ (.slice x.p2.a x.p2.n x.p2.c)).setCell ⟨w.heap.size,2,none⟩ (.slice x.p3.a x.p3.n x.p3.c)).setCell ⟨w.heap.size,3,none⟩ (.slice x.p4.a x.p4.n x.p4.c))) x d/\Below w.heap.size w (((((w4.setCell ⟨w.heap.size,0,none⟩ (.slice x.p1.a x.p1.n x.p1.c)).setCell ⟨w.heap.size,1,none⟩ (.slice x.p2.a x.p2.n x.p2.c)).setCell ⟨w.heap.size,2,none⟩ (.slice x.p3.a x.p3.n x.p3.c)).setCell ⟨w.heap.size,3,none⟩ (.slice x.p4.a x.p4.n x.p4.c)))):=⟨(ret4 HRB.out HBW.out (Nat.le_refl _) x).1,HO.out.ret4 hs0 (Nat.le_of_lt hs0),(ret4 HRB.out HBW.out (Nat.le_refl _) x).2⟩
   generalize (((((w4.setCell ⟨w.heap.size,0,none⟩ (.slice x.p1.a x.p1.n x.p1.c)).setCell ⟨w.heap.size,1,none⟩ (.slice x.p2.a x.p2.n x.p2.c)).setCell ⟨w.heap.size,2,none⟩ (.slice x.p3.a x.p3.n x.p3.c)).setCell ⟨w.heap.size,3,none⟩ (.slice x.p4.a x.p4.n x.p4.c)))=W9 at*
   have z0:=HX.out.1.box.1
   have z1:=HX.out.1.box.2.1
   have z2:=HX.out.1.box.2.2.1
   have z3:=HX.out.1.box.2.2.2.1
   exact bodyPost_ret (v:=.tuple #[.agg #[.slice x.p1.a x.p1.n x.p1.c,.slice x.p2.a x.p2.n x.p2.c,.slice x.p3.a x.p3.n x.p3.c,.slice x.p4.a x.p4.n x.p4.c],.int .i64 0]) (by simp[results,Tryz.results89,go_sem,z0,z1,z2,z3]) rfl ⟨x,0,rfl,⟨HX.out.2.2,.inl ⟨rfl,d,HPY.out (by simp),HX.out.2.1⟩⟩⟩
  ·have hk2:(ck == 0)=false:=by simpa using hk
   have hk3:(ck != 0)=true:=by simpa using hk
   go_wp2_with fail
   have HX:Hid (DBlk (((((w4.setCell ⟨w.heap.size,0,none⟩ (.slice none 0 0)).setCell ⟨w.heap.size,1,none⟩ (.slice none 0 0)).setCell ⟨w.heap.size,2,none⟩ (.slice none 0 0)).setCell ⟨w.heap.size,3,none⟩ (.slice none 0 0))) w.heap.size nilDA/\Below w.heap.size w (((((w4.setCell ⟨w.heap.size,0,none⟩ (.slice none 0 0)).setCell ⟨w.heap.size,1,none⟩ (.slice none 0 0)).setCell ⟨w.heap.size,2,none⟩ (.slice none 0 0)).setCell ⟨w.heap.size,3,none⟩ (.slice none 0 0)))):=ret4 HRB.out HBW.out (Nat.le_refl _) nilDA
   generalize (((((w4.setCell ⟨w.heap.size,0,none⟩ (.slice none 0 0)).setCell ⟨w.heap.size,1,none⟩ (.slice none 0 0)).setCell ⟨w.heap.size,2,none⟩ (.slice none 0 0)).setCell ⟨w.heap.size,3,none⟩ (.slice none 0 0)))=W9 at*
   have z0:=HX.out.1.box.1
   have z1:=HX.out.1.box.2.1
   have z2:=HX.out.1.box.2.2.1
   have z3:=HX.out.1.box.2.2.2.1
   exact bodyPost_ret (v:=.tuple #[.agg #[.slice none 0 0,.slice none 0 0,.slice none 0 0,.slice none 0 0],.int .i64 7]) (by simp[results,Tryz.results89,go_sem,z0,z1,z2,z3]) rfl ⟨nilDA,7,rfl,⟨HX.out.2,.inr ⟨rfl,HPN.out hk,rfl⟩⟩⟩
def Box(w:World)(b:Nat)(s pre:ByteArray)(most:Int):Prop:=
 w.cell? ⟨b,0,none⟩=some (.string s)/\w.cell? ⟨b,1,none⟩=some (.string pre)/\w.cell? ⟨b,2,none⟩=some (.int .i64 most)/\b<w.heap.size
theorem Box.new(w:World)(s pre:ByteArray)(most:Int):Box (w.alloc (.cells #[.string s,.string pre,.int .i64 most] 218)) w.heap.size s pre most:=by
 refine ⟨?_,?_,?_,by simp⟩ <;> (unfold World.cell?;rw[heap_alloc_new];rfl)
theorem Box.below{w w':World}{b:Nat}{s pre:ByteArray}{most:Int}(h:Box w b s pre most)(hb:Below w.heap.size w w'):Box w' b s pre most:=
 ⟨(hb.cell (p:=⟨b,0,none⟩) h.2.2.2).trans h.1,(hb.cell (p:=⟨b,1,none⟩) h.2.2.2).trans h.2.1,(hb.cell (p:=⟨b,2,none⟩) h.2.2.2).trans h.2.2.1,Nat.lt_of_lt_of_le h.2.2.2 hb.size⟩
def Res(o:Option Nat)(x y:Int):Prop:=(∀n,o=some n->x=(n:Int)/\y=0)/\(o=none->x=0/\y=6)
theorem Res.no{o:Option Nat}(h:o=none):Res o 0 6:=⟨fun n hn=>(by rw[h] at hn;cases hn),fun _=>⟨rfl,rfl⟩⟩
theorem Res.yes{o:Option Nat}{n:Nat}(h:o=some n):Res o (n:Int) 0:=⟨fun m hm=>(by rw[h] at hm;cases hm;exact ⟨rfl,rfl⟩),fun hn=>(by rw[h] at hn;cases hn)⟩
theorem numc_any(s pre:ByteArray)(most:Nat)(hm:most<65536)(t:ByteArray)(ht:t.size<=140737488355328)(w:World)(hL:LayT w)(hE:LayE w) :
  Calls Tryz.prog 169 #[.agg #[.string s,.string pre,.int .i64 most],.string t] w fun e w'=>∃x y,e=.returned (.tuple #[.int .i64 x,.int .i64 y])/\Hid (Res (numF t.data.toList (most+1)) x y)/\Hid (Below w.heap.size w w'):=by
 have HL:Hid (LayT w):=hL
 have HX:Hid (Box (w.alloc (.cells #[.string s,.string pre,.int .i64 most] 218)) w.heap.size s pre most):=Box.new w s pre most
 have HB:Hid (Below w.heap.size w (w.alloc (.cells #[.string s,.string pre,.int .i64 most] 218))):=(Below.refl _ _).alloc (Nat.le_refl _) _
 have HE:Hid (LayE (w.alloc (.cells #[.string s,.string pre,.int .i64 most] 218))):=hE.below HB.out
 clear hL hE
 cases ha:Lib.atoiAll t.data.toList with
 |ok v=>
  have HA:Hid (Lib.atoiAll t.data.toList=.ok v):=ha
  clear ha
  go_enter Tryz.func169,Tryz.ntmps169
  go_wp2_with fail
  generalize (w.alloc (.cells #[.string s,.string pre,.int .i64 most] 218))=W1 at*
  refine (Tryz.strconv_Atoi_ok t (by omega) v HA.out W1).mono ?_
  rintro e W2 ⟨rfl,hW2⟩
  have H2:Hid (Below W1.heap.size W1 W2):=by
   rcases hW2 with rfl|⟨u,rfl⟩
   ·exact Below.refl _ _
   ·exact Lib.bytesWorld_below _ _ _
  clear hW2
  have HX2:Hid (Box W2 w.heap.size s pre most):=HX.out.below H2.out
  have HB2:Hid (Below w.heap.size w W2):=HB.out.trans (H2.out.mono HB.out.size)
  have c2:=HX2.out.2.2.1
  clear HX HB H2 HE
  have HD:Hid (∀n,n<most+1->t.data.toList=Lib.decDigits n->v=(n:Int)):=by
   intro n hn he
   have:=HA.out
   rw[he,atoi_dec n (by omega)] at this
   injection this with this
   exact this.symm
  by_cases h1:v<0
  ·go_wp2_with fail
   go_ret2
   refine ⟨_,_,rfl,⟨?_,fun _=>⟨rfl,rfl⟩⟩,HB2.out⟩
   intro n hn
   obtain ⟨e1,e2⟩:=numF_some hn
   have:=HD.out n e2 e1
   omega
  ·by_cases h2:(most:Int)<v
   ·go_wp2_with fail
    go_ret2
    refine ⟨_,_,rfl,⟨?_,fun _=>⟨rfl,rfl⟩⟩,HB2.out⟩
    intro n hn
    obtain ⟨e1,e2⟩:=numF_some hn
    have:=HD.out n e2 e1
    omega
   ·obtain ⟨n,rfl⟩:∃n:Nat,v=(n:Int):=⟨v.toNat,by omega⟩
    go_wp2_with fail
    refine (itoa_nat n (by omega) W2 (HL.out.below HB2.out)).mono ?_
    rintro e W3 ⟨rfl,H3⟩
    have HB3:Hid (Below w.heap.size w W3):=HB2.out.trans (H3.out.mono HB2.out.size)
    clear HX2 HB2 H3 c2
    by_cases h3:Lib.decDigits n=t.data.toList
    ·have hq:(Lib.decDigits n == t.toList)=true:=by rw[ByteArray.toList_eq,h3];simp
     have HQ:Hid (numF t.data.toList (most+1)=some n):=by
      show _=_
      rw[<- h3]
      exact numF_dec n _ (by omega)
     clear h3
     go_wp2_with fail
     go_ret2
     exact ⟨_,_,rfl,Res.yes HQ.out,HB3.out⟩
    ·have hq:(Lib.decDigits n == t.toList)=false:=by
      rw[ByteArray.toList_eq]
      cases h:Lib.decDigits n == t.data.toList with
      |false=>rfl
      |true=>exact absurd (eq_of_beq h) h3
     have HQ:Hid (numF t.data.toList (most+1)=none):=by
      refine numF_none fun k hk he=>?_
      have:=HD.out k hk he
      have e:n=k:=by omega
      subst e
      exact h3 he.symm
     clear h3
     go_wp2_with fail
     go_ret2
     exact ⟨_,_,rfl,Res.no HQ.out,HB3.out⟩
 |«syntax»=>
  have HQ:Hid (numF t.data.toList (most+1)=none):=by
   refine numF_none fun k hk he=>?_
   rw[he,atoi_dec k (by omega)] at ha
   cases ha
  have HA:Hid (Lib.atoiAll t.data.toList=.«syntax»):=ha
  clear ha
  go_enter Tryz.func169,Tryz.ntmps169
  go_wp2_with fail
  generalize (w.alloc (.cells #[.string s,.string pre,.int .i64 most] 218))=W1 at*
  obtain ⟨tp,p,hv⟩:=HE.out.1
  refine (Tryz.strconv_Atoi_syntax_var t (by omega) HA.out tp p W1 hv).mono ?_
  rintro e W2 ⟨N,rfl,-,-,hb⟩
  have HB2:Hid (Below w.heap.size w W2):=HB.out.trans (hb.mono HB.out.size)
  clear hv hb HX HB HE
  go_wp2_with fail
  go_ret2
  exact ⟨_,_,rfl,Res.no HQ.out,HB2.out⟩
 |range=>
  have HQ:Hid (numF t.data.toList (most+1)=none):=by
   refine numF_none fun k hk he=>?_
   rw[he,atoi_dec k (by omega)] at ha
   cases ha
  have HA:Hid (Lib.atoiAll t.data.toList=.range):=ha
  clear ha
  go_enter Tryz.func169,Tryz.ntmps169
  go_wp2_with fail
  generalize (w.alloc (.cells #[.string s,.string pre,.int .i64 most] 218))=W1 at*
  obtain ⟨tp,p,hv⟩:=HE.out.2.1
  refine (Tryz.strconv_Atoi_range_var t (by omega) HA.out tp p W1 hv).mono ?_
  rintro e W2 ⟨N,rfl,-,-,hb⟩
  have HB2:Hid (Below w.heap.size w W2):=HB.out.trans (hb.mono HB.out.size)
  clear hv hb HX HB HE
  generalize Lib.atoiSat t.data.toList=v
  go_wp2_with fail
  go_ret2
  exact ⟨_,_,rfl,Res.no HQ.out,HB2.out⟩
theorem digits_any(s pre:ByteArray)(most:Int)(ps:Own4)(t:ByteArray)(w:World)(hK:KOk s ps)(hL:LayT w) :
  Calls Tryz.prog 167 #[.agg #[.string s,.string pre,.int .i64 most],.string t] w fun e w'=>∃(l:List UInt8) (b:Bool),e=.returned (.tuple #[.string ⟨l.toArray⟩,.bool b])/\Hid (digF ps pre.data.toList t.data.toList=if b then some l else none)/\Hid (Below w.heap.size w w'):=by
 have HL:Hid (LayT w):=hL
 have HK:Hid (KOk s ps):=hK
 have HX:Hid (Box (w.alloc (.cells #[.string s,.string pre,.int .i64 most] 218)) w.heap.size s pre most):=Box.new w s pre most
 have HB:Hid (Below w.heap.size w (w.alloc (.cells #[.string s,.string pre,.int .i64 most] 218))):=(Below.refl _ _).alloc (Nat.le_refl _) _
 clear hL hK
 go_enter Tryz.func167,Tryz.ntmps167
 go_wp2_with fail
 generalize (w.alloc (.cells #[.string s,.string pre,.int .i64 most] 218))=W1 at*
 refine (fields_any s ps W1 HK.out (HL.out.below HB.out)).mono ?_
 rintro e W3 ⟨rfl,H3⟩
 have HX3:Hid (Box W3 w.heap.size s pre most):=HX.out.below H3.out.1
 have HB3:Hid (Below w.heap.size w W3):=HB.out.trans (H3.out.1.mono HB.out.size)
 have HC:Hid (∀j p,ps[j]?=some p->W3.cell? ⟨W1.heap.size,2*j,none⟩=some (.string ⟨p.1.toArray⟩)/\W3.cell? ⟨W1.heap.size,2*j+1,none⟩=some (.string ⟨(Lib.decDigits p.2).toArray⟩)):=H3.out.2
 have hN:=HK.out.2.2.2.1
 obtain ⟨N,eN⟩:∃N,ps.length=N:=⟨_,rfl⟩
 have HN:Hid (ps.length=N):=eN
 rw[eN] at hN ⊢
 clear HX HB H3 eN HK
 generalize W1.heap.size=g at*
 go_wp2_with fail
 go_loopw [7] (fun x wr=>wr=W3/\∃j:Nat,j<=N/\x=.int .i64 ((2*j+1:Nat):Int)/\Hid (∀p∈ps.take j,(p.1 == t.data.toList)=false)) (fun x _=>2*N+1 - (intOf x).toNat)
 case atStart=>exact ⟨rfl,0,Nat.zero_le _,rfl,by intro p hp;simp at hp⟩
 case round=>
  obtain ⟨rfl,j,hj,rfl,HF⟩:=hrel
  obtain ⟨i,ei⟩:∃i:Nat,2*j+1=i:=⟨_,rfl⟩
  by_cases hlt:j<N
  ·obtain ⟨p,hp⟩:∃p,ps[j]?=some p:=⟨_,List.getElem?_eq_getElem (by rw[HN.out];exact hlt)⟩
   obtain ⟨c1,c2⟩:=HC.out j p hp
   rw[ei] at c2 ⊢
   have hb1:(i:Int)<((2*N:Nat):Int):=by omega
   have hs1:IntKind.i64.wrap ((i:Int) - 1)=((2*j:Nat):Int):=by rw[IntKind.wrap_i64];omega
   have hs2:(((2*j:Nat):Int))<((2*N:Nat):Int):=by omega
   have HS:Hid (((p.1 == t.data.toList)=true->ps.find? (fun q=>q.1 == t.data.toList)=some p)/\((p.1 == t.data.toList)=false->∀q∈ps.take (j+1),(q.1 == t.data.toList)=false)):=find_step (fun (q:List UInt8 × Nat)=>q.1 == t.data.toList) ps j HF.out p hp
   obtain ⟨m,hm⟩:∃m,2*j=m:=⟨_,rfl⟩
   rw[hm] at c1 hs1 hs2
   cases he:p.1 == t.data.toList with
   |true=>
    have hq:(p.1 == t.toList)=true:=by rw[ByteArray.toList_eq];exact he
    have HS1:=HS.out.1 he
    have HS2:Hid (ps.find? (fun q=>q.1 == t.data.toList)=some p):=HS1
    clear HS HS1 he
    go_wp2_with fail
    go_ret2
    refine ⟨_,_,rfl,?_,HB3.out⟩
    show _=_
    have:=HS2.out
    simp[digF,this]
   |false=>
    have hq:(p.1 == t.toList)=false:=by rw[ByteArray.toList_eq];exact he
    have HS2:Hid (∀q∈ps.take (j+1),(q.1 == t.data.toList)=false):=HS.out.2 he
    clear HS he c2
    go_wp2_with fail
    refine ⟨⟨by first|rfl|trivial,j+1,by omega,?_,HS2⟩,?_⟩
    ·rw[<- ei];go_num
    ·simp[intOf];omega
  ·have hjN:j=N:=by omega
   have hb1:¬ (i:Int)<((2*N:Nat):Int):=by omega
   have HT:Hid (ps.find? (fun (q:List UInt8 × Nat)=>q.1 == t.data.toList)=none):=find_end (fun (q:List UInt8 × Nat)=>q.1 == t.data.toList) ps j HF.out (by rw[HN.out];omega)
   have c1:=HX3.out.2.1
   rw[ei]
   clear HF HC
   go_wp2_with fail
   refine (Tryz.strings_CutPrefix t pre wr).mono ?_
   rintro e W4 ⟨rfl,rfl⟩
   go_wp2_with fail
   go_ret2
   refine ⟨_,_,rfl,?_,HB3.out⟩
   show _=_
   have:=HT.out
   simp only[digF,this,Lib.trimPrefix,Lib.hasPrefix]
   split <;> simp_all
def up(t:ByteArray):ByteArray:=⟨(txt ((nums t).map uz)).toArray⟩
theorem up_size(t:ByteArray):(up t).size=t.size:=by
 show (txt ((nums t).map uz)).toArray.size=t.size
 rw[List.size_toArray,txt_len,List.length_map,nums_len]
theorem digF_len(ps:Own4)(pre t l:List UInt8)(hp:∀p∈ps,p.2<65536)(h:digF ps pre t=some l):l.length<=t.length+5:=by
 unfold digF at h
 split at h
 ·rename_i p hf
  have:=dec_len p.2 (by have:=hp p (List.mem_of_find?_eq_some hf);omega)
  cases h
  omega
 ·split at h
  ·cases h
   simp
   omega
  ·cases h
theorem parsec_any(s pre:ByteArray)(most:Nat)(hm:most<65536)(ps:Own4)(t:ByteArray)(ht:t.size<=140737488355000)(w:World)(hK:KOk s ps)(hL:LayT w)(hE:LayE w) :
  Calls Tryz.prog 149 #[.agg #[.string s,.string pre,.int .i64 most],.string t] w fun e w'=>∃x y,e=.returned (.tuple #[.int .i64 x,.int .i64 y])/\Hid (Res (readC ps pre.data.toList (most+1) (up t).data.toList) x y)/\Hid (Below w.heap.size w w'):=by
 have HL:Hid (LayT w/\LayE w):=⟨hL,hE⟩
 have HK:Hid (KOk s ps):=hK
 have HX:Hid (Box (w.alloc (.cells #[.string s,.string pre,.int .i64 most] 218)) w.heap.size s pre most):=Box.new w s pre most
 have HB:Hid (Below w.heap.size w (w.alloc (.cells #[.string s,.string pre,.int .i64 most] 218))):=(Below.refl _ _).alloc (Nat.le_refl _) _
 clear hL hK hE
 go_enter Tryz.func149,Tryz.ntmps149
 go_wp2_with fail
 generalize (w.alloc (.cells #[.string s,.string pre,.int .i64 most] 218))=W1 at*
 have HLd:Hid (LayT W1.drew/\LayE W1.drew):=⟨HL.out.1.below HB.out.drew,HL.out.2.below HB.out.drew⟩
 have HBd:Hid (Below w.heap.size w W1.drew/\w.heap.size<=W1.drew.heap.size):=⟨HB.out.drew,HB.out.size⟩
 have c0:=HX.out.1
 have c1:=HX.out.2.1
 have c2:=HX.out.2.2.1
 have hbl:=HX.out.2.2.2
 have HG:Hid (∀w',Below w.heap.size w w'->w.heap.size=w.heap.size):=fun _ _=>rfl
 have KG:Hid (∀W,Calls Tryz.prog 168 #[.string t] W fun e w'=>e=.returned (.string (up t))/\Hid (Below W.heap.size W w')):=fun W=>great_any t W (by omega)
 have KD:Hid (∀W,LayT W->Calls Tryz.prog 167 #[.agg #[.string s,.string pre,.int .i64 most],.string (up t)] W fun e w'=>∃(l:List UInt8) (b:Bool),e=.returned (.tuple #[.string ⟨l.toArray⟩,.bool b])/\Hid (digF ps pre.data.toList (up t).data.toList=if b then some l else none)/\Hid (Below W.heap.size W w')):=fun W h=>digits_any s pre most ps (up t) W HK.out h
 clear HL HB HX HG
 obtain ⟨b,hb⟩:∃b,b=w.heap.size:=⟨_,rfl⟩
 rw[<- hb] at c0 c1 c2 hbl HBd ⊢
 have Hb:Hid (b=w.heap.size):=hb
 clear hb
 go_region_held3 (fun W=>W.cell? ⟨b,0,none⟩=some (.string s)/\W.cell? ⟨b,1,none⟩=some (.string pre)/\W.cell? ⟨b,2,none⟩=some (.int .i64 most)) (go_keep) (first
  |(go_at_call 168;refine (KG.out _).mono ?_;rintro e W2 ⟨rfl,H2⟩;have d0:W2.cell? ⟨b,0,none⟩=some (.string s):=(H2.out.cell (p:=⟨b,0,none⟩) hbl).trans c0;have d1:W2.cell? ⟨b,1,none⟩=some (.string pre):=(H2.out.cell (p:=⟨b,1,none⟩) hbl).trans c1;have d2:W2.cell? ⟨b,2,none⟩=some (.int .i64 most):=(H2.out.cell (p:=⟨b,2,none⟩) hbl).trans c2;have HL2:Hid (LayT W2/\LayE W2):=⟨HLd.out.1.below H2.out,HLd.out.2.below H2.out⟩;have HB2:Hid (Below b w W2/\b<W2.heap.size):=⟨HBd.out.1.trans (H2.out.mono HBd.out.2),Nat.lt_of_lt_of_le hbl H2.out.size⟩;clear H2)
  |(go_at_call 167;refine (KD.out _ HL2.out.1).mono ?_;rintro e W3 ⟨l,q,rfl,HD,H3⟩;have e0:W3.cell? ⟨b,0,none⟩=some (.string s):=(H3.out.cell (p:=⟨b,0,none⟩) HB2.out.2).trans d0;have e1:W3.cell? ⟨b,1,none⟩=some (.string pre):=(H3.out.cell (p:=⟨b,1,none⟩) HB2.out.2).trans d1;have e2:W3.cell? ⟨b,2,none⟩=some (.int .i64 most):=(H3.out.cell (p:=⟨b,2,none⟩) HB2.out.2).trans d2;have HL3:Hid (LayT W3/\LayE W3):=⟨HL2.out.1.below H3.out,HL2.out.2.below H3.out⟩;have HB3:Hid (Below b w W3):=HB2.out.1.trans (H3.out.mono (Nat.le_of_lt HB2.out.2))))
 clear c0 c1 c2 d0 d1 d2 HLd HBd KG KD HL2 HB2 H3 hbl
 cases q with
 |false=>
  go_wp2_with fail
  go_ret2
  refine ⟨_,_,rfl,Res.no ?_,by rw[<- Hb.out];exact HB3.out⟩
  unfold readC
  rw[HD.out]
  rfl
 |true=>
  have hd:digF ps pre.data.toList (up t).data.toList=some l:=HD.out
  have hl:(⟨l.toArray⟩:ByteArray).size<=140737488355328:=by
   have:=digF_len ps pre.data.toList (up t).data.toList l HK.out.2.2.2.2 hd
   have e1:(up t).data.toList.length=t.size:=(Lib.size_eq _).symm.trans (up_size t)
   show l.toArray.size<=_
   rw[List.size_toArray]
   omega
  have HR:Hid (readC ps pre.data.toList (most+1) (up t).data.toList=numF l (most+1)):=by
   show readC _ _ _ _=_
   unfold readC;rw[hd];rfl
  clear HD hd
  go_wp2_with fail
  refine (numc_any s pre most hm ⟨l.toArray⟩ hl W3 HL3.out.1 HL3.out.2).mono ?_
  rintro e W4 ⟨x,y,rfl,HQ,H4⟩
  clear e0 e1 e2
  go_wp2_with fail
  go_ret2
  exact ⟨_,_,rfl,by rw[HR.out];exact HQ.out,by rw[<- Hb.out];exact HB3.out.trans (H4.out.mono (by rw[Hb.out];rw[Hb.out] at HB3;exact HB3.out.size))⟩
def typesB:ByteArray:=⟨#[65,32,49,32,78,83,32,50,32,67,78,65,77,69,32,53,32,83,79,65,32,54,32,80,84,82,32,49,50,32,77,88,32,49,53,32,84,88,84,32,49,54,32,65,65,65,65,32,50,56,32,83,82,86,32,51,51,32,79,80,84,32,52,49,32,65,78,89,32,50,53,53,32,67,65,65,32,50,53,55]⟩
def typesP:ByteArray:=⟨#[84,89,80,69]⟩
def typesW:Own4:=[([65],1),([78,83],2),([67,78,65,77,69],5),([83,79,65],6),([80,84,82],12),([77,88],15),([84,88,84],16),([65,65,65,65],28),([83,82,86],33),([79,80,84],41),([65,78,89],255),([67,65,65],257)]
theorem typesOk:KOk typesB typesW:=by
 refine ⟨by decide +kernel,?_,?_,by decide,by decide⟩
 ·intro j b h
  have:∀x∈typesB.data.toList,x.toNat<128:=by decide +kernel
  exact this b (List.mem_of_getElem? h)
 ·have e:flatC typesW=[[65],[49],[78,83],[50],[67,78,65,77,69],[53],[83,79,65],[54],[80,84,82],[49,50],[77,88],[49,53],[84,88,84],[49,54],[65,65,65,65],[50,56],[83,82,86],[51,51],[79,80,84],[52,49],[65,78,89],[50,53,53],[67,65,65],[50,53,55]]:=by simp[flatC,typesW,dec_small,dec_big]
  rw[e]
  decide +kernel
theorem types_any(w:World):Calls Tryz.prog 166 #[] w fun e w'=>e=.returned (.agg #[.string typesB,.string typesP,.int .i64 (65535:Nat)])/\Hid (Below w.heap.size w w'):=by
 go_enter Tryz.func166,Tryz.ntmps166
 go_wp2_with fail
 refine bodyPost_ret (v:=.agg #[.string typesB,.string typesP,.int .i64 (65535:Nat)]) (by simp[results,Tryz.results166,go_sem];exact ⟨rfl,rfl⟩) rfl ⟨rfl,?_⟩
 exact (Below.refl _ _).alloc (Nat.le_refl _) _
def classesB:ByteArray:=⟨#[73,78,32,49,32,67,72,32,51,32,72,83,32,52,32,78,79,78,69,32,50,53,52,32,65,78,89,32,50,53,53]⟩
def classesP:ByteArray:=⟨#[67,76,65,83,83]⟩
def classesW:Own4:=[([73,78],1),([67,72],3),([72,83],4),([78,79,78,69],254),([65,78,89],255)]
theorem classesOk:KOk classesB classesW:=by
 refine ⟨by decide +kernel,?_,?_,by decide,by decide⟩
 ·intro j b h
  have:∀x∈classesB.data.toList,x.toNat<128:=by decide +kernel
  exact this b (List.mem_of_getElem? h)
 ·have e:flatC classesW=[[73,78],[49],[67,72],[51],[72,83],[52],[78,79,78,69],[50,53,52],[65,78,89],[50,53,53]]:=by simp[flatC,classesW,dec_small,dec_big]
  rw[e]
  decide +kernel
theorem classes_any(w:World):Calls Tryz.prog 148 #[] w fun e w'=>e=.returned (.agg #[.string classesB,.string classesP,.int .i64 (65535:Nat)])/\Hid (Below w.heap.size w w'):=by
 go_enter Tryz.func148,Tryz.ntmps148
 go_wp2_with fail
 refine bodyPost_ret (v:=.agg #[.string classesB,.string classesP,.int .i64 (65535:Nat)]) (by simp[results,Tryz.results148,go_sem];exact ⟨rfl,rfl⟩) rfl ⟨rfl,?_⟩
 exact (Below.refl _ _).alloc (Nat.le_refl _) _
theorem readF_lt(ps:Own4)(pre:List UInt8)(below:Nat)(s:List UInt8)(n:Nat)(h:readC ps pre below s=some n):n<below:=by
 unfold readC at h
 cases hd:digF ps pre s with
 |none=>rw[hd] at h;cases h
 |some l=>rw[hd] at h;exact (numF_some h).2
theorem res_bd(o:Option Nat)(x y:Int){b:Nat}(h:∀n,o=some n->n<b)(hr:Res o x y):0<=x/\(x<b∨x=0):=by
 cases ho:o with
 |none=>have:=(hr.2 ho).1;omega
 |some n=>have:=(hr.1 n ho).1;have:=h n ho;omega
theorem ptype_any(t:ByteArray)(ht:t.size<=140737488355000)(w:World)(hL:LayT w)(hE:LayE w):Calls Tryz.prog 147 #[.string t] w fun e w'=>∃x y,e=.returned (.tuple #[.int .u16 x,.int .i64 y])/\Hid (Res (readC typesW typesP.data.toList 65536 (up t).data.toList) x y)/\Hid (Below w.heap.size w w'):=by
 have HL:Hid (LayT w/\LayE w):=⟨hL,hE⟩
 clear hL hE
 go_enter Tryz.func147,Tryz.ntmps147
 go_wp2_with fail
 refine (types_any w).mono ?_
 rintro e W1 ⟨rfl,H1⟩
 go_wp2_with fail
 refine (parsec_any typesB typesP 65535 (by decide) typesW t ht W1 typesOk (HL.out.1.below H1.out) (HL.out.2.below H1.out)).mono ?_
 rintro e W2 ⟨x,y,rfl,HR,H2⟩
 have hw:IntKind.u16.wrap x=x:=by
  have hb:=res_bd _ x y (fun n hn=>readF_lt typesW _ 65536 _ n hn) HR.out
  rw[IntKind.wrap_u16];omega
 go_wp2_with fail
 go_ret2
 exact ⟨_,_,rfl,HR.out,H1.out.trans (H2.out.mono H1.out.size)⟩
theorem pclass_any(t:ByteArray)(ht:t.size<=140737488355000)(w:World)(hL:LayT w)(hE:LayE w):Calls Tryz.prog 132 #[.string t] w fun e w'=>∃x y,e=.returned (.tuple #[.int .u16 x,.int .i64 y])/\Hid (Res (readC classesW classesP.data.toList 65536 (up t).data.toList) x y)/\Hid (Below w.heap.size w w'):=by
 have HL:Hid (LayT w/\LayE w):=⟨hL,hE⟩
 clear hL hE
 go_enter Tryz.func132,Tryz.ntmps132
 go_wp2_with fail
 refine (classes_any w).mono ?_
 rintro e W1 ⟨rfl,H1⟩
 go_wp2_with fail
 refine (parsec_any classesB classesP 65535 (by decide) classesW t ht W1 classesOk (HL.out.1.below H1.out) (HL.out.2.below H1.out)).mono ?_
 rintro e W2 ⟨x,y,rfl,HR,H2⟩
 have hw:IntKind.u16.wrap x=x:=by
  have hb:=res_bd _ x y (fun n hn=>readF_lt classesW _ 65536 _ n hn) HR.out
  rw[IntKind.wrap_u16];omega
 go_wp2_with fail
 go_ret2
 exact ⟨_,_,rfl,HR.out,H1.out.trans (H2.out.mono H1.out.size)⟩
def storedF(t:Int):Bool:=decide (t≠0) && decide (t≠41) && (decide (t<128) || decide (255<t))
theorem stored_any(t:Int)(w:World):Calls Tryz.prog 134 #[.int .u16 t] w fun e w'=>e=.returned (.bool (storedF t))/\w'=w:=by
 go_enter Tryz.func134,Tryz.ntmps134
 by_cases h0:t=0
 ·subst h0
  go_wp2_with fail
  go_ret
  exact ⟨ret_bool (by decide),rfl⟩
 ·by_cases h1:t=41
  ·subst h1
   go_wp2_with fail
   go_ret
   exact ⟨ret_bool (by decide),rfl⟩
  ·have q0:(t == 0)=false:=by simp[h0]
   have q1:(t == 41)=false:=by simp[h1]
   go_wp2_with fail
   refine (asked_any t w).mono ?_
   rintro e W ⟨rfl,rfl⟩
   go_wp2_with fail
   go_ret
   refine ⟨ret_bool ?_,rfl⟩
   simp[storedF,h0,h1]
   by_cases h2:t<128
   ·simp[h2];omega
   ·by_cases h3:255<t
    ·simp[h3];omega
    ·simp[h2,h3];omega
end Go.Proofs.YtjkljpdolhglcaaGreatDoor
