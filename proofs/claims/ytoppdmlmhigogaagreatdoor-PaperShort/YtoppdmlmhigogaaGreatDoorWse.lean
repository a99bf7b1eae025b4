/- Texts laid together, in parts: Ej Ek Layp. -/
import Derived.Test.YtoppdmlmhigogaaGreatDoorWsd
import Derived.Test.YtoppdmlmhigogaaGreatDoorCards
import Derived.Test.YtoppdmlmhigogaaGreatDoorTie
import Derived.ProofKit
import Derived.OpenShut
import Derived.LaidMore
import Derived.LaidOnce
import Derived.LaidSub
import Derived.MakeChecks
import Derived.Stop.LaidErr
import Derived.Deep.DeepHandedRow
import Derived.Deep.DeepWitnessRowRef
import Derived.Lay
set_option maxRecDepth 100000
set_option maxHeartbeats 8000000
set_option linter.unusedVariables false
set_option linter.unusedSimpArgs false
namespace Go.Proofs.YtoppdmlmhigogaaGreatDoor
open Go.ChangeShapes Go.WideShapes Go.ChangeAt Go.RowKit
theorem nrd_none(w:World):NRd w ⟨none,0,0⟩ []:=⟨.inl rfl,rfl,⟨Nat.le_refl _,by decide⟩,fun _=>rfl⟩
theorem urd_none(w:World):URd w ⟨none,0,0⟩ []:=⟨.inl rfl,rfl,⟨Nat.le_refl _,by decide⟩,fun _=>rfl,by simp⟩
theorem trd_none(w:World):TRd w ⟨none,0,0⟩ []:=⟨.inl rfl,rfl,⟨Nat.le_refl _,by decide⟩,fun _=>rfl,by simp⟩
theorem brd_none(w:World):BRd w ⟨none,0,0⟩ []:=⟨⟨.inl rfl,by simp⟩,rfl,⟨Nat.le_refl _,by decide⟩,fun _=>rfl⟩
theorem rrd_raw{W:World}{o b:Sl}{own:List ByteArray}{zs:List Int}{t cl tt:Nat}(h:TRd W o own)(h2:BRd W b zs):RRd W ⟨o,⟨⟨none,0,0⟩,⟨none,0,0⟩,⟨none,0,0⟩,b⟩⟩ ⟨own,t,cl,tt,⟨[],[],[],zs⟩⟩:=⟨h,nrd_none W,urd_none W,trd_none W,h2⟩
theorem rrd_txt{W:World}{o b:Sl}{own ts:List ByteArray}{t cl tt:Nat}(h:TRd W o own)(h2:TRd W b ts):RRd W ⟨o,⟨⟨none,0,0⟩,⟨none,0,0⟩,b,⟨none,0,0⟩⟩⟩ ⟨own,t,cl,tt,⟨[],[],ts,[]⟩⟩:=⟨h,nrd_none W,urd_none W,h2,brd_none W⟩
theorem three_mem(w:World)(n:Nat)(hn:w.heap.size=n):∀(w1 w2 w3 w4 w5 w6 w7 w8 w9 w10:World),
  w1=w.alloc (.cells #[.string ⟨#[97]⟩,.string ⟨#[98]⟩] 9)->w2=w1.alloc (.cells #[.int .u8 1,.int .u8 2,.int .u8 3,.int .u8 4] 5)->
  (∃o,w3=w2.alloc o)->w4=w3.alloc (.cells #[.string ⟨#[97]⟩,.string ⟨#[98]⟩] 9)->w5=w4.alloc (.cells #[.string ⟨#[120]⟩] 9)->
  (∃o,w6=w5.alloc o)->w7=w6.alloc (.cells #[.string ⟨#[98]⟩] 9)->w8=w7.alloc (.cells #[.int .u8 1,.int .u8 2,.int .u8 3,.int .u8 5] 5)->
  (∃o,w9=w8.alloc o)->
  w10=w9.alloc (.cells #[.slice (some ⟨n,0,none⟩) 2 2,.int .u16 1,.int .u16 1,.int .u32 60,.slice none 0 0,.slice none 0 0,.slice none 0 0,.slice (some ⟨n+1,0,none⟩) 4 4,
   .slice (some ⟨n+1+1+1,0,none⟩) 2 2,.int .u16 16,.int .u16 1,.int .u32 60,.slice none 0 0,.slice none 0 0,.slice (some ⟨n+1+1+1+1,0,none⟩) 1 1,.slice none 0 0,
   .slice (some ⟨n+1+1+1+1+1+1,0,none⟩) 1 1,.int .u16 1,.int .u16 3,.int .u32 5,.slice none 0 0,.slice none 0 0,.slice none 0 0,.slice (some ⟨n+1+1+1+1+1+1+1,0,none⟩) 4 4] 43)->
  LRd w10 ⟨some ⟨n+1+1+1+1+1+1+1+1+1,0,none⟩,3,3⟩ [exA,exT,exC]/\Below n w w10:=by
 intro w1 w2 w3 w4 w5 w6 w7 w8 w9 w10 e1 e2 ⟨o3,e3⟩ e4 e5 ⟨o6,e6⟩ e7 e8 ⟨o9,e9⟩ e10
 have s1:w1.heap.size=n+1:=by rw[e1,World.size_alloc,hn]
 have s2:w2.heap.size=n+1+1:=by rw[e2,World.size_alloc,s1]
 have s3:w3.heap.size=n+1+1+1:=by rw[e3,World.size_alloc,s2]
 have s4:w4.heap.size=n+1+1+1+1:=by rw[e4,World.size_alloc,s3]
 have s5:w5.heap.size=n+1+1+1+1+1:=by rw[e5,World.size_alloc,s4]
 have s6:w6.heap.size=n+1+1+1+1+1+1:=by rw[e6,World.size_alloc,s5]
 have s7:w7.heap.size=n+1+1+1+1+1+1+1:=by rw[e7,World.size_alloc,s6]
 have s8:w8.heap.size=n+1+1+1+1+1+1+1+1:=by rw[e8,World.size_alloc,s7]
 have s9:w9.heap.size=n+1+1+1+1+1+1+1+1+1:=by rw[e9,World.size_alloc,s8]
 have b1:Below w.heap.size w w1:=by rw[e1];exact new_below _ _
 have b2:Below w1.heap.size w1 w2:=by rw[e2];exact new_below _ _
 have b3:Below w2.heap.size w2 w3:=by rw[e3];exact new_below _ _
 have b4:Below w3.heap.size w3 w4:=by rw[e4];exact new_below _ _
 have b5:Below w4.heap.size w4 w5:=by rw[e5];exact new_below _ _
 have b6:Below w5.heap.size w5 w6:=by rw[e6];exact new_below _ _
 have b7:Below w6.heap.size w6 w7:=by rw[e7];exact new_below _ _
 have b8:Below w7.heap.size w7 w8:=by rw[e8];exact new_below _ _
 have b9:Below w8.heap.size w8 w9:=by rw[e9];exact new_below _ _
 have b10:Below w9.heap.size w9 w10:=by rw[e10];exact new_below _ _
 have t1:TRd w1 ⟨some ⟨n,0,none⟩,2,2⟩ [lA,lB]:=by
  have:=new_t w [lA,lB] 2 rfl (by omega) (by intro x hx;simp only[List.mem_cons,List.not_mem_nil,or_false] at hx;rcases hx with rfl|rfl <;> decide)
  rw[hn] at this;rw[e1];exact this
 have r2:BRd w2 ⟨some ⟨n+1,0,none⟩,4,4⟩ [1,2,3,4]:=by
  have:=new_b w1 [1,2,3,4] 4 rfl (by omega) (by simp)
  rw[s1] at this;rw[e2];exact this
 have t4:TRd w4 ⟨some ⟨n+1+1+1,0,none⟩,2,2⟩ [lA,lB]:=by
  have:=new_t w3 [lA,lB] 2 rfl (by omega) (by intro x hx;simp only[List.mem_cons,List.not_mem_nil,or_false] at hx;rcases hx with rfl|rfl <;> decide)
  rw[s3] at this;rw[e4];exact this
 have t5:TRd w5 ⟨some ⟨n+1+1+1+1,0,none⟩,1,1⟩ [⟨#[120]⟩]:=by
  have:=new_t w4 [⟨#[120]⟩] 1 rfl (by omega) (by intro x hx;simp only[List.mem_cons,List.not_mem_nil,or_false] at hx;subst hx;decide)
  rw[s4] at this;rw[e5];exact this
 have t7:TRd w7 ⟨some ⟨n+1+1+1+1+1+1,0,none⟩,1,1⟩ [lB]:=by
  have:=new_t w6 [lB] 1 rfl (by omega) (by intro x hx;simp only[List.mem_cons,List.not_mem_nil,or_false] at hx;subst hx;decide)
  rw[s6] at this;rw[e7];exact this
 have r8:BRd w8 ⟨some ⟨n+1+1+1+1+1+1+1,0,none⟩,4,4⟩ [1,2,3,5]:=by
  have:=new_b w7 [1,2,3,5] 4 rfl (by omega) (by simp)
  rw[s7] at this;rw[e8];exact this
 have c89:=b9
 have c79:=b8.trans (c89.mono b8.size)
 have c69:=b7.trans (c79.mono b7.size)
 have c59:=b6.trans (c69.mono b6.size)
 have c49:=b5.trans (c59.mono b5.size)
 have c39:=b4.trans (c49.mono b4.size)
 have c29:=b3.trans (c39.mono b3.size)
 have c19:=b2.trans (c29.mono b2.size)
 have c09:=b1.trans (c19.mono b1.size)
 refine ⟨?_,?_⟩
 ·have h:=lrd_new w9 [(⟨⟨some ⟨n,0,none⟩,2,2⟩,⟨⟨none,0,0⟩,⟨none,0,0⟩,⟨none,0,0⟩,⟨some ⟨n+1,0,none⟩,4,4⟩⟩⟩,exA),(⟨⟨some ⟨n+1+1+1,0,none⟩,2,2⟩,⟨⟨none,0,0⟩,⟨none,0,0⟩,⟨some ⟨n+1+1+1+1,0,none⟩,1,1⟩,⟨none,0,0⟩⟩⟩,exT),(⟨⟨some ⟨n+1+1+1+1+1+1,0,none⟩,1,1⟩,⟨⟨none,0,0⟩,⟨none,0,0⟩,⟨none,0,0⟩,⟨some ⟨n+1+1+1+1+1+1+1,0,none⟩,4,4⟩⟩⟩,exC)] 3 rfl (by omega) (by
   intro p hp
   simp only[List.mem_cons,List.not_mem_nil,or_false] at hp
   rcases hp with rfl|rfl|rfl
   ·exact rrd_raw (t1.below c19) (r2.below c29)
   ·exact rrd_txt (t4.below c49) (t5.below c59)
   ·exact rrd_raw (t7.below c79) (r8.below c89))
  rw[s9] at h
  rw[e10]
  exact h
 ·rw[<- hn]
  exact c09.trans (b10.mono c09.size)
theorem three44(w:World):Calls Tryz.prog 44 #[] w fun e w'=>∃x:Sl,e=.returned (.slice x.a x.n x.c)/\Hid (LRd w' x [exA,exT,exC]/\Below w.heap.size w w'):=by
 go_enter Tryz.func44,Tryz.ntmps44
 go_wp2_with fail
 go_ret
 exact ⟨⟨_,_,_⟩,rfl,three_mem w w.heap.size rfl _ _ _ _ _ _ _ _ _ _ rfl rfl ⟨_,rfl⟩ rfl rfl ⟨_,rfl⟩ rfl rfl ⟨_,rfl⟩ rfl⟩
theorem ex_paper:paperF [lB] [exA,exT,exC]=([36,79,82,73,71,73,78,32,98,46,10,97,32,54,48,32,65,32,49,46,50,46,51,46,52,10,32,54,48,32,84,88,84,32,34,120,34,10,64,32,53,32,67,72,32,65,32,49,46,50,46,51,46,53,10],0):=by kernel_rfl
theorem bd_of{d:Dat}(h1:d.ns=[])(h2:d.us=[])(h3:(nsz d.ts)<=1000)(h4:d.raw.length<=1000):tsum d<=1000000000000->Bd d:=fun h=>⟨by rw[h1];simp,by rw[h1];simp,by rw[h2];simp,h,by omega⟩
theorem exs_ok:∀r∈[exA,exT,exC],PrI r:=by
 intro r hr
 simp only[List.mem_cons,List.not_mem_nil,or_false] at hr
 rcases hr with rfl|rfl|rfl
 all_goals exact ⟨bd_of rfl rfl (by decide +kernel) (by decide +kernel) (by decide +kernel),by decide,by decide,by decide,by decide,by decide +kernel,fun _=>by decide +kernel⟩
theorem awake17(w:World)(hL:LayT w):Calls Tryz.prog 17 #[] w fun e w'=>e=.returned (.bool true)/\Hid (Below w.heap.size w w'):=by
 have HB0:Hid (Below w.heap.size w (w.alloc (.cells #[.string ⟨#[98]⟩] 9))):=new_below _ _
 have HT:Hid (TRd (w.alloc (.cells #[.string ⟨#[98]⟩] 9)) ⟨some ⟨w.heap.size,0,none⟩,1,1⟩ [lB]):=new_t w [lB] 1 rfl (by omega) (by intro x hx;simp only[List.mem_cons,List.not_mem_nil,or_false] at hx;subst hx;decide)
 have K9:Hid (∀W (x:Sl),Below (w.alloc (.cells #[.string ⟨#[98]⟩] 9)).heap.size (w.alloc (.cells #[.string ⟨#[98]⟩] 9)) W->LRd W x [exA,exT,exC]->Calls Tryz.prog 9 #[.slice (some ⟨w.heap.size,0,none⟩) 1 1,.slice x.a x.n x.c] W fun e w'=>e=.returned (.tuple #[.string ⟨#[36,79,82,73,71,73,78,32,98,46,10,97,32,54,48,32,65,32,49,46,50,46,51,46,52,10,32,54,48,32,84,88,84,32,34,120,34,10,64,32,53,32,67,72,32,65,32,49,46,50,46,51,46,53,10]⟩,.int .i64 0])/\Hid (Below W.heap.size W w')):=fun W x hW hx=>by
  have h:=text9_any (some ⟨w.heap.size,0,none⟩) 1 1 [lB] x [exA,exT,exC] W (HT.out.below hW) (by omega) hx exs_ok (hL.below (HB0.out.trans (hW.mono HB0.out.size)))
  rw[ex_paper] at h
  exact h
 clear hL
 go_enter Tryz.func17,Tryz.ntmps17
 go_wp2_with fail
 refine (three44 _).mono ?_
 rintro e w2 ⟨x,rfl,H2⟩
 have KK:=Lib.hid (K9.out w2 x H2.out.2 H2.out.1)
 have HB2:=Lib.hid (HB0.out.trans (H2.out.2.mono HB0.out.size))
 clear K9 H2 HT HB0
 obtain ⟨xa,xn,xc⟩:=x
 simp only at KK ⊢
 go_wp2_with fail
 refine KK.out.mono ?_
 rintro e w3 ⟨rfl,H3⟩
 have HB3:=Lib.hid (HB2.out.trans (H3.out.mono HB2.out.size))
 clear KK HB2 H3
 go_wp2_with fail
 go_ret
 exact ⟨rfl,HB3.out⟩
theorem rel_sl{s:ByteArray}{a:Option Addr}{n c:Nat}{og:List ByteArray}{w:World}(h:s.size<=1000000000)(h':Nm w a n og)(hn:(nrel s og).1.length<=9223372036854775807):Calls Tryz.prog 23 #[.string s,.slice a n c] w fun e w'=>∃x:Sl,e=.returned (.tuple #[.slice x.a x.n x.c,.int .i64 (nrel s og).2])/\Hid (Below w.heap.size w w'/\RdT w' x.a (nrel s og).1/\x.n=(nrel s og).1.length):=by
 refine (prel_any s a n c og w h h').mono ?_
 rintro e w' ⟨v,ys,rfl,H⟩
 obtain ⟨ao,rfl,hnil⟩:=H.out.1.shape
 refine ⟨⟨ao,_,ys.length⟩,rfl,H.out.2.2,?_,rfl⟩
 have hr:=H.out.1.rd (nrel s og).1.length
 rw[H.out.2.1] at hr
 exact hr
theorem shortL(na ga:Option Addr)(nn nc gn gc:Nat)(n og:List ByteArray)(w:World)(h1:TRd w ⟨na,nn,nc⟩ n)(h2:TRd w ⟨ga,gn,gc⟩ og)(hL:LayT w) :
  Calls Tryz.prog 5 #[.slice na nn nc,.slice ga gn gc] w fun e w'=>e=.returned (.bool true)/\Hid (Below w.heap.size w w'):=by
 have K7:=Lib.hid (awake17 w hL)
 by_cases hA:200<nn
 ·have hA':(200:Int)<(nn:Int):=by omega
  clear hL h1 h2
  go_enter Tryz.func5,Tryz.ntmps5
  go_wp2_with fail
  refine K7.out.mono ?_
  rintro e w1 ⟨rfl,H1⟩
  go_wp2_with fail
  go_ret
  exact ⟨rfl,H1.out⟩
 have hA':¬ (200:Int)<(nn:Int):=by omega
 by_cases hB:200<gn
 ·have hB':(200:Int)<(gn:Int):=by omega
  clear hL h1 h2
  go_enter Tryz.func5,Tryz.ntmps5
  go_wp2_with fail
  refine K7.out.mono ?_
  rintro e w1 ⟨rfl,H1⟩
  go_wp2_with fail
  go_ret
  exact ⟨rfl,H1.out⟩
 have hB':¬ (200:Int)<(gn:Int):=by omega
 have HO:Hid (∀W,Below w.heap.size w W->TRd W ⟨na,nn,nc⟩ n/\TRd W ⟨ga,gn,gc⟩ og):=fun W hW=>⟨h1.below hW,h2.below hW⟩
 have HN:Hid (∀W,Below w.heap.size w W->Nw W na nn n/\Nw W ga gn og):=fun W hW=>⟨⟨(h1.below hW).rd,h1.len,by omega,h1.z63⟩,⟨(h2.below hW).rd,h2.len,by omega,h2.z63⟩⟩
 have KS:=Lib.hid (fun W (hW:Below w.heap.size w W)=>short11_any ⟨na,nn,nc⟩ ⟨ga,gn,gc⟩ n og W (h1.below hW) (h2.below hW) (by show nn<=1000;omega) (by show gn<=1000;omega))
 have hl1:n.length=nn:=h1.len
 clear hL h1 h2
 simp only at KS
 by_cases hk:nck n=0
 case neg=>
  have hR:shortF n og=(⟨#[]⟩,nck n):=by unfold shortF;rw[if_pos hk]
  rw[hR] at KS
  have KC:=Lib.hid (fun W (hW:Below w.heap.size w W)=>wcheck nc (HN.out W hW).1)
  generalize nck n=q at*
  have hq:(q != 0)=true:=bne_iff_ne.2 hk
  clear hR hk HO HN
  go_enter Tryz.func5,Tryz.ntmps5
  go_wp2_with fail
  refine K7.out.mono ?_
  rintro e w1 ⟨rfl,H1⟩
  go_wp2_with fail
  refine (KS.out _ H1.out).mono ?_
  rintro e w2 ⟨rfl,H2⟩
  have HB2:=Lib.hid (H1.out.trans (H2.out.mono H1.out.size))
  go_wp2_with fail
  refine (KC.out _ HB2.out).mono ?_
  rintro e w3 ⟨rfl,rfl⟩
  go_wp2_with fail
  go_ret
  exact ⟨rfl,HB2.out⟩
 by_cases hg:nck og=0
 case neg=>
  have hR:shortF n og=(⟨#[]⟩,nck og):=by unfold shortF;rw[if_neg (fun e=>e hk),if_pos hg]
  rw[hR] at KS
  have KC:=Lib.hid (fun W (hW:Below w.heap.size w W)=>wcheck nc (HN.out W hW).1)
  have KG:=Lib.hid (fun W (hW:Below w.heap.size w W)=>wcheck gc (HN.out W hW).2)
  rw[hk] at KC
  generalize nck og=q at*
  have hq:(q != 0)=true:=bne_iff_ne.2 hg
  clear hR hk hg HO HN
  go_enter Tryz.func5,Tryz.ntmps5
  go_wp2_with fail
  refine K7.out.mono ?_
  rintro e w1 ⟨rfl,H1⟩
  go_wp2_with fail
  refine (KS.out _ H1.out).mono ?_
  rintro e w2 ⟨rfl,H2⟩
  have HB2:=Lib.hid (H1.out.trans (H2.out.mono H1.out.size))
  go_wp2_with fail
  refine (KC.out _ HB2.out).mono ?_
  rintro e w3 ⟨rfl,rfl⟩
  go_wp2_with fail
  refine (KG.out _ HB2.out).mono ?_
  rintro e w3 ⟨rfl,rfl⟩
  go_wp2_with fail
  go_ret
  exact ⟨rfl,HB2.out⟩
 have hR:shortF n og=(shF n og,0):=by unfold shortF;rw[if_neg (fun e=>e hk),if_neg (fun e=>e hg)]
 rw[hR] at KS
 have hsr:=sh_rel hk hg
 have hsl:=sh_len hk hg
 have htz:=text_size hk
 have e1:(ntext n).2=0:=by unfold ntext;rw[if_pos hk];split <;> rfl
 have KT:=Lib.hid (fun W (hW:Below w.heap.size w W)=>ptext_any na nn nc n W ((HN.out W hW).1.nm hk))
 rw[e1] at KT
 have KR:=Lib.hid (fun W (hW:Below w.heap.size w W)=>rel_sl (s:=shF n og) (c:=gc) (by omega) ((HN.out W hW).2.nm hg) (by rw[hsr];show n.length<=_;omega))
 simp only[hsr] at KR
 have KM:=Lib.hid (fun W (x:Sl) (hx:RdT W x.a n) (hW:Below w.heap.size w W)=>sameN_yes x.a na nn x.c nc n W hx (HO.out W hW).1.rd hl1 (by omega))
 have hle:((shF n og).size:Int)<=((ntext n).1.size:Int):=by omega
 generalize (ntext n).1=TX at*
 generalize shF n og=SX at*
 clear hR hsr hsl htz e1 hk hg HO HN
 go_enter Tryz.func5,Tryz.ntmps5
 go_wp2_with fail
 refine K7.out.mono ?_
 rintro e w1 ⟨rfl,H1⟩
 go_wp2_with fail
 refine (KS.out _ H1.out).mono ?_
 rintro e w2 ⟨rfl,H2⟩
 have HB2:=Lib.hid (H1.out.trans (H2.out.mono H1.out.size))
 go_wp2_with fail
 refine (KR.out _ HB2.out).mono ?_
 rintro e w3 ⟨⟨xa,xn,xc⟩,rfl,H3⟩
 have HB3:=Lib.hid (HB2.out.trans (H3.out.1.mono HB2.out.size))
 have hxn:xn=nn:=H3.out.2.2.trans hl1
 subst hxn
 go_wp2_with fail
 refine (KT.out _ HB3.out).mono ?_
 rintro e w4 ⟨rfl,H4⟩
 have HB4:=Lib.hid (HB3.out.trans (H4.out.mono HB3.out.size))
 have KQ:=Lib.hid (KM.out w4 ⟨xa,xn,xc⟩ (H3.out.2.1.below H4.out) HB4.out)
 go_wp2_with fail
 refine KQ.out.mono ?_
 rintro e w5 ⟨rfl,H5⟩
 have HB5:=Lib.hid (HB4.out.trans (H5.out.mono HB4.out.size))
 clear KQ KM KT KR KS
 go_wp2_with fail
 go_ret
 exact ⟨rfl,HB5.out⟩
theorem d_own:ownKnob Tryz.prog.godebug=none:=by kernel_rfl
theorem tPow:(Tryz.prog.globals[1]?).map (·.type)=some 214:=by kernel_rfl
theorem tSp:(Tryz.prog.globals[2]?).map (·.type)=some 221:=by kernel_rfl
theorem gBru : Tryz.prog.globalNamed "math/bits.deBruijn64tab" = some 5 := by kernel_rfl
theorem tBru:(Tryz.prog.globals[5]?).map (·.type)=some 248:=by kernel_rfl
theorem c5:Tryz.prog.cellsOf 5=1:=by kernel_rfl
theorem c221:Tryz.prog.cellsOf 221=256:=by kernel_rfl
theorem c116:Tryz.prog.cellsOf 116=1:=by kernel_rfl
theorem c214:Tryz.prog.cellsOf 214=20:=by kernel_rfl
theorem c248:Tryz.prog.cellsOf 248=64:=by kernel_rfl
theorem powD:(Rows.laid_internal_strconv_uint64pow10:DataW Unit)=Lib.tabData .u64 Lib.pow10Tab:=by kernel_rfl
theorem spD:(Rows.laid_strings_asciiSpace:DataW Unit)=Lib.tabData .u8 Lib.asciiSpaceTab:=by kernel_rfl
abbrev bruTab:List Int:=[0,1,56,2,57,49,28,3,61,58,42,50,38,29,17,4,62,47,59,36,45,43,51,22,53,39,33,30,24,18,12,5,63,55,48,27,60,41,37,16,46,35,44,21,52,32,23,11,54,26,40,15,34,20,31,10,25,14,19,9,13,8,7,6]
theorem bruD:(Rows.laid_math_bits_deBruijn64tab:DataW Unit)=Lib.tabData .u8 bruTab:=by kernel_rfl
theorem met_bru {r : List (String × DataW Unit)} {W : World} (h : laidMet Tryz.prog (("math/bits.deBruijn64tab", Rows.laid_math_bits_deBruijn64tab) :: r) W) : 5 < W.heap.size /\ W.cell? ⟨5, 15, none⟩ = some (.int .u8 4) := by
  rw [bruD] at h
  have h1 := Lib.tabIs_of_head gBru tBru Tryz.underlying248 Tryz.underlying5 c5 c248 h
  unfold Lib.TabIs World.var? at h1
  rw [gBru] at h1
  simp only [Option.bind_some] at h1
  have key : ∃ cs t z, W.heap[5]? = some (.cells cs t z) /\ cs = (bruTab.map fun z => Value.int .u8 z).toArray := by
    cases hh : W.heap[5]? with
    | none => rw [hh] at h1; cases h1
    | some o =>
      rw [hh] at h1
      cases o with
      | cells cs t z => exact ⟨cs, t, z, rfl, Option.some.inj h1⟩
      | _ => cases h1
  obtain ⟨cs, t, z, e1, e2⟩ := key
  refine ⟨(Array.getElem?_eq_some_iff.1 e1).1, ?_⟩
  unfold World.cell?
  rw [show W.heap[(⟨5, 15, none⟩ : Addr).block]? = _ from e1, e2]
  rfl
theorem met_pow {r : List (String × DataW Unit)} {W : World} (h : laidMet Tryz.prog (("internal/strconv.uint64pow10", Rows.laid_internal_strconv_uint64pow10) :: r) W) : Lib.TabIs Tryz.prog W "internal/strconv.uint64pow10" .u64 Lib.pow10Tab := by
  rw [powD] at h
  exact Lib.tabIs_of_head gPow tPow Tryz.underlying214 Tryz.underlying116 c116 c214 h
theorem met_sp {r : List (String × DataW Unit)} {W : World} (h : laidMet Tryz.prog (("strings.asciiSpace", Rows.laid_strings_asciiSpace) :: r) W) : Lib.TabIs Tryz.prog W "strings.asciiSpace" .u8 Lib.asciiSpaceTab := by
  rw [spD] at h
  exact Lib.tabIs_of_head gSp tSp Tryz.underlying221 Tryz.underlying5 c5 c221 h
abbrev laid5 : List (String × DataW Unit) := [("math/bits.deBruijn32tab", Rows.laid_math_bits_deBruijn32tab), ("math/bits.deBruijn64tab", Rows.laid_math_bits_deBruijn64tab), ("internal/strconv.uint64pow10", Rows.laid_internal_strconv_uint64pow10), ("unicode.White_Space", Rows.laid_unicode_White_Space), ("strings.asciiSpace", Rows.laid_strings_asciiSpace)]
theorem plain5:(laid5.all fun x=>x.2.handleName?.isNone)=true:=by kernel_rfl
theorem lay5{W:World}(h:laidMetH Tryz.prog laid5 W)(hs:W.ShapedOpen Tryz.prog):LayT W:=by
 rw[MakeChecks.laidMetH_plain _ _ _ plain5] at h
 exact ⟨met_pow h.tail.tail,met_sp h.tail.tail.tail.tail,met_bru h.tail⟩
theorem all_met5(os:Os)(args:Array Value):laidMetH Tryz.prog laid5 ((World.laidAll Tryz.prog os laid5).forCall (fun _ _=>0) ⟨#[],args,[]⟩).memory:=by
 rw[MakeChecks.laidMetH_plain _ _ _ plain5]
 exact laidMet_laidAll args (by kernel_rfl) (by kernel_rfl)
end Go.Proofs.YtoppdmlmhigogaaGreatDoor
