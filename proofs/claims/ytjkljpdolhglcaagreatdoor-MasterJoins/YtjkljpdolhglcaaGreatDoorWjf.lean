/- Texts laid together, in parts: Hq Nxk Qa Sd Ak Qb Qd Qc Gr Sp Ly Pq Un Qv Qj Qk Ya Yb. -/
import Derived.Test.YtjkljpdolhglcaaGreatDoorWje
import Derived.Deep.CutBlock
import Derived.Deep.QuietTactic
import Derived.BigQuiet
import Derived.Deep.RegionHeld3
import Derived.Lib.ItoaNum
import Derived.Lib.AtoiTie
import Derived.Lib.AtoiBound
import Derived.Lib.SmallJoins
import Derived.Lib.AppendIntMem
import Derived.Lib.AtoiAllMem
import Derived.Lib.Bytealg
import Derived.WalkLawsBesides
import Derived.Lib.MakeNoZero
import Derived.Lib.Builder
import Derived.Lib.UnsafeStr
set_option maxRecDepth 100000
set_option maxHeartbeats 8000000
set_option linter.unusedVariables false
set_option linter.unusedSimpArgs false
namespace Go.Proofs.YtjkljpdolhglcaaGreatDoor
open Go.ChangeShapes Go.WideShapes Go.ChangeAt Go.RowKit
theorem nread_small(zs:List Int)(p:Int):(nread zs p).1.length<=255:=by
 unfold nread
 split
 ·simp
 ·split
  ·simp
  ·split
   ·rename_i h
    have h1:=(nck_small h).1
    have h2:=nsz_len ‹List ByteArray›
    simp only
    omega
   ·simp
theorem pnms_small(zs:List Int)(len:Nat)(st:Option Nat):∀k,∀n∈(pnms zs len st k).1,n.length<=255
 |0=>by simp[pnms]
 |k+1=>by
  intro n hn
  simp only[pnms,List.mem_append,List.mem_singleton] at hn
  rcases hn with hn|hn
  ·exact pnms_small zs len st k n hn
  ·subst hn;exact nread_small _ _
theorem ptxF_small(zs:List Int):∀(k:Nat) (st:Option Nat),(ptxF zs zs.length k st).1.length<=k/\∀s∈(ptxF zs zs.length k st).1,s.size<=zs.length
 |0,st=>by simp[ptxF]
 |k+1,st=>by
  by_cases h:0<lft zs.length st
  ·have ih:=ptxF_small zs k (mv zs.length (mv zs.length st 1) (val (tk zs st 1)))
   unfold ptxF
   rw[if_pos h]
   refine ⟨by simp;exact ih.1,?_⟩
   intro s hs
   simp only[List.mem_cons] at hs
   rcases hs with rfl|hs
   ·rw[lb_size];exact tk_size zs zs.length rfl _ _
   ·exact ih.2 s hs
  ·rw[ptxF_end zs zs.length (k+1) st h];simp
theorem tsum_small(l:List ByteArray)(m:Nat)(h:∀s∈l,s.size<=m):(l.map tz).sum<=l.length*(m+1):=by
 have:=sum_le (l.map tz) (m+1) (by
  intro x hx
  obtain ⟨s,hs,rfl⟩:=List.mem_map.1 hx
  have:=h s hs
  simp only[tz];omega)
 simpa using this
theorem pread_bd(t:Nat)(zs:List Int)(hl:zs.length<=65535):Bd (pread (fs t) zs zs.length).1:=by
 have hfc:(fs t).nf<=(fs t).nn/\(fs t).nn<=2/\(fs t).nu<=5:=by
  rcases fs_cases t with ⟨_,e⟩|⟨_,e⟩|⟨_,e⟩|⟨_,e⟩|⟨_,e⟩|⟨_,e⟩|⟨_,e⟩|⟨_,e⟩|⟨_,e⟩ <;> rw[e] <;> simp
 refine ⟨?_,?_,?_,?_,?_⟩
 ·show (_++_:List (List ByteArray)).length<=1000
  rw[List.length_append,pnms_len,pnms_len];omega
 ·intro x hx
  have hx':x∈(_++_:List (List ByteArray)):=hx
  rcases List.mem_append.1 hx' with h|h
  ·have:=pnms_small _ _ _ _ x h;omega
  ·have:=pnms_small _ _ _ _ x h;omega
 ·show (pnus _ _ _ _ _).1.length<=1000
  rw[pnus_len];omega
 ·have h:∀st,((ptxs (fs t) zs zs.length st).1.length<=65537/\∀s∈(ptxs (fs t) zs zs.length st).1,s.size<=65535):=by
   intro st
   unfold ptxs
   split
   ·have:=ptxF_small zs (zs.length+1) st
    exact ⟨by omega,fun s hs=>by have:=this.2 s hs;omega⟩
   ·split
    ·refine ⟨by rw[ptx2_len];omega,?_⟩
     intro s hs
     simp only[ptx2,List.mem_cons,List.not_mem_nil,or_false] at hs
     rcases hs with rfl|rfl
     ·have:=tk_size zs zs.length rfl (mv zs.length st 1) (val (tk zs st 1))
      rw[lb_size];omega
     ·have:=tk_size zs zs.length rfl (mv zs.length (mv zs.length st 1) (val (tk zs st 1))) (lft zs.length (mv zs.length (mv zs.length st 1) (val (tk zs st 1))))
      rw[lb_size];omega
    ·simp
  have h2:=h (pnms zs zs.length (pnus zs zs.length (pnms zs zs.length (some 0) (fs t).nf).2 (fs t).wd (fs t).nu).2 ((fs t).nn - (fs t).nf)).2
  have h3:=tsum_small _ 65535 h2.2
  show ((ptxs (fs t) zs zs.length (pnms zs zs.length (pnus zs zs.length (pnms zs zs.length (some 0) (fs t).nf).2 (fs t).wd (fs t).nu).2 ((fs t).nn - (fs t).nf)).2).1.map tz).sum<=_
  have h4:=Nat.mul_le_mul_right (65535+1) h2.1
  omega
 ·show (List.length (if (fs t).nr=0 then (([]:List Int),_) else (_,_)).1)<=_
  split
  ·simp
  ·have:=tk_size zs zs.length rfl (ptxs (fs t) zs zs.length (pnms zs zs.length (pnus zs zs.length (pnms zs zs.length (some 0) (fs t).nf).2 (fs t).wd (fs t).nu).2 ((fs t).nn - (fs t).nf)).2).2 (lft zs.length (ptxs (fs t) zs zs.length (pnms zs zs.length (pnus zs zs.length (pnms zs zs.length (some 0) (fs t).nf).2 (fs t).wd (fs t).nu).2 ((fs t).nn - (fs t).nf)).2).2)
   simp only
   omega
def nilD:Dat:=⟨[],[],[],[]⟩
def readF(t:Nat)(zs:List Int):Dat × Int:=if mayT t then (if zs.length<=65535 then (match dreadF t zs with|some d=>(d,0)|none=>(nilD,8)) else (nilD,8)) else (nilD,6)
def RdP(r:Dat × Int)(w:World)(e:Ending)(w':World):Prop:=∃x:DA,e=.returned (.tuple #[.agg #[.slice x.p1.a x.p1.n x.p1.c,.slice x.p2.a x.p2.n x.p2.c,.slice x.p3.a x.p3.n x.p3.c,.slice x.p4.a x.p4.n x.p4.c],.int .i64 r.2])/\Hid (DOwn w.heap.size w' x r.1/\Below w.heap.size w w')
theorem nil_down(B:Nat)(w:World):DOwn B w nilDA nilD:=⟨OwnN.nil B w,nil_uown B w,⟨[],OwnT.nil _ _ _,rfl⟩,bown_nil _ _⟩
theorem rdp_nil{w w':World}{c:Int}(hb:Below w.heap.size w w'):RdP (nilD,c) w (.returned (.tuple #[.agg #[.slice none 0 0,.slice none 0 0,.slice none 0 0,.slice none 0 0],.int .i64 c])) w':=⟨nilDA,rfl,nil_down _ _,hb⟩
theorem readF_at(t:Nat)(zs:List Int)(hb:∀z∈zs,0<=z/\z<=255)(hm:mayT t=true)(hl:zs.length<=65535):readF t zs=if (pread (fs t) zs zs.length).2=some zs.length then (if checkF t (pread (fs t) zs zs.length).1=0 then ((pread (fs t) zs zs.length).1,0) else (nilD,8)) else (nilD,8):=by
 unfold readF
 rw[if_pos hm,if_pos hl,<- pread_doc t zs hb]
 by_cases h1:(pread (fs t) zs zs.length).2=some zs.length
 ·by_cases h2:checkF t (pread (fs t) zs zs.length).1=0
  ·rw[if_pos ⟨h1,h2⟩,if_pos h1,if_pos h2]
  ·rw[if_neg (fun h=>h2 h.2),if_pos h1,if_neg h2]
 ·rw[if_neg (fun h=>h1 h.1),if_neg h1]
theorem read5_no(t:Nat)(a:Option Addr)(len cap:Nat)(zs:List Int)(w:World)(hl:zs.length=len)(hlm:len<=9223372036854775807)(h:mayT t=false∨65535<len) :
  Calls Tryz.prog 153 #[.int .u16 t,.slice a len cap] w (RdP (readF t zs) w):=by
 have KH:Hid (∀W,Calls Tryz.prog 137 #[.int .u16 t] W fun e w'=>e=.returned (.bool (mayT t))/\w'=W):=fun W=>hasdata_any t W
 by_cases hm:mayT t=false
 ·have e:readF t zs=(nilD,6):=by unfold readF;rw[if_neg (by simp[hm])]
  rw[e]
  rw[hm] at KH
  clear e
  go_enter Tryz.func153,Tryz.ntmps153
  go_wp2_with (go_at_call 137;refine (KH.out _).mono ?_;rintro e w' ⟨rfl,rfl⟩)
  exact bodyPost_ret (v:=.tuple #[.agg #[.slice none 0 0,.slice none 0 0,.slice none 0 0,.slice none 0 0],.int .i64 6]) (by simp[results,Tryz.results153,go_sem]) rfl (rdp_nil (new_below _ _))
 ·have hm':mayT t=true:=by simpa using hm
  have hgt:65535<len:=h.resolve_left hm
  have hgt':(65535:Int)<(len:Int):=by omega
  have e:readF t zs=(nilD,8):=by unfold readF;rw[if_pos hm',if_neg (by omega)]
  rw[e]
  rw[hm'] at KH
  clear e
  go_enter Tryz.func153,Tryz.ntmps153
  go_wp2_with (go_at_call 137;refine (KH.out _).mono ?_;rintro e w' ⟨rfl,rfl⟩)
  exact bodyPost_ret (v:=.tuple #[.agg #[.slice none 0 0,.slice none 0 0,.slice none 0 0,.slice none 0 0],.int .i64 8]) (by simp[results,Tryz.results153,go_sem]) rfl (rdp_nil (new_below _ _))
theorem ret4{w W:World}{b:Nat}{y:DA}(h:DBlk W b y)(hb:Below w.heap.size w W)(hw:w.heap.size<=b)(x:DA):DBlk (set4 W b x) b x/\Below w.heap.size w (set4 W b x):=
 ⟨set4_blk h x,(((hb.setCell (p:=⟨b,0,none⟩) hw _).setCell (p:=⟨b,1,none⟩) hw _).setCell (p:=⟨b,2,none⟩) hw _).setCell (p:=⟨b,3,none⟩) hw _⟩
theorem DOwn.ret4{B B':Nat}{W:World}{b:Nat}{x:DA}{d:Dat}(h:DOwn B W x d)(hb:b<B)(hB:B'<=B):DOwn B' (set4 W b x) x d:=(h.keep (fun j hj _=>set4_off W b x j (by omega))).mono hB
theorem DOwn.stays{B:Nat}{w w':World}{x:DA}{d:Dat}(h:DOwn B w x d)(hb:Below w.heap.size w w'):DOwn B w' x d:=h.keep fun j _ hj=>hb.block j hj
theorem read5_in(t:Nat)(a:Option Addr)(len cap:Nat)(zs:List Int)(w:World)(hr:Rd w a zs)(hl:zs.length=len)(hm:len<=65535)(hc:len<=cap/\cap<=9223372036854775807)(hnil:a=none->cap=0)(hmay:mayT t=true) :
  Calls Tryz.prog 153 #[.int .u16 t,.slice a len cap] w (RdP (readF t zs) w):=by
 have KH:Hid (∀W,Calls Tryz.prog 137 #[.int .u16 t] W fun e w'=>e=.returned (.bool true)/\w'=W):=fun W=>by have:=hasdata_any t W;rw[hmay] at this;exact this
 have KO:Hid (∀W,Calls Tryz.prog 138 #[.int .u16 t] W fun e w'=>e=.returned (.agg #[.int .i64 (fs t).nn,.int .i64 (fs t).nf,.int .i64 (fs t).nu,.int .i64 (fs t).wd,.int .i64 (fs t).nt,.int .i64 (fs t).tg,.int .i64 (fs t).tl,.int .i64 (fs t).nr])/\Hid (Below W.heap.size W w')):=fun W=>fieldsof_any t W
 have KR:Hid (∀W,Rd W a zs->Calls Tryz.prog 171 #[.agg #[.int .i64 (fs t).nn,.int .i64 (fs t).nf,.int .i64 (fs t).nu,.int .i64 (fs t).wd,.int .i64 (fs t).nt,.int .i64 (fs t).tg,.int .i64 (fs t).tl,.int .i64 (fs t).nr],.slice a len cap] W fun e w'=>∃x:DA,e=.returned (.tuple #[.agg #[.slice x.p1.a x.p1.n x.p1.c,.slice x.p2.a x.p2.n x.p2.c,.slice x.p3.a x.p3.n x.p3.c,.slice x.p4.a x.p4.n x.p4.c],.bool (decide ((pread (fs t) zs len).2=some len))])/\Hid (DOwn W.heap.size w' x (pread (fs t) zs len).1/\Below W.heap.size W w')):=fun W hW=>pread_fields t a len cap zs W hW hl hm hc hnil
 have KC:Hid (∀W x,DRd W x (pread (fs t) zs len).1->Calls Tryz.prog 112 #[.int .u16 t,.agg #[.slice x.p1.a x.p1.n x.p1.c,.slice x.p2.a x.p2.n x.p2.c,.slice x.p3.a x.p3.n x.p3.c,.slice x.p4.a x.p4.n x.p4.c]] W fun e w'=>e=.returned (.int .i64 (checkF t (pread (fs t) zs len).1))/\Hid (Below W.heap.size W w')):=fun W x hd=>check_any t x _ W hd (by rw[<- hl];exact pread_bd t zs (by omega))
 have HRF:=readF_at t zs hr.2 hmay (by omega)
 rw[hl] at HRF
 have HB1:=new_below w (.cells #[.slice none 0 0,.slice none 0 0,.slice none 0 0,.slice none 0 0] 48)
 have HR1:Hid (Rd (w.alloc (.cells #[.slice none 0 0,.slice none 0 0,.slice none 0 0,.slice none 0 0] 48)) a zs):=hr.below HB1
 have HD1:Hid (DBlk (w.alloc (.cells #[.slice none 0 0,.slice none 0 0,.slice none 0 0,.slice none 0 0] 48)) w.heap.size nilDA/\Below w.heap.size w (w.alloc (.cells #[.slice none 0 0,.slice none 0 0,.slice none 0 0,.slice none 0 0] 48))):=⟨heap_alloc_new _ _,HB1⟩
 have HR:Hid (readF t zs=_):=HRF
 clear HRF hr HB1
 generalize readF t zs=RR at*
 generalize checkF t (pread (fs t) zs len).1=C at*
 generalize pread (fs t) zs len=PR at*
 generalize (fs t)=f at*
 obtain ⟨nn,nf,nu,wd,nt,tg,tl,nr⟩:=f
 obtain ⟨d,st⟩:=PR
 simp only at KO KR KC HR
 have hle:¬ (65535:Int)<(len:Int):=by omega
 go_enter Tryz.func153,Tryz.ntmps153
 go_wp2_with (go_at_call 137;refine (KH.out _).mono ?_;rintro e w' ⟨rfl,rfl⟩)
 generalize (w.alloc (.cells #[.slice none 0 0,.slice none 0 0,.slice none 0 0,.slice none 0 0] 48))=W1 at*
 obtain ⟨b,hb⟩:∃b,b=w.heap.size:=⟨_,rfl⟩
 rw[<- hb] at HD1 ⊢
 have Hb:Hid (b=w.heap.size):=hb
 clear hb
 refine (KO.out _).mono ?_
 rintro e W2 ⟨rfl,H2⟩
 have HD2:Hid (DBlk W2 b nilDA/\Below w.heap.size w W2/\Rd W2 a zs):=⟨HD1.out.1.same (H2.out.block b HD1.out.1.lt),by have:=HD1.out.2;rw[Hb.out] at this;exact this.trans (H2.out.mono this.size),HR1.out.below H2.out⟩
 clear HD1 HR1 H2 KO KH
 go_wp2_with fail
 refine (KR.out _ HD2.out.2.2).mono ?_
 rintro e W3 ⟨x,rfl,H3⟩
 have hn3:=new_below W3 (.cells #[.slice x.p1.a x.p1.n x.p1.c,.slice x.p2.a x.p2.n x.p2.c,.slice x.p3.a x.p3.n x.p3.c,.slice x.p4.a x.p4.n x.p4.c] 48)
 have HD3:Hid (DBlk (W3.alloc (.cells #[.slice x.p1.a x.p1.n x.p1.c,.slice x.p2.a x.p2.n x.p2.c,.slice x.p3.a x.p3.n x.p3.c,.slice x.p4.a x.p4.n x.p4.c] 48)) b nilDA/\DBlk (W3.alloc (.cells #[.slice x.p1.a x.p1.n x.p1.c,.slice x.p2.a x.p2.n x.p2.c,.slice x.p3.a x.p3.n x.p3.c,.slice x.p4.a x.p4.n x.p4.c] 48)) W3.heap.size x/\Below w.heap.size w (W3.alloc (.cells #[.slice x.p1.a x.p1.n x.p1.c,.slice x.p2.a x.p2.n x.p2.c,.slice x.p3.a x.p3.n x.p3.c,.slice x.p4.a x.p4.n x.p4.c] 48))/\DOwn W2.heap.size (W3.alloc (.cells #[.slice x.p1.a x.p1.n x.p1.c,.slice x.p2.a x.p2.n x.p2.c,.slice x.p3.a x.p3.n x.p3.c,.slice x.p4.a x.p4.n x.p4.c] 48)) x d/\b<W3.heap.size/\b<W2.heap.size):=by
  obtain ⟨p1,p2,p3⟩:=HD2.out
  obtain ⟨q1,q2⟩:=H3.out
  have hbl:=p1.lt
  refine ⟨(p1.same (q2.block b hbl)).same (hn3.block b (Nat.lt_of_lt_of_le hbl q2.size)),heap_alloc_new _ _,(p2.trans (q2.mono p2.size)).trans (hn3.mono (Nat.le_trans p2.size q2.size)),q1.stays hn3,Nat.lt_of_lt_of_le hbl q2.size,hbl⟩
 clear hn3 H3 KR
 have hbne:¬ b=W3.heap.size:=by have:=HD3.out.2.2.2.2;omega
 have hbne2:¬ W3.heap.size=b:=by omega
 by_cases hw:st=some len
 ·have hdw:decide (st=some len)=true:=by simp[hw]
  have HR2:Hid (RR=if C=0 then (d,0) else (nilD,8)):=by have:=HR.out;rw[if_pos hw] at this;exact this
  clear HR hw
  rw[hdw]
  clear hdw
  go_upto_region 6 with fail
  generalize (W3.alloc (.cells #[.slice x.p1.a x.p1.n x.p1.c,.slice x.p2.a x.p2.n x.p2.c,.slice x.p3.a x.p3.n x.p3.c,.slice x.p4.a x.p4.n x.p4.c] 48))=W4 at*
  obtain ⟨D,hD⟩:∃D,D=W3.heap.size:=⟨_,rfl⟩
  rw[<- hD] at HD3 hbne hbne2 ⊢
  clear hD
  have hbl:=HD3.out.2.2.2.2.2
  have KC2:=KC.out W4 x HD3.out.2.2.2.1.rd
  have HKC:Hid (Calls Tryz.prog 112 #[.int .u16 t,.agg #[.slice x.p1.a x.p1.n x.p1.c,.slice x.p2.a x.p2.n x.p2.c,.slice x.p3.a x.p3.n x.p3.c,.slice x.p4.a x.p4.n x.p4.c]] W4 fun e w'=>e=.returned (.int .i64 C)/\Hid (Below W4.heap.size W4 w')):=KC2
  clear KC KC2
  have d0:W4.cell? ⟨D,0,none⟩=some (.slice x.p1.a x.p1.n x.p1.c):=HD3.out.2.1.box.1
  have d1:W4.cell? ⟨D,1,none⟩=some (.slice x.p2.a x.p2.n x.p2.c):=HD3.out.2.1.box.2.1
  have d2:W4.cell? ⟨D,2,none⟩=some (.slice x.p3.a x.p3.n x.p3.c):=HD3.out.2.1.box.2.2.1
  have d3:W4.cell? ⟨D,3,none⟩=some (.slice x.p4.a x.p4.n x.p4.c):=HD3.out.2.1.box.2.2.2.1
  go_wp2_with fail
  refine HKC.out.mono ?_
  rintro e W5 ⟨rfl,H5⟩
  have HRB:Hid (DBlk W5 b nilDA):=HD3.out.1.same (H5.out.block b HD3.out.1.lt)
  have HBW:Hid (Below w.heap.size w W5):=HD3.out.2.2.1.trans (H5.out.mono HD3.out.2.2.1.size)
  have HDD:Hid (DBlk W5 D x):=HD3.out.2.1.same (H5.out.block D HD3.out.2.1.lt)
  have HOW:Hid (DOwn W2.heap.size W5 x d):=HD3.out.2.2.2.1.stays H5.out
  clear HKC HD3 H5 d0 d1 d2 d3
  have d0:W5.cell? ⟨D,0,none⟩=some (.slice x.p1.a x.p1.n x.p1.c):=HDD.out.box.1
  have d1:W5.cell? ⟨D,1,none⟩=some (.slice x.p2.a x.p2.n x.p2.c):=HDD.out.box.2.1
  have d2:W5.cell? ⟨D,2,none⟩=some (.slice x.p3.a x.p3.n x.p3.c):=HDD.out.box.2.2.1
  have d3:W5.cell? ⟨D,3,none⟩=some (.slice x.p4.a x.p4.n x.p4.c):=HDD.out.box.2.2.2.1
  have r0:W5.cell? ⟨b,0,none⟩=some (.slice none 0 0):=HRB.out.box.1
  have r1:W5.cell? ⟨b,1,none⟩=some (.slice none 0 0):=HRB.out.box.2.1
  have r2:W5.cell? ⟨b,2,none⟩=some (.slice none 0 0):=HRB.out.box.2.2.1
  have r3:W5.cell? ⟨b,3,none⟩=some (.slice none 0 0):=HRB.out.box.2.2.2.1
  have z0:=HRB.out.fz 0
  have z1:=HRB.out.fz 1
  have z2:=HRB.out.fz 2
  have z3:=HRB.out.fz 3
  have hl5:=HRB.out.lt
  by_cases hC:C=0
  ·have hC':(C != 0)=false:=by simp[hC]
   have HR2':Hid (RR=(d,0)):=by have:=HR2.out;rw[if_pos hC] at this;exact this
   clear HR2
   have HR2:Hid (RR=(d,0)):=HR2'.out
   clear HR2'
   have HC0:Hid (C=0):=hC
   clear hC
   go_wp2_with fail
   have HX:Hid (DBlk ((((W5.setCell ⟨b,0,none⟩ (.slice x.p1.a x.p1.n x.p1.c)).setCell ⟨b,1,none⟩ (.slice x.p2.a x.p2.n x.p2.c)).setCell ⟨b,2,none⟩ (.slice x.p3.a x.p3.n x.p3.c)).setCell ⟨b,3,none⟩ (.slice x.p4.a x.p4.n x.p4.c)) b x/\Below w.heap.size w ((((W5.setCell ⟨b,0,none⟩ (.slice x.p1.a x.p1.n x.p1.c)).setCell ⟨b,1,none⟩ (.slice x.p2.a x.p2.n x.p2.c)).setCell ⟨b,2,none⟩ (.slice x.p3.a x.p3.n x.p3.c)).setCell ⟨b,3,none⟩ (.slice x.p4.a x.p4.n x.p4.c))):=ret4 HRB.out HBW.out (by have:=Hb.out;omega) x
   have HY:Hid (DOwn w.heap.size ((((W5.setCell ⟨b,0,none⟩ (.slice x.p1.a x.p1.n x.p1.c)).setCell ⟨b,1,none⟩ (.slice x.p2.a x.p2.n x.p2.c)).setCell ⟨b,2,none⟩ (.slice x.p3.a x.p3.n x.p3.c)).setCell ⟨b,3,none⟩ (.slice x.p4.a x.p4.n x.p4.c)) x d):=(HOW.out).ret4 (by omega) (by have:=Hb.out;omega)
   clear HRB HBW
   generalize ((((W5.setCell ⟨b,0,none⟩ (.slice x.p1.a x.p1.n x.p1.c)).setCell ⟨b,1,none⟩ (.slice x.p2.a x.p2.n x.p2.c)).setCell ⟨b,2,none⟩ (.slice x.p3.a x.p3.n x.p3.c)).setCell ⟨b,3,none⟩ (.slice x.p4.a x.p4.n x.p4.c))=W9 at*
   have k0:=HX.out.1.box.1
   have k1:=HX.out.1.box.2.1
   have k2:=HX.out.1.box.2.2.1
   have k3:=HX.out.1.box.2.2.2.1
   try simp only at k0 k1 k2 k3
   exact bodyPost_ret (v:=.tuple #[.agg #[.slice x.p1.a x.p1.n x.p1.c,.slice x.p2.a x.p2.n x.p2.c,.slice x.p3.a x.p3.n x.p3.c,.slice x.p4.a x.p4.n x.p4.c],.int .i64 0]) (by simp[results,Tryz.results153,go_sem,k0,k1,k2,k3]) rfl (by rw[HR2.out];exact ⟨x,rfl,HY.out,HX.out.2⟩)
  ·have hC':(C != 0)=true:=by simp[hC]
   have HR2':Hid (RR=(nilD,8)):=by have:=HR2.out;rw[if_neg hC] at this;exact this
   clear HR2
   have HR2:Hid (RR=(nilD,8)):=HR2'.out
   clear HR2'
   clear hC
   go_wp2_with fail
   have HX:Hid (DBlk ((((W5.setCell ⟨b,0,none⟩ (.slice none 0 0)).setCell ⟨b,1,none⟩ (.slice none 0 0)).setCell ⟨b,2,none⟩ (.slice none 0 0)).setCell ⟨b,3,none⟩ (.slice none 0 0)) b nilDA/\Below w.heap.size w ((((W5.setCell ⟨b,0,none⟩ (.slice none 0 0)).setCell ⟨b,1,none⟩ (.slice none 0 0)).setCell ⟨b,2,none⟩ (.slice none 0 0)).setCell ⟨b,3,none⟩ (.slice none 0 0))):=ret4 HRB.out HBW.out (by have:=Hb.out;omega) nilDA
   have HY:Hid (DOwn w.heap.size ((((W5.setCell ⟨b,0,none⟩ (.slice none 0 0)).setCell ⟨b,1,none⟩ (.slice none 0 0)).setCell ⟨b,2,none⟩ (.slice none 0 0)).setCell ⟨b,3,none⟩ (.slice none 0 0)) nilDA nilD):=nil_down _ _
   clear HRB HBW
   generalize ((((W5.setCell ⟨b,0,none⟩ (.slice none 0 0)).setCell ⟨b,1,none⟩ (.slice none 0 0)).setCell ⟨b,2,none⟩ (.slice none 0 0)).setCell ⟨b,3,none⟩ (.slice none 0 0))=W9 at*
   have k0:=HX.out.1.box.1
   have k1:=HX.out.1.box.2.1
   have k2:=HX.out.1.box.2.2.1
   have k3:=HX.out.1.box.2.2.2.1
   try simp only at k0 k1 k2 k3
   exact bodyPost_ret (v:=.tuple #[.agg #[.slice none 0 0,.slice none 0 0,.slice none 0 0,.slice none 0 0],.int .i64 8]) (by simp[results,Tryz.results153,go_sem,k0,k1,k2,k3]) rfl (by rw[HR2.out];exact ⟨nilDA,rfl,HY.out,HX.out.2⟩)
 ·have hdw:decide (st=some len)=false:=by simp[hw]
  have HR2:Hid (RR=(nilD,8)):=by have:=HR.out;rw[if_neg hw] at this;exact this
  clear HR hw KC
  rw[hdw]
  clear hdw
  go_upto_region 6 with fail
  generalize (W3.alloc (.cells #[.slice x.p1.a x.p1.n x.p1.c,.slice x.p2.a x.p2.n x.p2.c,.slice x.p3.a x.p3.n x.p3.c,.slice x.p4.a x.p4.n x.p4.c] 48))=W4 at*
  obtain ⟨D,hD⟩:∃D,D=W3.heap.size:=⟨_,rfl⟩
  rw[<- hD] at HD3 hbne hbne2 ⊢
  clear hD
  have hbl:=HD3.out.2.2.2.2.2
  have HRB:Hid (DBlk W4 b nilDA):=HD3.out.1
  have HBW:Hid (Below w.heap.size w W4):=HD3.out.2.2.1
  have r0:W4.cell? ⟨b,0,none⟩=some (.slice none 0 0):=HRB.out.box.1
  have r1:W4.cell? ⟨b,1,none⟩=some (.slice none 0 0):=HRB.out.box.2.1
  have r2:W4.cell? ⟨b,2,none⟩=some (.slice none 0 0):=HRB.out.box.2.2.1
  have r3:W4.cell? ⟨b,3,none⟩=some (.slice none 0 0):=HRB.out.box.2.2.2.1
  have z0:=HRB.out.fz 0
  have z1:=HRB.out.fz 1
  have z2:=HRB.out.fz 2
  have z3:=HRB.out.fz 3
  have hl5:=HRB.out.lt
  go_wp2_with fail
  have HX:Hid (DBlk ((((W4.setCell ⟨b,0,none⟩ (.slice none 0 0)).setCell ⟨b,1,none⟩ (.slice none 0 0)).setCell ⟨b,2,none⟩ (.slice none 0 0)).setCell ⟨b,3,none⟩ (.slice none 0 0)) b nilDA/\Below w.heap.size w ((((W4.setCell ⟨b,0,none⟩ (.slice none 0 0)).setCell ⟨b,1,none⟩ (.slice none 0 0)).setCell ⟨b,2,none⟩ (.slice none 0 0)).setCell ⟨b,3,none⟩ (.slice none 0 0))):=ret4 HRB.out HBW.out (by have:=Hb.out;omega) nilDA
  have HY:Hid (DOwn w.heap.size ((((W4.setCell ⟨b,0,none⟩ (.slice none 0 0)).setCell ⟨b,1,none⟩ (.slice none 0 0)).setCell ⟨b,2,none⟩ (.slice none 0 0)).setCell ⟨b,3,none⟩ (.slice none 0 0)) nilDA nilD):=nil_down _ _
  clear HRB HBW
  generalize ((((W4.setCell ⟨b,0,none⟩ (.slice none 0 0)).setCell ⟨b,1,none⟩ (.slice none 0 0)).setCell ⟨b,2,none⟩ (.slice none 0 0)).setCell ⟨b,3,none⟩ (.slice none 0 0))=W9 at*
  have k0:=HX.out.1.box.1
  have k1:=HX.out.1.box.2.1
  have k2:=HX.out.1.box.2.2.1
  have k3:=HX.out.1.box.2.2.2.1
  try simp only at k0 k1 k2 k3
  exact bodyPost_ret (v:=.tuple #[.agg #[.slice none 0 0,.slice none 0 0,.slice none 0 0,.slice none 0 0],.int .i64 8]) (by simp[results,Tryz.results153,go_sem,k0,k1,k2,k3]) rfl (by rw[HR2.out];exact ⟨nilDA,rfl,HY.out,HX.out.2⟩)
theorem read5_any(t:Nat)(a:Option Addr)(len cap:Nat)(zs:List Int)(w:World)(hr:Rd w a zs)(hl:zs.length=len)(hc:len<=cap/\cap<=9223372036854775807)(hnil:a=none->cap=0) :
  Calls Tryz.prog 153 #[.int .u16 t,.slice a len cap] w (RdP (readF t zs) w):=by
 by_cases h:mayT t=true/\len<=65535
 ·exact read5_in t a len cap zs w hr hl h.2 hc hnil h.1
 ·refine read5_no t a len cap zs w hl (by omega) ?_
  by_cases hm:mayT t=true
  ·exact .inr (Nat.lt_of_not_le (fun h2=>h ⟨hm,h2⟩))
  ·exact .inl (by simpa using hm)
theorem plab_nsz(s:ByteArray)(hs:s.size<=1000000000):nsz (plab s).1<=1000000000000:=by
 unfold plab
 by_cases hd:s.toList=[46]
 ·rw[if_pos hd];decide
 ·rw[if_neg hd];exact lgo_nsz s hs
def nmay(l:List ByteArray):List ByteArray × Int:=(if nck l=0 then l else [],nck l)
theorem nparse_plab(s:ByteArray):nparse s=if (plab s).2.2=0 then (if (plab s).2.1 then nmay (plab s).1 else ([],5)) else ([],(plab s).2.2):=by
 unfold nparse plab nmay
 by_cases hd:s.toList=[46]
 ·rw[if_pos hd,if_pos hd]
  have:nck []=0:=by decide
  simp[this]
 ·rw[if_neg hd,if_neg hd]
  by_cases h0:(lgo (nums s) []).2.2=0
  ·rw[if_pos h0,if_pos h0]
   cases (lgo (nums s) []).2.1 with
   |false=>rfl
   |true=>
    simp only[if_true]
    by_cases hk:nck (lgo (nums s) []).1=0
    ·rw[if_pos hk,if_pos hk,hk]
    ·rw[if_neg hk,if_neg hk]
  ·rw[if_neg h0,if_neg h0]
theorem nrel_plab(s:ByteArray)(og:List ByteArray)(hk:nck og=0)(h1:¬ s.toList=[64]):nrel s og=if (plab s).2.2=0 then (if (plab s).2.1 then nmay (plab s).1 else njoin (plab s).1 og) else ([],(plab s).2.2):=by
 unfold nrel
 rw[if_pos hk,if_neg h1]
 by_cases hd:s.toList=[46]
 ·rw[if_pos hd]
  unfold plab nmay
  rw[if_pos hd]
  have:nck []=0:=by decide
  simp[this]
 ·rw[if_neg hd]
  have hp:=nparse_plab s
  have e:plab s=lgo (nums s) []:=by unfold plab;rw[if_neg hd]
  rw[e] at hp ⊢
  by_cases h0:(lgo (nums s) []).2.2=0
  ·rw[if_pos h0,if_pos h0]
   rw[if_pos h0] at hp
   cases hb:(lgo (nums s) []).2.1 with
   |false=>rfl
   |true=>rw[hb] at hp;simpa using hp
  ·rw[if_neg h0,if_neg h0]
theorem prel_any(s:ByteArray)(a:Option Addr)(n c:Nat)(og:List ByteArray)(w:World)(h:s.size<=1000000000)(h':Nm w a n og):Calls Tryz.prog 85 #[.string s,.slice a n c] w (NPost (nrel s og).1 (nrel s og).2 w):=by
 have KC:Hid (Calls Tryz.prog 17 #[.slice a n c] w fun e w'=>e=.returned (.int .i64 (nck og))/\w'=w):=pm_check c h'
 have HN:Hid (Nm w a n og):=h'
 by_cases hk:nck og=0
 ·rw[hk] at KC
  by_cases h1:s.toList=[64]
  ·have hp:nrel s og=(og,0):=by unfold nrel;rw[if_pos hk,if_pos h1]
   rw[hp]
   have h1t:(s.toList == [64])=true:=by simpa using h1
   clear hp h h' hk h1
   go_enter Tryz.func85,Tryz.ntmps85
   go_wp2_with fail
   refine KC.out.mono ?_
   rintro e w1 ⟨rfl,rfl⟩
   go_wp2_with fail
   refine (pm_copy c HN.out).mono ?_
   rintro e w2 ⟨v,ys,rfl,H2⟩
   go_wp2
   go_ret2
   exact ⟨v,ys,rfl,H2⟩
  have h1f:(s.toList == [64])=false:=by simpa using h1
  have KL:Hid (Calls Tryz.prog 108 #[.string s] w (LPost (plab s) w)):=plabels_any s w h
  have HZ:Hid (nsz (plab s).1<=1000000000000):=plab_nsz s h
  have HP:Hid (nrel s og=if (plab s).2.2=0 then (if (plab s).2.1 then nmay (plab s).1 else njoin (plab s).1 og) else ([],(plab s).2.2)):=nrel_plab s og hk h1
  obtain ⟨R,hR⟩:∃R,nrel s og=R:=⟨_,rfl⟩
  rw[hR] at HP ⊢
  clear hR h h' hk h1
  generalize plab s=r at*
  obtain ⟨l,b,k⟩:=r
  simp only at HP HZ
  by_cases hk:k=0
  ·rw[if_pos hk] at HP
   subst hk
   cases b with
   |true=>
    rw[if_pos rfl] at HP
    have e:=HP.out
    subst e
    clear HP
    go_enter Tryz.func85,Tryz.ntmps85
    go_wp2_with fail
    refine KC.out.mono ?_
    rintro e w1 ⟨rfl,rfl⟩
    go_wp2_with fail
    refine KL.out.mono ?_
    rintro e w2 ⟨v,ys,rfl,H2⟩
    obtain ⟨ao,hv,hao⟩:=H2.out.1.shape
    subst hv
    have KM:Hid (Calls Tryz.prog 28 #[.slice ao l.length ys.length] w2 fun e w'=>NPost (nmay l).1 (nmay l).2 w1 e w'):=may_own w1.heap.size w1 ao l.length ys.length l ys w2 rfl H2.out.1 H2.out.2.1 HZ.out H2.out.2.2 rfl
    generalize nmay l=R at*
    clear H2 KL KC
    go_wp2_with fail
    refine KM.out.mono ?_
    rintro e w3 ⟨v3,ys3,rfl,H3⟩
    go_wp2
    go_ret2
    exact ⟨v3,ys3,rfl,H3⟩
   |false=>
    rw[if_neg (by decide)] at HP
    go_enter Tryz.func85,Tryz.ntmps85
    go_wp2_with fail
    refine KC.out.mono ?_
    rintro e w1 ⟨rfl,rfl⟩
    go_wp2_with fail
    refine KL.out.mono ?_
    rintro e w2 ⟨v,ys,rfl,H2⟩
    obtain ⟨ao,hv,hao⟩:=H2.out.1.shape
    subst hv
    have hnm:Nm w2 ao l.length l:=⟨by have:=H2.out.1.rd l.length;rw[H2.out.2.1] at this;exact this,rfl,HZ.out⟩
    have KJ:Hid (Calls Tryz.prog 13 #[.slice ao l.length ys.length,.slice a n c] w2 (NPost (njoin l og).1 (njoin l og).2 w2)):=pjoin_any ao a l.length n ys.length c l og w2 hnm (HN.out.below H2.out.2.2)
    clear hnm
    have e:=HP.out
    subst e
    clear HP
    generalize njoin l og=jj at*
    go_wp2_with fail
    refine KJ.out.mono ?_
    rintro e w3 ⟨v3,ys3,rfl,H3⟩
    go_wp2
    go_ret2
    exact ⟨v3,ys3,rfl,H3.out.1.mono H2.out.2.2.size,H3.out.2.1,H2.out.2.2.trans (H3.out.2.2.mono H2.out.2.2.size)⟩
  ·rw[if_neg hk] at HP
   have e:=HP.out
   subst e
   have hq:(k != 0)=true:=bne_iff_ne.2 hk
   clear HP hk
   go_enter Tryz.func85,Tryz.ntmps85
   go_wp2_with fail
   refine KC.out.mono ?_
   rintro e w1 ⟨rfl,rfl⟩
   go_wp2_with fail
   refine KL.out.mono ?_
   rintro e w2 ⟨v,ys,rfl,H2⟩
   go_wp2
   go_ret2
   exact npost_none rfl H2.out.2.2
 ·have hp:nrel s og=([],nck og):=by unfold nrel;rw[if_neg hk]
  rw[hp]
  generalize nck og=q at*
  have hq:(q != 0)=true:=bne_iff_ne.2 hk
  clear h h' hk hp
  go_enter Tryz.func85,Tryz.ntmps85
  go_wp2_with fail
  refine KC.out.mono ?_
  rintro e w1 ⟨rfl,rfl⟩
  go_wp2
  go_ret2
  exact npost_none rfl (Below.refl _ _)
abbrev Wd:=ByteArray × Bool
def RdW(w:World)(a:Option Addr)(ws:List Wd):Prop:=
 ws=[]∨∃b o,a=some ⟨b,o,none⟩/\b<w.heap.size/\∀i (h:i<ws.length),w.cell? ⟨b,o+2*i,none⟩=some (.string ws[i].1)/\w.cell? ⟨b,o+2*i+1,none⟩=some (.bool ws[i].2)
theorem RdW.below{w w':World}{a:Option Addr}{ws:List Wd}(h:RdW w a ws)(hb:Below w.heap.size w w'):RdW w' a ws:=by
 rcases h with h|⟨b,o,h1,h2,h3⟩
 ·exact .inl h
 ·exact .inr ⟨b,o,h1,Nat.lt_of_lt_of_le h2 hb.size,fun i hi=>⟨(hb.cell (p:=⟨b,o+2*i,none⟩) h2).trans (h3 i hi).1,(hb.cell (p:=⟨b,o+2*i+1,none⟩) h2).trans (h3 i hi).2⟩⟩
theorem RdW.head{w:World}{a:Option Addr}{s:ByteArray}{q:Bool}{r:List Wd}(h:RdW w a ((s,q)::r)):∃b o,a=some ⟨b,o,none⟩/\b<w.heap.size/\w.cell? ⟨b,o,none⟩=some (.string s)/\w.cell? ⟨b,o+1,none⟩=some (.bool q)/\RdW w (some ⟨b,o+2,none⟩) r:=by
 rcases h with h|⟨b,o,h1,h2,h3⟩
 ·cases h
 ·refine ⟨b,o,h1,h2,(h3 0 (by simp)).1,(h3 0 (by simp)).2,?_⟩
  refine .inr ⟨b,o+2,rfl,h2,fun i hi=>?_⟩
  have:=h3 (i+1) (by simp;omega)
  rw[show o+2*(i+1)=o+2+2*i by omega] at this
  exact this
def RBk(w0 w:World)(wa:Option Addr)(n c:Nat)(oa:Option Addr)(on oc:Nat)(x:DA)(bad:Bool):Prop:=
 w.heap[w0.heap.size]?=some (.cells #[.slice wa n c,.slice oa on oc,.slice x.p1.a x.p1.n x.p1.c,.slice x.p2.a x.p2.n x.p2.c,.slice x.p3.a x.p3.n x.p3.c,.slice x.p4.a x.p4.n x.p4.c,.bool bad] 198 (0,0))
theorem RBk.lt{w0 w:World}{wa:Option Addr}{n c:Nat}{oa:Option Addr}{on oc:Nat}{x:DA}{bad:Bool}(h:RBk w0 w wa n c oa on oc x bad):w0.heap.size<w.heap.size:=(Array.getElem?_eq_some_iff.1 h).1
theorem RBk.cells{w0 w:World}{wa:Option Addr}{n c:Nat}{oa:Option Addr}{on oc:Nat}{x:DA}{bad:Bool}(h:RBk w0 w wa n c oa on oc x bad) :
  w.cell? ⟨w0.heap.size,0,none⟩=some (.slice wa n c)/\w.cell? ⟨w0.heap.size,1,none⟩=some (.slice oa on oc)/\w.cell? ⟨w0.heap.size,2,none⟩=some (.slice x.p1.a x.p1.n x.p1.c)/\w.cell? ⟨w0.heap.size,3,none⟩=some (.slice x.p2.a x.p2.n x.p2.c)/\w.cell? ⟨w0.heap.size,4,none⟩=some (.slice x.p3.a x.p3.n x.p3.c)/\w.cell? ⟨w0.heap.size,5,none⟩=some (.slice x.p4.a x.p4.n x.p4.c)/\w.cell? ⟨w0.heap.size,6,none⟩=some (.bool bad):=by
 unfold World.cell?
 rw[show w.heap[w0.heap.size]?=_ from h]
 exact ⟨rfl,rfl,rfl,rfl,rfl,rfl,rfl⟩
theorem RBk.fz{w0 w:World}{wa:Option Addr}{n c:Nat}{oa:Option Addr}{on oc:Nat}{x:DA}{bad:Bool}(h:RBk w0 w wa n c oa on oc x bad)(i:Nat):w.frozen? ⟨w0.heap.size,i,none⟩=false:=by
 unfold World.frozen?
 rw[show w.heap[w0.heap.size]?=_ from h]
 simp
structure RX(w0 w:World)(wa:Option Addr)(n c:Nat)(oa:Option Addr)(on oc:Nat)(x:DA)(bad:Bool)(d:Dat):Prop where
 blk:RBk w0 w wa n c oa on oc x bad
 own:DOwn (w0.heap.size+1) w x d
 bel:Below w0.heap.size w0 w
theorem RX.step{w0 w w':World}{wa:Option Addr}{n c:Nat}{oa:Option Addr}{on oc:Nat}{x:DA}{bad:Bool}{d:Dat}(h:RX w0 w wa n c oa on oc x bad d)(hb:Below w.heap.size w w'):RX w0 w' wa n c oa on oc x bad d:=
 ⟨(hb.block _ h.blk.lt).trans h.blk,h.own.stays hb,h.bel.trans (hb.mono h.bel.size)⟩
theorem RX.set{w0 w:World}{wa wa':Option Addr}{n c n' c':Nat}{oa:Option Addr}{on oc:Nat}{x x':DA}{bad bad':Bool}{d:Dat}(h:RX w0 w wa n c oa on oc x bad d)(i:Nat)(v:Value)
  (hb:RBk w0 (w.setCell ⟨w0.heap.size,i,none⟩ v) wa' n' c' oa on oc x' bad'):RBk w0 (w.setCell ⟨w0.heap.size,i,none⟩ v) wa' n' c' oa on oc x' bad'/\DOwn (w0.heap.size+1) (w.setCell ⟨w0.heap.size,i,none⟩ v) x d/\Below w0.heap.size w0 (w.setCell ⟨w0.heap.size,i,none⟩ v):=
 ⟨hb,h.own.keep (fun j hj _=>Below.heap_setCell _ _ _ j (by show j≠w0.heap.size;omega)),h.bel.setCell (show w0.heap.size<=(⟨w0.heap.size,i,none⟩:Addr).block from Nat.le_refl _) _⟩
theorem RBk.set0{w0 w:World}{wa:Option Addr}{n c:Nat}{oa:Option Addr}{on oc:Nat}{x:DA}{bad:Bool}(h:RBk w0 w wa n c oa on oc x bad)(wa':Option Addr)(n' c':Nat):RBk w0 (w.setCell ⟨w0.heap.size,0,none⟩ (.slice wa' n' c')) wa' n' c' oa on oc x bad:=by
 have:=heap_set h 0 (.slice wa' n' c');simpa [RBk] using this
theorem RBk.set2{w0 w:World}{wa:Option Addr}{n c:Nat}{oa:Option Addr}{on oc:Nat}{x:DA}{bad:Bool}(h:RBk w0 w wa n c oa on oc x bad)(s:Sl):RBk w0 (w.setCell ⟨w0.heap.size,2,none⟩ (.slice s.a s.n s.c)) wa n c oa on oc ⟨s,x.p2,x.p3,x.p4⟩ bad:=by
 have:=heap_set h 2 (.slice s.a s.n s.c);simpa [RBk] using this
theorem RBk.set3{w0 w:World}{wa:Option Addr}{n c:Nat}{oa:Option Addr}{on oc:Nat}{x:DA}{bad:Bool}(h:RBk w0 w wa n c oa on oc x bad)(s:Sl):RBk w0 (w.setCell ⟨w0.heap.size,3,none⟩ (.slice s.a s.n s.c)) wa n c oa on oc ⟨x.p1,s,x.p3,x.p4⟩ bad:=by
 have:=heap_set h 3 (.slice s.a s.n s.c);simpa [RBk] using this
theorem RBk.set4{w0 w:World}{wa:Option Addr}{n c:Nat}{oa:Option Addr}{on oc:Nat}{x:DA}{bad:Bool}(h:RBk w0 w wa n c oa on oc x bad)(s:Sl):RBk w0 (w.setCell ⟨w0.heap.size,4,none⟩ (.slice s.a s.n s.c)) wa n c oa on oc ⟨x.p1,x.p2,s,x.p4⟩ bad:=by
 have:=heap_set h 4 (.slice s.a s.n s.c);simpa [RBk] using this
theorem RBk.set5{w0 w:World}{wa:Option Addr}{n c:Nat}{oa:Option Addr}{on oc:Nat}{x:DA}{bad:Bool}(h:RBk w0 w wa n c oa on oc x bad)(s:Sl):RBk w0 (w.setCell ⟨w0.heap.size,5,none⟩ (.slice s.a s.n s.c)) wa n c oa on oc ⟨x.p1,x.p2,x.p3,s⟩ bad:=by
 have:=heap_set h 5 (.slice s.a s.n s.c);simpa [RBk] using this
theorem RBk.set6{w0 w:World}{wa:Option Addr}{n c:Nat}{oa:Option Addr}{on oc:Nat}{x:DA}{bad:Bool}(h:RBk w0 w wa n c oa on oc x bad)(b:Bool):RBk w0 (w.setCell ⟨w0.heap.size,6,none⟩ (.bool b)) wa n c oa on oc x b:=by
 have:=heap_set h 6 (.bool b);simpa [RBk] using this
def NxPost(s:ByteArray)(r:List Wd)(w0:World)(c:Nat)(oa:Option Addr)(on oc:Nat)(x:DA)(bad:Bool)(d:Dat)(e:Ending)(w':World):Prop:=
 ∃wa',e=.returned (.string s)/\Hid (RdW w0 wa' r)/\Hid (RX w0 w' wa' r.length (c - 1) oa on oc x bad d)
theorem next_ok(w0 w:World)(wa:Option Addr)(s:ByteArray)(q:Bool)(r:List Wd)(c:Nat)(oa:Option Addr)(on oc:Nat)(x:DA)(bad:Bool)(d:Dat)(hw:RdW w0 wa ((s,q)::r))(hc:r.length+1<=c)(h63:c<=9223372036854775807)(h:RX w0 w wa (r.length+1) c oa on oc x bad d) :
  Calls Tryz.prog 175 #[.pointer (some ⟨w0.heap.size,0,none⟩)] w (NxPost s r w0 c oa on oc x bad d):=by
 obtain ⟨b,o,rfl,hb,c1,c2,hrr⟩:=hw.head
 have HRR:=Lib.hid hrr
 have HX:=Lib.hid h
 have d0:=h.blk.cells.1
 have hf0:=h.blk.fz 0
 have c1':=(h.bel.cell (p:=⟨b,o,none⟩) hb).trans c1
 have c2':=(h.bel.cell (p:=⟨b,o+1,none⟩) hb).trans c2
 clear hw h hrr c1 c2
 obtain ⟨n,hn⟩:∃n,r.length=n:=⟨_,rfl⟩
 have HN:Hid (r.length=n):=hn
 rw[hn] at hc d0
 clear hn
 have hn0:(((n:Int)+1) == 0)=false:=by rw[beq_eq_false_iff_ne];omega
 have hlt:=HX.out.blk.lt
 have hne:¬ w.heap.size=w0.heap.size:=by omega
 have HF:Hid (∀wa' n' c',RX w0 ((w.setCell ⟨w0.heap.size,0,none⟩ (.slice wa' n' c')).alloc (.cells #[.string s,.bool q] 77)) wa' n' c' oa on oc x bad d):=fun wa' n' c'=>
  have H:=HX.out.set 0 _ (HX.out.blk.set0 wa' n' c')
  RX.step ⟨H.1,H.2.1,H.2.2⟩ ((Below.refl _ _).alloc (Nat.le_refl _) _)
 by_cases hc1:c=1
 ·have hn1:n=0:=by omega
  subst hc1;subst hn1
  go_enter Tryz.func175,Tryz.ntmps175
  go_wp2_with fail
  go_ret
  have er:r=[]:=List.length_eq_zero_iff.1 HN.out
  subst er
  exact ⟨_,rfl,.inl rfl,HF.out _ 0 0⟩
 ·have hc1':¬ c - 1=0:=by omega
  have hc2:¬ (c:Int) - 1=0:=by omega
  go_enter Tryz.func175,Tryz.ntmps175
  go_wp2_with fail
  go_ret
  refine ⟨_,rfl,HRR,?_⟩
  rw[HN.out]
  exact HF.out _ n (c - 1)
def SdSt(w W:World)(b:Nat)(x y:DA)(d:Dat):Prop:=DBox W b x/\DBox W (b+1) y/\DRd W x d/\DRd W y d/\Below w.heap.size w W
theorem SdSt.go{w W W':World}{b:Nat}{x y:DA}{d:Dat}(h:SdSt w W b x y d)(hb:Below W.heap.size W W'):SdSt w W' b x y d:=
 ⟨h.1.below hb,h.2.1.below hb,h.2.2.1.below hb,h.2.2.2.1.below hb,h.2.2.2.2.trans (hb.mono h.2.2.2.2.size)⟩
theorem samedata_yes(x y:DA)(d:Dat)(w:World)(hx:DRd w x d)(hy:DRd w y d) :
  Calls Tryz.prog 47 #[.agg #[.slice x.p1.a x.p1.n x.p1.c,.slice x.p2.a x.p2.n x.p2.c,.slice x.p3.a x.p3.n x.p3.c,.slice x.p4.a x.p4.n x.p4.c],.agg #[.slice y.p1.a y.p1.n y.p1.c,.slice y.p2.a y.p2.n y.p2.c,.slice y.p3.a y.p3.n y.p3.c,.slice y.p4.a y.p4.n y.p4.c]] w fun e w'=>e=.returned (.bool true)/\Hid (Below w.heap.size w w'):=by
 have hb1:Below w.heap.size w (w.alloc (.cells #[.slice x.p1.a x.p1.n x.p1.c,.slice x.p2.a x.p2.n x.p2.c,.slice x.p3.a x.p3.n x.p3.c,.slice x.p4.a x.p4.n x.p4.c] 48)):=(Below.refl _ _).alloc (Nat.le_refl _) _
 have HX:=DBox.new w x
 have hx1:=hx.below hb1
 have hy1:=hy.below hb1
 have e1:y.p1.n=x.p1.n:=by rw[<- hx.h1.len,<- hy.h1.len]
 have e2:y.p2.n=x.p2.n:=by rw[<- hx.h2.len,<- hy.h2.len]
 have e3:y.p3.n=x.p3.n:=by rw[<- hx.h3.len,<- hy.h3.len]
 have e4:y.p4.n=x.p4.n:=by rw[<- hx.h4.len,<- hy.h4.len]
 obtain ⟨W0,hW0⟩:∃W,W=w.alloc (.cells #[.slice x.p1.a x.p1.n x.p1.c,.slice x.p2.a x.p2.n x.p2.c,.slice x.p3.a x.p3.n x.p3.c,.slice x.p4.a x.p4.n x.p4.c] 48):=⟨_,rfl⟩
 have hs0:W0.heap.size=w.heap.size+1:=by rw[hW0];simp
 rw[<- hW0] at hb1 HX hx1 hy1
 have hb2:Below W0.heap.size W0 (W0.alloc (.cells #[.slice y.p1.a y.p1.n y.p1.c,.slice y.p2.a y.p2.n y.p2.c,.slice y.p3.a y.p3.n y.p3.c,.slice y.p4.a y.p4.n y.p4.c] 48)):=(Below.refl _ _).alloc (Nat.le_refl _) _
 have HY:=DBox.new W0 y
 have H:Hid (∃b c,b=w.heap.size/\c=w.heap.size+1/\DBox (W0.alloc (.cells #[.slice y.p1.a y.p1.n y.p1.c,.slice y.p2.a y.p2.n y.p2.c,.slice y.p3.a y.p3.n y.p3.c,.slice y.p4.a y.p4.n y.p4.c] 48)) b x/\DBox (W0.alloc (.cells #[.slice y.p1.a y.p1.n y.p1.c,.slice y.p2.a y.p2.n y.p2.c,.slice y.p3.a y.p3.n y.p3.c,.slice y.p4.a y.p4.n y.p4.c] 48)) c y/\
   DRd (W0.alloc (.cells #[.slice y.p1.a y.p1.n y.p1.c,.slice y.p2.a y.p2.n y.p2.c,.slice y.p3.a y.p3.n y.p3.c,.slice y.p4.a y.p4.n y.p4.c] 48)) x d/\DRd (W0.alloc (.cells #[.slice y.p1.a y.p1.n y.p1.c,.slice y.p2.a y.p2.n y.p2.c,.slice y.p3.a y.p3.n y.p3.c,.slice y.p4.a y.p4.n y.p4.c] 48)) y d/\Below w.heap.size w (W0.alloc (.cells #[.slice y.p1.a y.p1.n y.p1.c,.slice y.p2.a y.p2.n y.p2.c,.slice y.p3.a y.p3.n y.p3.c,.slice y.p4.a y.p4.n y.p4.c] 48))):=
  ⟨w.heap.size,w.heap.size+1,rfl,rfl,HX.below hb2,by rw[<- hs0];exact HY,hx1.below hb2,hy1.below hb2,hb1.trans (hb2.mono hb1.size)⟩
 clear hx hy hb1 HX hx1 hy1 hb2 HY hs0
 rw[hW0] at H
 clear hW0 W0
 obtain ⟨⟨a1,n1,k1⟩,⟨a2,n2,k2⟩,⟨a3,n3,k3⟩,⟨a4,n4,k4⟩⟩:=x
 obtain ⟨⟨b1,m1,j1⟩,⟨b2,m2,j2⟩,⟨b3,m3,j3⟩,⟨b4,m4,j4⟩⟩:=y
 simp only at e1 e2 e3 e4 H ⊢
 subst e1 e2 e3 e4
 go_enter Tryz.func47,Tryz.ntmps47
 go_upto_region 1 with fail
 generalize ((w.alloc (.cells #[.slice a1 m1 k1,.slice a2 m2 k2,.slice a3 m3 k3,.slice a4 m4 k4] 48)).alloc (.cells #[.slice b1 m1 j1,.slice b2 m2 j2,.slice b3 m3 j3,.slice b4 m4 j4] 48))=W1 at*
 obtain ⟨b,b',hb,hb',X,Y,DX,DY,BB⟩:=H.out
 clear H
 rw[<- hb]
 rw[<- hb] at hb'
 subst hb'
 have Hb:Hid (b=w.heap.size):=hb
 clear hb
 have H:Hid (SdSt w W1 b ⟨⟨a1,m1,k1⟩,⟨a2,m2,k2⟩,⟨a3,m3,k3⟩,⟨a4,m4,k4⟩⟩ ⟨⟨b1,m1,j1⟩,⟨b2,m2,j2⟩,⟨b3,m3,j3⟩,⟨b4,m4,j4⟩⟩ d):=⟨X,Y,DX,DY,BB⟩
 clear X Y DX DY BB
 have x0:=H.out.1.1
 have x1:=H.out.1.2.1
 have x2:=H.out.1.2.2.1
 have y0:=H.out.2.1.1
 have y1:=H.out.2.1.2.1
 have y2:=H.out.2.1.2.2.1
 simp only at x0 x1 x2 y0 y1 y2
 go_wp2_with fail
 refine (sameT_yes a3 b3 m3 k3 j3 d.ts W1 H.out.2.2.1.h3.rd H.out.2.2.2.1.h3.rd H.out.2.2.1.h3.len (Nat.le_trans H.out.2.2.1.h3.cap.1 H.out.2.2.1.h3.cap.2)).mono ?_
 rintro e W2 ⟨rfl,H2⟩
 have H':Hid (SdSt w W2 b ⟨⟨a1,m1,k1⟩,⟨a2,m2,k2⟩,⟨a3,m3,k3⟩,⟨a4,m4,k4⟩⟩ ⟨⟨b1,m1,j1⟩,⟨b2,m2,j2⟩,⟨b3,m3,j3⟩,⟨b4,m4,j4⟩⟩ d):=H.out.go H2.out
 clear H2 H x0 x1 x2 y0 y1 y2
 have x3:=H'.out.1.2.2.2.1
 have y3:=H'.out.2.1.2.2.2.1
 simp only at x3 y3
 go_wp2_with fail
 refine (same_yes a4 b4 m4 k4 j4 d.raw W2 H'.out.2.2.1.h4.rd H'.out.2.2.2.1.h4.rd H'.out.2.2.1.h4.len).mono ?_
 rintro e W3 ⟨rfl,rfl⟩
 clear x3 y3
 have hn1:d.ns.length=m1:=H'.out.2.2.1.h1.len
 have hn2:d.us.length=m2:=H'.out.2.2.1.h2.len
 have hm1:m1<=9223372036854775807:=Nat.le_trans H'.out.2.2.1.h1.cap.1 H'.out.2.2.1.h1.cap.2
 have hm2:m2<=9223372036854775807:=Nat.le_trans H'.out.2.2.1.h2.cap.1 H'.out.2.2.1.h2.cap.2
 have HN:Hid (d.ns.length=m1/\d.us.length=m2):=⟨hn1,hn2⟩
 clear hn1 hn2
 go_wp2_with fail
 go_loopw [5] (fun v wr=>∃k:Nat,k<=m1/\v=.int .i64 (k:Int)/\Hid (SdSt w wr b ⟨⟨a1,m1,k1⟩,⟨a2,m2,k2⟩,⟨a3,m3,k3⟩,⟨a4,m4,k4⟩⟩ ⟨⟨b1,m1,j1⟩,⟨b2,m2,j2⟩,⟨b3,m3,j3⟩,⟨b4,m4,j4⟩⟩ d)) (fun v _=>m1 - (intOf v).toNat)
 case atStart=>exact ⟨0,Nat.zero_le _,rfl,H'⟩
 case round=>
  obtain ⟨k,hk,rfl,H⟩:=hrel
  clear H'
  have x0:=H.out.1.1
  have y0:=H.out.2.1.1
  simp only at x0 y0
  by_cases hlt:k<m1
  ·have hlt':(k:Int)<(m1:Int):=by omega
   have hki:k<d.ns.length:=by rw[HN.out.1];exact hlt
   obtain ⟨B1,o1,ha1,hl1,z1,hz1,hr1⟩:=H.out.2.2.1.h1.at k hki
   obtain ⟨B2,o2,ha2,hl2,z2,hz2,hr2⟩:=H.out.2.2.2.1.h1.at k hki
   simp only at ha1 ha2
   subst ha1 ha2
   have ez:z2.n=z1.n:=by rw[<- hr1.len,<- hr2.len]
   rw[ez] at hz2
   have KS:Hid (∀W',Below wr.heap.size wr W'->Calls Tryz.prog 46 #[.slice z1.a z1.n z1.c,.slice z2.a z1.n z2.c] W' fun e w'=>e=.returned (.bool true)/\Hid (Below W'.heap.size W' w')):=
    fun W' hb=>sameN_yes z1.a z2.a z1.n z1.c z2.c d.ns[k] W' (hr1.rd.below hb) (hr2.rd.below hb) hr1.len (Nat.le_trans hr1.cap.1 hr1.cap.2)
   have HBx:Hid (Below wr.heap.size wr wr.drew):=(Below.refl _ _).drew
   have hbx:=H.out.1.2.2.2.2
   have hby:=H.out.2.1.2.2.2.2
   clear hr1 hr2 ez
   generalize z1.a=za1 at*
   generalize z1.n=zn1 at*
   generalize z1.c=zc1 at*
   generalize z2.a=za2 at*
   generalize z2.c=zc2 at*
   go_wp2_with fail
   go_region_held3 (fun W=>W.cell? ⟨b,0,none⟩=some (.slice (some ⟨B1,o1,none⟩) m1 k1)/\W.cell? ⟨b+1,0,none⟩=some (.slice (some ⟨B2,o2,none⟩) m1 j1)/\W.cell? ⟨B1,o1+k,none⟩=some (.slice za1 zn1 zc1)/\W.cell? ⟨B2,o2+k,none⟩=some (.slice za2 zn1 zc2)) (go_keep) (first
    |(go_at_call 46;refine (KS.out _ HBx.out).mono ?_;rintro e wy ⟨rfl,HY⟩;have q0:wy.cell? ⟨b,0,none⟩=some (.slice (some ⟨B1,o1,none⟩) m1 k1):=(HY.out.cell (p:=⟨b,0,none⟩) hbx).trans x0;have q1:wy.cell? ⟨b+1,0,none⟩=some (.slice (some ⟨B2,o2,none⟩) m1 j1):=(HY.out.cell (p:=⟨b+1,0,none⟩) hby).trans y0;have q2:wy.cell? ⟨B1,o1+k,none⟩=some (.slice za1 zn1 zc1):=(HY.out.cell (p:=⟨B1,o1+k,none⟩) hl1).trans hz1;have q3:wy.cell? ⟨B2,o2+k,none⟩=some (.slice za2 zn1 zc2):=(HY.out.cell (p:=⟨B2,o2+k,none⟩) hl2).trans hz2))
   have H2:Hid (SdSt w wy b ⟨⟨some ⟨B1,o1,none⟩,m1,k1⟩,⟨a2,m2,k2⟩,⟨a3,m3,k3⟩,⟨a4,m4,k4⟩⟩ ⟨⟨some ⟨B2,o2,none⟩,m1,j1⟩,⟨b2,m2,j2⟩,⟨b3,m3,j3⟩,⟨b4,m4,j4⟩⟩ d):=H.out.go (HBx.out.trans HY.out)
   clear q0 q1 q2 q3 x0 y0 hz1 hz2 HY KS H HBx
   go_wp2_with fail
   exact ⟨⟨k+1,by omega,by go_num,H2⟩,by simp[intOf];omega⟩
  ·have hge:¬ (k:Int)<(m1:Int):=by omega
   go_wp2_with fail
   obtain ⟨wz,hz⟩:∃z,z=wr:=⟨_,rfl⟩
   subst hz
   clear x0 y0
   go_loopw [6] (fun v wr=>∃k:Nat,k<=m2/\v=.int .i64 (k:Int)/\Hid (SdSt w wr b ⟨⟨a1,m1,k1⟩,⟨a2,m2,k2⟩,⟨a3,m3,k3⟩,⟨a4,m4,k4⟩⟩ ⟨⟨b1,m1,j1⟩,⟨b2,m2,j2⟩,⟨b3,m3,j3⟩,⟨b4,m4,j4⟩⟩ d)) (fun v _=>m2 - (intOf v).toNat)
   case atStart=>exact ⟨0,Nat.zero_le _,rfl,H⟩
   case round=>
    obtain ⟨i,hi,rfl,H'⟩:=hrel
    clear H
    have x1:=H'.out.1.2.1
    have y1:=H'.out.2.1.2.1
    simp only at x1 y1
    by_cases hit:i<m2
    ·have hit':(i:Int)<(m2:Int):=by omega
     have hii:i<d.us.length:=by rw[HN.out.2];exact hit
     obtain ⟨B1,o1,ha1,hl1,hz1⟩:=H'.out.2.2.1.h2.at i hii
     obtain ⟨B2,o2,ha2,hl2,hz2⟩:=H'.out.2.2.2.1.h2.at i hii
     simp only at ha1 ha2
     subst ha1 ha2
     generalize d.us[i]=u at*
     go_wp2_with fail
     go_quiet (fail)
     have H2:Hid (SdSt w (wr.drewN nq) b ⟨⟨a1,m1,k1⟩,⟨some ⟨B1,o1,none⟩,m2,k2⟩,⟨a3,m3,k3⟩,⟨a4,m4,k4⟩⟩ ⟨⟨b1,m1,j1⟩,⟨some ⟨B2,o2,none⟩,m2,j2⟩,⟨b3,m3,j3⟩,⟨b4,m4,j4⟩⟩ d):=H'.out.go ⟨rfl,rfl,rfl,Nat.le_refl _,fun _ _=>rfl⟩
     clear x1 y1 hz1 hz2 H'
     generalize wr.drewN nq=Wq at*
     go_wp2_with fail
     exact ⟨⟨i+1,by omega,by go_num,H2⟩,by simp[intOf];omega⟩
    ·have hige:¬ (i:Int)<(m2:Int):=by omega
     go_wp2_with fail
     go_ret
     exact ⟨rfl,H'.out.2.2.2.2⟩
theorem rdv_new(w:World)(xs:List Value)(t:TypeId):RdV (w.alloc (.cells xs.toArray t)) (some ⟨w.heap.size,0,none⟩) xs:=by
 refine .inr ⟨w.heap.size,0,rfl,by simp,fun i hi=>?_⟩
 rw[Nat.zero_add]
 exact (show BlkV (w.alloc (.cells xs.toArray t)) w.heap.size t xs from heap_alloc_new _ _).cell i hi
theorem new_t(w:World)(ss:List ByteArray)(n:Nat)(hn:ss.length=n)(hm:n<=1000)(hb:∀x∈ss,x.size<=9223372036854775807):TRd (w.alloc (.cells (tv ss).toArray 9)) ⟨some ⟨w.heap.size,0,none⟩,n,n⟩ ss:=
 ⟨rdv_new w (tv ss) 9,hn,⟨Nat.le_refl _,by simp only;omega⟩,by simp,hb⟩
theorem new_b(w:World)(zs:List Int)(n:Nat)(hn:zs.length=n)(hm:n<=1000)(hb:∀z∈zs,0<=z/\z<=255):BRd (w.alloc (.cells (zs.map (Value.int .u8)).toArray 5)) ⟨some ⟨w.heap.size,0,none⟩,n,n⟩ zs:=by
 refine ⟨⟨?_,hb⟩,hn,⟨Nat.le_refl _,by simp only;omega⟩,by simp⟩
 have hblk:Blk (w.alloc (.cells (zs.map (Value.int .u8)).toArray 5)) w.heap.size zs:=⟨heap_alloc_new _ _,hb⟩
 exact .inr ⟨w.heap.size,0,rfl,hblk.lt,fun i hi=>by rw[Nat.zero_add];exact hblk.cell i hi⟩
theorem readF_ok{t:Nat}{zs:List Int}(h:(readF t zs).2=0):checkF t (readF t zs).1=0/\writeF t (readF t zs).1=zs/\zs.length<=65535:=by
 unfold readF at h ⊢
 by_cases h1:mayT t=true
 ·rw[if_pos h1] at h ⊢
  by_cases h2:zs.length<=65535
  ·rw[if_pos h2] at h ⊢
   cases hd:dreadF t zs with
   |none=>rw[hd] at h;cases h
   |some d=>
    have:=write_read hd
    exact ⟨this.1,this.2,h2⟩
  ·rw[if_neg h2] at h;cases h
 ·rw[if_neg h1] at h;cases h
theorem bare_ok(w0 w:World)(wa:Option Addr)(s:ByteArray)(r:List Wd)(c:Nat)(oa:Option Addr)(on oc:Nat)(x:DA)(bad:Bool)(d:Dat)(hw:RdW w0 wa ((s,false)::r))(hc:r.length+1<=c)(h63:c<=9223372036854775807)(h:RX w0 w wa (r.length+1) c oa on oc x bad d) :
  Calls Tryz.prog 173 #[.pointer (some ⟨w0.heap.size,0,none⟩)] w (NxPost s r w0 c oa on oc x bad d):=by
 have K:=Lib.hid (next_ok w0 w wa s false r c oa on oc x bad d hw hc h63 h)
 obtain ⟨b,o,rfl,hb,c1,c2,hrr⟩:=hw.head
 have d0:=h.blk.cells.1
 have c2':=(h.bel.cell (p:=⟨b,o+1,none⟩) hb).trans c2
 clear hw hrr c1 c2 h
 obtain ⟨n,hn⟩:∃n,r.length=n:=⟨_,rfl⟩
 rw[hn] at d0 hc
 clear hn
 have hn0:(0:Int)<(n:Int)+1:=by omega
 go_enter Tryz.func173,Tryz.ntmps173
 go_wp2_with fail
 refine K.out.mono ?_
 rintro e w' ⟨wa',rfl,H1,H2⟩
 go_wp2_with fail
 go_ret
 exact ⟨wa',rfl,H1,H2⟩
theorem wl_st{P:Program}{w:World}{ops:Array Oper}{rest:List Oper}{o:Oper}{a:Act}{Q:Exit->Act->World->Prop}(hgd:o.guard=none)
  (h:∀K:Act->World->Prop,(∀a' w',wpList P ops Q rest a' w'->K a' w')->(if Region.wanted o (yielded ops a.tmps)=true then Oper.wp P o a w K Q else True)):wpList P ops Q (o::rest) a w:=by
 refine wpList_plain hgd fun K hK=>?_
 have:=h K hK
 have hw:Region.wanted o (yielded ops a.tmps)=true:=by simp[Region.wanted,hgd]
 rw[if_pos hw] at this
 exact this
theorem RX.grown{w0 w w':World}{wa:Option Addr}{n c:Nat}{oa:Option Addr}{on oc:Nat}{x:DA}{bad:Bool}{d:Dat}(h:RX w0 w wa n c oa on oc x bad d){o:Option Nat}(hg:w.grownBy w' o)(ho:∀j,o=some j->w0.heap.size+1<=j) :
  RBk w0 w' wa n c oa on oc x bad/\Below w0.heap.size w0 w':=
 ⟨(hg.block _ h.blk.lt (fun e=>by have:=ho _ e.symm;omega)).trans h.blk,h.bel.grown hg h.bel.size (fun j e=>by have:=ho _ e;omega)⟩
theorem RX.app1{w0 w w':World}{wa:Option Addr}{n c:Nat}{oa:Option Addr}{on oc:Nat}{x:DA}{bad:Bool}{d:Dat}(h:RX w0 w wa n c oa on oc x bad d){o:Option Nat}(hg:w.grownBy w' o)(ho:∀j,o=some j->w0.heap.size+1<=j/\∃zs,BlkV w j 23 zs)
  (t':Sl) (ns':List (List ByteArray)) (hN:OwnN (w0.heap.size+1) w' (.slice t'.a t'.n t'.c) ns'):RX w0 (w'.setCell ⟨w0.heap.size,2,none⟩ (.slice t'.a t'.n t'.c)) wa n c oa on oc ⟨t',x.p2,x.p3,x.p4⟩ bad ⟨ns',d.us,d.ts,d.raw⟩:=by
 obtain ⟨h1,h2⟩:=h.grown hg (fun j e=>(ho j e).1)
 have hk:∀j,w0.heap.size+1<=j->j<w'.heap.size->(w'.setCell ⟨w0.heap.size,2,none⟩ (.slice t'.a t'.n t'.c)).heap[j]?=w'.heap[j]?:=fun j hj _=>Below.heap_setCell _ _ _ j (by show j≠w0.heap.size;omega)
 have h4:BOwn (w0.heap.size+1) w' x.p4 d.raw:=by
  obtain ⟨ys,q1,q2⟩:=h.own.2.2.2
  refine ⟨ys,?_,q2⟩
  rcases q1 with q|⟨g,e1,e2,e3,e4⟩
  ·exact .inl q
  ·refine .inr ⟨g,e1,e2,e3.same (hg.block g e3.lt (fun e=>?_)),e4⟩
   obtain ⟨zs,hz⟩:=(ho g e.symm).2
   have:=hz.symm.trans e3.1
   simp at this
 exact ⟨h1.set2 t',⟨hN.keep hk,(h.own.2.1.offTy ⟨o,hg,ho⟩).keep hk,(h.own.2.2.1.offTy ⟨o,hg,ho⟩).keep (fun j a b _=>hk j a b),h4.keep hk⟩,h2.setCell (show w0.heap.size<=(⟨w0.heap.size,2,none⟩:Addr).block from Nat.le_refl _) _⟩
theorem RX.bad{w0 w:World}{wa:Option Addr}{n c:Nat}{oa:Option Addr}{on oc:Nat}{x:DA}{bad:Bool}{d:Dat}(h:RX w0 w wa n c oa on oc x bad d)(b:Bool):RX w0 (w.setCell ⟨w0.heap.size,6,none⟩ (.bool b)) wa n c oa on oc x b d:=
 have H:=h.set 6 _ (h.blk.set6 b)
 ⟨H.1,H.2.1,H.2.2⟩
theorem new_ownN(B:Nat)(w:World)(s:Sl)(nm:List ByteArray)(h:Own1 B w s nm)(hB:B<=w.heap.size):OwnN B (w.alloc (.cells #[.slice s.a s.n s.c] 23)) (.slice (some ⟨w.heap.size,0,none⟩) 1 1) [nm]:=by
 refine ⟨[.slice s.a s.n s.c],.inr ⟨w.heap.size,rfl,hB,heap_alloc_new _ _,Nat.le_refl _,by simp[maxLen]⟩,fun i hi=>?_⟩
 have:i=0:=by simp at hi;omega
 subst this
 exact ⟨s,rfl,h.stays (new_below _ _)⟩
theorem start_rx(w:World)(wa:Option Addr)(n c:Nat)(oa:Option Addr)(on oc:Nat):RX w (w.alloc (.cells #[.slice wa n c,.slice oa on oc,.slice none 0 0,.slice none 0 0,.slice none 0 0,.slice none 0 0,.bool false] 198)) wa n c oa on oc nilDA false ⟨[],[],[],[]⟩:=
 ⟨heap_alloc_new _ _,⟨OwnN.nil _ _,⟨[],OwnV.nil _ _ _,rfl,by simp,by simp⟩,⟨[],OwnT.nil _ _ _,rfl⟩,⟨[],.inl ⟨rfl,rfl,rfl⟩,rfl⟩⟩,new_below _ _⟩
theorem rx_facts{w w1:World}{wa:Option Addr}{n c:Nat}{oa:Option Addr}{on oc:Nat}{x:DA}{bad:Bool}{d:Dat}(h:RX (w.alloc (.cells #[.slice none 0 0,.slice none 0 0,.slice none 0 0,.slice none 0 0] 48)) w1 wa n c oa on oc x bad d) :
  (w1.cell? ⟨w.heap.size+1,0,none⟩=some (.slice wa n c)/\w1.cell? ⟨w.heap.size+1,2,none⟩=some (.slice x.p1.a x.p1.n x.p1.c)/\w1.cell? ⟨w.heap.size+1,3,none⟩=some (.slice x.p2.a x.p2.n x.p2.c)/\w1.cell? ⟨w.heap.size+1,4,none⟩=some (.slice x.p3.a x.p3.n x.p3.c)/\w1.cell? ⟨w.heap.size+1,5,none⟩=some (.slice x.p4.a x.p4.n x.p4.c)/\w1.cell? ⟨w.heap.size+1,6,none⟩=some (.bool bad))/\
  DBlk w1 w.heap.size nilDA/\Below w.heap.size w w1/\DOwn (w.heap.size+2) w1 x d:=by
 have hsz:(w.alloc (.cells #[.slice none 0 0,.slice none 0 0,.slice none 0 0,.slice none 0 0] 48)).heap.size=w.heap.size+1:=by simp
 have h1:=h.blk.cells
 have h2:=h.bel.block w.heap.size (by rw[hsz];omega)
 have h3:=h.own
 have h4:=h.bel
 rw[hsz] at h1 h3 h4
 exact ⟨⟨h1.1,h1.2.2.1,h1.2.2.2.1,h1.2.2.2.2.1,h1.2.2.2.2.2.1,h1.2.2.2.2.2.2⟩,h2.trans (heap_alloc_new _ _),(new_below w _).trans (h4.mono (by omega)),h3⟩
theorem OwnV.blk{B:Nat}{w:World}{t:TypeId}{v:Value}{n:Nat}{xs:List Value}(h:OwnV B w t v n xs):∀g,v.ownBlock=some g->BlkV w g t xs:=by
 intro g hg
 rcases h with ⟨rfl,_⟩|⟨g',rfl,_,h3,_⟩
 ·cases hg
 ·have:g'=g:=Option.some.inj hg
  subst this;exact h3
theorem OwnV.off{B:Nat}{w w':World}{t t':TypeId}{v:Value}{n:Nat}{xs:List Value}(h:OwnV B w t v n xs){o:Option Nat}(hg:w.grownBy w' o)(ho:∀j,o=some j->∃zs,BlkV w j t' zs)(hne:t≠t'):OwnV B w' t v n xs:=
 h.keep fun g e hlt=>hg.block g hlt (fun e'=>by obtain ⟨zs,hz⟩:=ho g e'.symm;exact absurd (blk_ty (h.blk g e) hz) hne)
theorem Own1.off{B:Nat}{w w':World}{t':TypeId}{s:Sl}{us:List ByteArray}(h:Own1 B w s us){o:Option Nat}(hg:w.grownBy w' o)(ho:∀j,o=some j->∃zs,BlkV w j t' zs)(hne:(9:TypeId)≠t'):Own1 B w' s us:=by
 obtain ⟨ys,⟨h1,h2⟩,h3⟩:=h
 exact ⟨ys,⟨h1.off hg ho hne,h2⟩,h3⟩
theorem OwnN.off{B:Nat}{w w':World}{t':TypeId}{v:Value}{us:List (List ByteArray)}(h:OwnN B w v us){o:Option Nat}(hg:w.grownBy w' o)(ho:∀j,o=some j->∃zs,BlkV w j t' zs)(hne:(9:TypeId)≠t'∨us=[])(hne':(23:TypeId)≠t'):OwnN B w' v us:=by
 obtain ⟨xs,h1,h2⟩:=h
 refine ⟨xs,h1.off hg ho hne',fun i hi=>?_⟩
 rcases hne with hne|rfl
 ·obtain ⟨s,e1,e2⟩:=h2 i hi
  exact ⟨s,e1,e2.off hg ho hne⟩
 ·simp at hi
theorem UOwn.off{B:Nat}{w w':World}{t':TypeId}{s:Sl}{us:List Nat}(h:UOwn B w s us){o:Option Nat}(hg:w.grownBy w' o)(ho:∀j,o=some j->∃zs,BlkV w j t' zs)(hne:(43:TypeId)≠t'):UOwn B w' s us:=by
 obtain ⟨xs,h1,h2⟩:=h
 exact ⟨xs,h1.off hg ho hne,h2⟩
theorem BOwn.off{B:Nat}{w w':World}{t':TypeId}{s:Sl}{zs:List Int}(h:BOwn B w s zs){o:Option Nat}(hg:w.grownBy w' o)(ho:∀j,o=some j->∃zs,BlkV w j t' zs)(hne:(5:TypeId)≠t'):BOwn B w' s zs:=by
 obtain ⟨ys,q1,q2⟩:=h
 refine ⟨ys,?_,q2⟩
 rcases q1 with q|⟨g,e1,e2,e3,e4⟩
 ·exact .inl q
 ·refine .inr ⟨g,e1,e2,e3.same (hg.block g e3.lt (fun e=>?_)),e4⟩
  obtain ⟨zs,hz⟩:=ho g e.symm
  have:=hz.symm.trans e3.1
  simp at this
  exact absurd this.2.symm hne
theorem RX.app2{w0 w w':World}{wa:Option Addr}{n c:Nat}{oa:Option Addr}{on oc:Nat}{x:DA}{bad:Bool}{d:Dat}(h:RX w0 w wa n c oa on oc x bad d){o:Option Nat}(hg:w.grownBy w' o)(ho:∀j,o=some j->w0.heap.size+1<=j/\∃zs,BlkV w j 43 zs)
  (t':Sl) (us':List Nat) (hN:UOwn (w0.heap.size+1) w' t' us'):RX w0 (w'.setCell ⟨w0.heap.size,3,none⟩ (.slice t'.a t'.n t'.c)) wa n c oa on oc ⟨x.p1,t',x.p3,x.p4⟩ bad ⟨d.ns,us',d.ts,d.raw⟩:=by
 obtain ⟨h1,h2⟩:=h.grown hg (fun j e=>(ho j e).1)
 have hk:∀j,w0.heap.size+1<=j->j<w'.heap.size->(w'.setCell ⟨w0.heap.size,3,none⟩ (.slice t'.a t'.n t'.c)).heap[j]?=w'.heap[j]?:=fun j hj _=>Below.heap_setCell _ _ _ j (by show j≠w0.heap.size;omega)
 have ho':=fun j e=>(ho j e).2
 exact ⟨h1.set3 t',⟨(h.own.1.off hg ho' (.inl (by decide)) (by decide)).keep hk,hN.keep hk,(h.own.2.2.1.off hg ho' (by decide)).keep (fun j a b _=>hk j a b),(h.own.2.2.2.off hg ho' (by decide)).keep hk⟩,h2.setCell (show w0.heap.size<=(⟨w0.heap.size,3,none⟩:Addr).block from Nat.le_refl _) _⟩
theorem RX.app3{w0 w w':World}{wa:Option Addr}{n c:Nat}{oa:Option Addr}{on oc:Nat}{x:DA}{bad:Bool}{d:Dat}(h:RX w0 w wa n c oa on oc x bad d)(hns:d.ns=[]){o:Option Nat}(hg:w.grownBy w' o)(ho:∀j,o=some j->w0.heap.size+1<=j/\∃zs,BlkV w j 9 zs)
  (t':Sl) (ts':List ByteArray) (hN:Own1 (w0.heap.size+1) w' t' ts'):RX w0 (w'.setCell ⟨w0.heap.size,4,none⟩ (.slice t'.a t'.n t'.c)) wa n c oa on oc ⟨x.p1,x.p2,t',x.p4⟩ bad ⟨d.ns,d.us,ts',d.raw⟩:=by
 obtain ⟨h1,h2⟩:=h.grown hg (fun j e=>(ho j e).1)
 have hk:∀j,w0.heap.size+1<=j->j<w'.heap.size->(w'.setCell ⟨w0.heap.size,4,none⟩ (.slice t'.a t'.n t'.c)).heap[j]?=w'.heap[j]?:=fun j hj _=>Below.heap_setCell _ _ _ j (by show j≠w0.heap.size;omega)
 have ho':=fun j e=>(ho j e).2
 exact ⟨h1.set4 t',⟨(h.own.1.off hg ho' (.inr hns) (by decide)).keep hk,(h.own.2.1.off hg ho' (by decide)).keep hk,hN.keep (fun j a b _=>hk j a b),(h.own.2.2.2.off hg ho' (by decide)).keep hk⟩,h2.setCell (show w0.heap.size<=(⟨w0.heap.size,4,none⟩:Addr).block from Nat.le_refl _) _⟩
theorem RX.put4{w0 w:World}{wa:Option Addr}{n c:Nat}{oa:Option Addr}{on oc:Nat}{x:DA}{bad:Bool}{d:Dat}(h:RX w0 w wa n c oa on oc x bad d)(t':Sl)(zs:List Int)(hN:BOwn (w0.heap.size+1) w t' zs) :
  RX w0 (w.setCell ⟨w0.heap.size,5,none⟩ (.slice t'.a t'.n t'.c)) wa n c oa on oc ⟨x.p1,x.p2,x.p3,t'⟩ bad ⟨d.ns,d.us,d.ts,zs⟩:=by
 have hk:∀j,w0.heap.size+1<=j->j<w.heap.size->(w.setCell ⟨w0.heap.size,5,none⟩ (.slice t'.a t'.n t'.c)).heap[j]?=w.heap[j]?:=fun j hj _=>Below.heap_setCell _ _ _ j (by show j≠w0.heap.size;omega)
 exact ⟨h.blk.set5 t',⟨h.own.1.keep hk,h.own.2.1.keep hk,h.own.2.2.1.keep (fun j a b _=>hk j a b),hN.keep hk⟩,h.bel.setCell (show w0.heap.size<=(⟨w0.heap.size,5,none⟩:Addr).block from Nat.le_refl _) _⟩
theorem st_us{w:World}{ops:Array Oper}{o:Oper}{a:Act}{K:Act->World->Prop}{Q:Exit->Act->World->Prop}{E:Prop}(hgd:o.guard=none)(s x:Operand)
  (ho:o.op=.call { callee:=.builtin .append,args:=#[s,x],argTypes:=#[45,45] }) (B:Nat) (s2:Sl) (us:List Nat) (hs:a.eval s=.slice s2.a s2.n s2.c) (hown:UOwn B w s2 us)
  (ao:Addr) (hx:a.eval x=.slice (some ao) 1 1) (u:Nat) (hr:RdV w (some ao) [.int .u32 (u:Int)]) (hu:u<=4294967295) (hn:us.length<=1000) (hB:B<=w.heap.size)
  (h:∀(t':Sl) w',Hid (UOwn B w' t' (us++[u]))->Hid (∃o,w.grownBy w' o/\∀j,o=some j->B<=j/\∃zs,BlkV w j 43 zs)->K (a.put o.dst (.slice t'.a t'.n t'.c)) w') :
  if Region.wanted o (yielded ops a.tmps)=true then Oper.wp Tryz.prog o a w K Q else E:=by
 refine st_nums hgd s x ho B s2 us hs hown ao hx u hr hu hn hB ?_
 intro t' w' h1 h2
 obtain ⟨xs,hx1,_⟩:=hown
 exact h t' w' h1 ⟨_,h2.out.1,fun j e=>⟨h2.out.2 j e,xs,hx1.blk j e⟩⟩
theorem st_ts{w:World}{ops:Array Oper}{o:Oper}{a:Act}{K:Act->World->Prop}{Q:Exit->Act->World->Prop}{E:Prop}(hgd:o.guard=none)(s x:Operand)
  (ho:o.op=.call { callee:=.builtin .append,args:=#[s,x],argTypes:=#[22,22] }) (B:Nat) (s3:Sl) (ts:List ByteArray) (hs:a.eval s=.slice s3.a s3.n s3.c) (hown:Own1 B w s3 ts)
  (ao:Addr) (hx:a.eval x=.slice (some ao) 1 1) (u:ByteArray) (hr:RdT w (some ao) [u]) (hu:u.size<=1000000000000) (hn:ts.length<=1000000) (hB:B<=w.heap.size)
  (h:∀(t':Sl) w',Hid (Own1 B w' t' (ts++[u]))->Hid (∃o,w.grownBy w' o/\∀j,o=some j->B<=j/\∃zs,BlkV w j 9 zs)->K (a.put o.dst (.slice t'.a t'.n t'.c)) w') :
  if Region.wanted o (yielded ops a.tmps)=true then Oper.wp Tryz.prog o a w K Q else E:=by
 obtain ⟨ss,⟨q1,q2⟩,q3⟩:=hown
 have hM:∀s∈[u],s.size<=1000000000000:=by intro s hs;simp at hs;subst hs;exact hu
 refine step_append_row tyT hgd s x 22 ho B _ ts.length (tv ss) hs q1 _ 1 (tv [u]) hx (src_of Tryz.underlying22 hr rfl (tv_one [u])) (by omega) (by simp only[maxLen];omega) hB ?_
 intro v' w' xs' h1 h2 h3 h4
 obtain ⟨ys,rfl,hys⟩:=tv_of (M:=1000000000000) xs' (h4.out (QS 1000000000000) ⟨⟨#[]⟩,rfl,Nat.zero_le _⟩ (qs_tv q2) (qs_tv hM))
 obtain ⟨ao',rfl,_⟩:=h1.out.shape
 have h2':=h2.out
 rw[tv_take,tv_take,<- tv_append,q3] at h2'
 have h5:=tv_inj h2'
 rw[tv_len] at h1 ⊢
 exact h ⟨ao',ts.length+1,ys.length⟩ w' ⟨ys,⟨by simpa using h1.out,hys⟩,by simpa using h5⟩ ⟨_,h3.out,fun j e=>⟨q1.lt j e,_,q1.blk j e⟩⟩
def uz(z:Int):Int:=if 97<=z/\z<=122 then z - 32 else z
theorem uz_bd(z:Int)(h:0<=z/\z<=255):0<=uz z/\uz z<=255:=by unfold uz;split <;> omega
def FStG(l zs:List Int)(k:Nat):Prop:=l.length<=zs.length/\∀i,i<l.length->zs.getD i 0=if i<k then uz (l.getD i 0) else l.getD i 0
theorem FStG.done{l zs:List Int}(h:FStG l zs l.length):zs.take l.length=l.map uz:=by
 apply List.ext_getElem
 ·simp[h.1]
 ·intro i h1 h2
  have hi:i<l.length:=by simpa using h2
  have:=h.2 i hi
  rw[if_pos hi] at this
  simp[List.getD_eq_getElem?_getD,List.getElem?_eq_getElem hi,List.getElem?_eq_getElem (show i<zs.length by have:=h.1;omega)] at this
  simp[this]
theorem FStG.zero{l zs:List Int}(h:zs.take l.length=l)(hl:l.length<=zs.length):FStG l zs 0:=by
 refine ⟨hl,fun i hi=>?_⟩
 rw[if_neg (by omega)]
 conv=>rhs;rw[<- h]
 simp[List.getD_eq_getElem?_getD,List.getElem?_take,hi]
theorem FStG.same{l zs:List Int}{k:Nat}(h:FStG l zs k)(hf:uz (l.getD k 0)=l.getD k 0):FStG l zs (k+1):=by
 refine ⟨h.1,fun i hi=>?_⟩
 rw[h.2 i hi]
 by_cases e:i=k
 ·subst e;rw[if_neg (by omega),if_pos (by omega),hf]
 ·by_cases e2:i<k
  ·rw[if_pos e2,if_pos (by omega)]
  ·rw[if_neg e2,if_neg (by omega)]
theorem FStG.set{l zs:List Int}{k:Nat}(h:FStG l zs k)(hk:k<l.length):FStG l (zs.set k (uz (l.getD k 0))) (k+1):=by
 refine ⟨by rw[List.length_set];exact h.1,fun i hi=>?_⟩
 have hl:=h.1
 by_cases e:i=k
 ·subst e
  rw[if_pos (by omega)]
  simp[List.getD_eq_getElem?_getD,List.getElem?_set,show i<zs.length by omega]
 ·have:(zs.set k (uz (l.getD k 0))).getD i 0=zs.getD i 0:=by
   simp[List.getD_eq_getElem?_getD,List.getElem?_set,show ¬ k=i by omega]
  rw[this,h.2 i hi]
  by_cases e2:i<k
  ·rw[if_pos e2,if_pos (by omega)]
  ·rw[if_neg e2,if_neg (by omega)]
theorem great_any(s:ByteArray)(w:World)(hs:s.size<=9223372036854775807) :
  Calls Tryz.prog 168 #[.string s] w fun e w'=>e=.returned (.string ⟨(txt ((nums s).map uz)).toArray⟩)/\Hid (Below w.heap.size w w'):=by
 obtain ⟨zs,hc,hb,ht,hl⟩:=conv_new s w
 have H0:Hid (Blk2 (w.drew.alloc (.cells (zs.map (Value.int .u8)).toArray 5 (zs.length,zs.length+1))) w.heap.size zs/\FStG (nums s) zs 0/\Below w.heap.size w (w.drew.alloc (.cells (zs.map (Value.int .u8)).toArray 5 (zs.length,zs.length+1)))):=by
  refine ⟨hb,FStG.zero (by rw[nums_len];exact ht) (by rw[nums_len];exact hl),(Below.refl _ _).drew.alloc (Nat.le_refl _) _⟩
 have HLn:Hid (zs.length=zs.length):=rfl
 clear hb ht
 go_enter Tryz.func168,Tryz.ntmps168
 generalize hzl:zs.length=C at*
 have HZ:Hid (zs.length=C):=hzl
 clear hzl
 generalize (w.drew.alloc (.cells (zs.map (Value.int .u8)).toArray 5 (C,C+1)))=W0 at*
 go_wp2_with fail
 go_loopw [10] (fun x wr=>∃k:Nat,k<=s.size/\x=.int .i64 k/\Hid (∃ys,ys.length=C/\Blk2 wr w.heap.size ys/\FStG (nums s) ys k)/\Hid (Below w.heap.size w wr)) (fun x _=>s.size - (intOf x).toNat)
 case atStart=>exact ⟨0,Nat.zero_le _,rfl,⟨zs,HZ.out,H0.out.1,H0.out.2.1⟩,H0.out.2.2⟩
 case round=>
  obtain ⟨k,hk,rfl,HW,HB⟩:=hrel
  clear H0 hc
  by_cases hlt:k<s.size
  ·have hlt':(k:Int)<(s.size:Int):=by omega
   obtain ⟨ys,e1,e2,e3⟩:=HW.out
   have hcell:=e2.cell k (by omega)
   have hfr:=e2.frozen k (by omega)
   have hv:=e3.2 k (by rw[nums_len];exact hlt)
   rw[if_neg (by omega)] at hv
   rw[hv] at hcell
   have hbd:=nums_bd s k
   have HY:Hid (ys.length=C/\Blk2 wr w.heap.size ys/\FStG (nums s) ys k):=⟨e1,e2,e3⟩
   have HK:Hid (k<(nums s).length):=(show k<_ by rw[nums_len];exact hlt)
   have HF:Hid (uz ((nums s).getD k 0)=if 97<=(nums s).getD k 0/\(nums s).getD k 0<=122 then (nums s).getD k 0 - 32 else (nums s).getD k 0):=(show _=_ from rfl)
   have HS1:Hid (uz ((nums s).getD k 0)=(nums s).getD k 0->FStG (nums s) ys (k+1)):=fun h=>e3.same h
   have HS2:Hid (FStG (nums s) (ys.set k (uz ((nums s).getD k 0))) (k+1)):=e3.set HK.out
   clear e1 e2 e3 hv
   generalize (nums s).getD k 0=z at*
   by_cases hu:97<=z/\z<=122
   ·have hz1:uz z=z - 32:=by rw[HF.out,if_pos hu]
    rw[hz1] at HS2
    have HB3:Hid (Blk2 (wr.setCell ⟨w.heap.size,k,none⟩ (.int .u8 (z - 32))) w.heap.size (ys.set k (z - 32))/\Below w.heap.size w (wr.setCell ⟨w.heap.size,k,none⟩ (.int .u8 (z - 32)))):=⟨HY.out.2.1.stored k _ (by omega),HB.out.setCell (Nat.le_refl _) _⟩
    clear hz1
    go_wp2
    rw[show z - 97+65=z - 32 by omega]
    refine ⟨⟨k+1,by omega,by go_num,⟨_,?_,HB3.out.1,HS2.out⟩,HB3.out.2⟩,by simp[intOf];omega⟩
    rw[List.length_set];exact HY.out.1
   ·have hz1:uz z=z:=by rw[HF.out,if_neg hu]
    have HS3:Hid (FStG (nums s) ys (k+1)):=HS1.out hz1
    clear hz1 HS1 HS2
    have hor:z<97∨122<z:=by omega
    clear HF
    rcases hor with ho|ho
    all_goals
     go_wp2
     exact ⟨⟨k+1,by omega,by go_num,⟨ys,HY.out.1,HY.out.2.1,HS3.out⟩,HB.out⟩,by simp[intOf];omega⟩
  ·have hge:(s.size:Int)<=(k:Int):=by omega
   obtain ⟨ys,e1,e2,e3⟩:=HW.out
   have hks:k=s.size:=by omega
   have hd:ys.take s.size=(nums s).map uz:=by
    have:=FStG.done (l:=nums s) (zs:=ys) (by rw[nums_len,<- hks];exact e3)
    rw[nums_len] at this
    exact this
   have hrd:=e2.rd s.size
   rw[hd] at hrd
   have hcv:=conv_rd (some ⟨w.heap.size,0,none⟩) s.size C ((nums s).map uz) wr hrd (by rw[List.length_map,nums_len])
   clear hrd hd e1 e2 e3
   go_wp2
   go_ret
   exact ⟨rfl,HB.out⟩
end Go.Proofs.YtjkljpdolhglcaaGreatDoor
namespace Go.Proofs.YtjkljpdolhglcaaGreatDoor
open Go Go.Lib
def dv(l:List UInt8):Nat:=l.foldl (fun a b=>10*a+(b.toNat - 48)) 0
theorem dv_snoc(l:List UInt8)(b:UInt8):dv (l++[b])=10*dv l+(b.toNat - 48):=by
 simp[dv,List.foldl_append]
theorem dec_small{n:Nat}(h:n<10):decDigits n=[UInt8.ofNat (48+n)]:=by rw[decDigits,dif_pos h]
theorem dec_big{n:Nat}(h:¬ n<10):decDigits n=decDigits (n / 10)++[UInt8.ofNat (48+n % 10)]:=by rw[decDigits,dif_neg h]
theorem dig_toNat(d:Nat)(h:d<10):(UInt8.ofNat (48+d)).toNat=48+d:=by
 rw[UInt8.toNat_ofNat'];omega
theorem dv_dec(n:Nat):dv (decDigits n)=n:=by
 induction n using Nat.strongRecOn with
 |_ n ih=>
  by_cases h:n<10
  ·rw[dec_small h]
   simp only[dv,List.foldl_cons,List.foldl_nil]
   rw[dig_toNat n h];omega
  ·rw[dec_big h,dv_snoc,ih (n / 10) (by omega),dig_toNat _ (by omega)];omega
theorem dec_ne(n:Nat):decDigits n≠[]:=by
 by_cases h:n<10
 ·rw[dec_small h];simp
 ·rw[dec_big h];simp
theorem dec_digit(n:Nat):∀b∈decDigits n,48<=b.toNat/\b.toNat<=57:=by
 induction n using Nat.strongRecOn with
 |_ n ih=>
  by_cases h:n<10
  ·rw[dec_small h]
   intro b hb
   simp only[List.mem_singleton] at hb
   subst hb
   rw[dig_toNat n h];omega
  ·rw[dec_big h]
   intro b hb
   simp only[List.mem_append,List.mem_singleton] at hb
   rcases hb with hb|hb
   ·exact ih (n / 10) (by omega) b hb
   ·subst hb;rw[dig_toNat _ (by omega)];omega
theorem dec_len(n:Nat)(h:n<100000):(decDigits n).length<=5:=by
 rw[decDigits_length]
 have:∀k n:Nat,n<10 ^ (k+1)->nDigits n<=k+1:=by
  intro k
  induction k with
  |zero=>intro n h;rw[nDigits_small (by omega)];exact Nat.le_refl _
  |succ k ih=>
   intro n h
   by_cases h1:n<10
   ·rw[nDigits_small h1];omega
   ·rw[nDigits_big h1]
    have:=ih (n / 10) (by rw[Nat.pow_succ] at h;omega)
    omega
 exact this 4 n (by omega)
def numF(l:List UInt8)(below:Nat):Option Nat:=if l=decDigits (dv l)/\dv l<below then some (dv l) else none
theorem numF_dec(n below:Nat)(h:n<below):numF (decDigits n) below=some n:=by
 unfold numF;rw[dv_dec,if_pos ⟨rfl,h⟩]
theorem numF_some{l:List UInt8}{below n:Nat}(h:numF l below=some n):l=decDigits n/\n<below:=by
 unfold numF at h
 split at h
 ·rename_i hh
  have:=Option.some.inj h
  subst this
  exact hh
 ·cases h
theorem numF_none{l:List UInt8}{below:Nat}(h:∀n,n<below->l≠decDigits n):numF l below=none:=by
 cases e:numF l below with
 |none=>rfl
 |some n=>exact absurd (numF_some e).1 (h n (numF_some e).2)
theorem decFrom_app:∀(l r:List UInt8) (acc:Nat),decFrom acc (l++r)=(decFrom acc l).bind fun a=>decFrom a r
 |[],r,acc=>rfl
 |b::l,r,acc=>by
  simp only[List.cons_append,decFrom]
  cases digitVal b with
  |none=>rfl
  |some d=>exact decFrom_app l r _
theorem decFrom_dec(n:Nat):decFrom 0 (decDigits n)=some n:=by
 induction n using Nat.strongRecOn with
 |_ n ih=>
  by_cases h:n<10
  ·rw[dec_small h]
   simp only[decFrom,digitVal,dig_toNat n h]
   rw[if_pos (by omega)]
   simp
  ·rw[dec_big h,decFrom_app,ih (n / 10) (by omega)]
   simp only[Option.bind_some,decFrom,digitVal,dig_toNat _ (show n % 10<10 by omega)]
   rw[if_pos (by omega)]
   simp;omega
theorem atoi_dec(n:Nat)(h:n<100000):atoiAll (decDigits n)=.ok (n:Int):=by
 rw[atoiAll_short _ (by have:=dec_len n h;omega)]
 have e:decNat (decDigits n)=some n:=by
  unfold decNat
  rw[if_neg (by simp[dec_ne n]),decFrom_dec]
 have:atoi (decDigits n)=some (n:Int):=by
  cases hd:decDigits n with
  |nil=>exact absurd hd (dec_ne n)
  |cons b r=>
   have hb:=dec_digit n b (by rw[hd];simp)
   have h1:(b == 45)=false:=by
    cases hq:b == 45 with
    |false=>rfl
    |true=>have:=eq_of_beq hq;subst this;simp at hb
   have h2:(b == 43)=false:=by
    cases hq:b == 43 with
    |false=>rfl
    |true=>have:=eq_of_beq hq;subst this;simp at hb
   simp only[atoi,h1,h2,<- hd,e]
   rfl
 rw[this];rfl
abbrev Own4:=List (List UInt8 × Nat)
def tellF(ps:Own4)(pre:List UInt8)(n:Nat):List UInt8:=
 match ps.find? (fun p=>p.2 == n) with
 |some p=>p.1
 |none=>pre++decDigits n
def digF(ps:Own4)(pre s:List UInt8):Option (List UInt8):=
 match ps.find? (fun p=>p.1 == s) with
 |some p=>some (decDigits p.2)
 |none=>if pre.isPrefixOf s then some (s.drop pre.length) else none
def readC(ps:Own4)(pre:List UInt8)(below:Nat)(s:List UInt8):Option Nat:=(digF ps pre s).bind fun l=>numF l below
def flatC(ps:Own4):List (List UInt8):=ps.flatMap fun p=>[p.1,decDigits p.2]
theorem flatC_len(ps:Own4):(flatC ps).length=2*ps.length:=by
 induction ps with
 |nil=>rfl
 |cons p ps ih=>simp[flatC] at ih ⊢;omega
theorem flatC_at:∀(ps:Own4) (j:Nat) (p:List UInt8 × Nat),ps[j]?=some p->(flatC ps)[2*j]?=some p.1/\(flatC ps)[2*j+1]?=some (decDigits p.2)
 |[],j,p,h=>by simp at h
 |q::ps,0,p,h=>by
  simp at h;subst h
  simp[flatC]
 |q::ps,j+1,p,h=>by
  have:=flatC_at ps j p (by simpa using h)
  simp only[flatC,List.flatMap_cons,List.cons_append,List.nil_append] at this ⊢
  rw[show 2*(j+1)=2*j+2 by omega,show 2*j+2+1=(2*j+1)+2 by omega]
  simpa using this
theorem find_step{α:Type}(f:α->Bool)(l:List α)(j:Nat)(h:∀p∈l.take j,f p=false)(p:α)(hp:l[j]?=some p) :
  (f p=true->l.find? f=some p)/\(f p=false->∀q∈l.take (j+1),f q=false):=by
 have hj:j<l.length:=(List.getElem?_eq_some_iff.1 hp).1
 have e:l[j]=p:=by rw[List.getElem?_eq_getElem hj] at hp;exact Option.some.inj hp
 constructor
 ·intro hf
  have:l=l.take j++p::l.drop (j+1):=by rw[<- e,<- List.drop_eq_getElem_cons hj,List.take_append_drop]
  rw[this,List.find?_append,List.find?_eq_none.2 (fun x hx=>by rw[h x hx];simp)]
  simp[hf]
 ·intro hf q hq
  rw[List.take_succ_eq_append_getElem hj,e] at hq
  simp only[List.mem_append,List.mem_singleton] at hq
  rcases hq with hq|hq
  ·exact h q hq
  ·subst hq;exact hf
theorem find_end{α:Type}(f:α->Bool)(l:List α)(j:Nat)(h:∀p∈l.take j,f p=false)(hj:l.length<=j):l.find? f=none:=by
 rw[List.take_of_length_le hj] at h
 exact List.find?_eq_none.2 (fun x hx=>by rw[h x hx];simp)
end Go.Proofs.YtjkljpdolhglcaaGreatDoor
namespace Go.Proofs.YtjkljpdolhglcaaGreatDoor
open Go.ChangeShapes Go.WideShapes Go.ChangeAt Go.RowKit
def KOk(s:ByteArray)(ps:Own4):Prop:=s.size<4294967281/\(∀(j:Nat) b,s.data.toList[j]?=some b->b.toNat<128)/\Lib.fields s.data.toList=flatC ps/\ps.length<=1000/\∀p∈ps,p.2<65536
theorem fields_any(s:ByteArray)(ps:Own4)(w:World)(hK:KOk s ps)(hL:LayT w) :
  Calls Tryz.prog 177 #[.string s] w fun e w'=>e=.returned (.slice (some ⟨w.heap.size,0,none⟩) (2*ps.length) (2*ps.length))/\
   Hid (Below w.heap.size w w'/\∀j p,ps[j]?=some p->w'.cell? ⟨w.heap.size,2*j,none⟩=some (.string ⟨p.1.toArray⟩)/\w'.cell? ⟨w.heap.size,2*j+1,none⟩=some (.string ⟨(Lib.decDigits p.2).toArray⟩)):=by
 refine (Tryz.strings_Fields s w hK.1 hK.2.1 hL.2.1).mono ?_
 rintro e w' ⟨rfl,rfl⟩
 rw[hK.2.2.1,flatC_len]
 refine ⟨rfl,(Below.refl _ _).alloc (Nat.le_refl _) _,fun j p hp=>?_⟩
 obtain ⟨h1,h2⟩:=flatC_at ps j p hp
 constructor
 ·unfold World.cell?;rw[heap_alloc_new];simp[h1]
 ·unfold World.cell?;rw[heap_alloc_new];simp[h2]
def qs(l:List Int):List Value:=(34::xq l).map (Value.int .u8)
theorem index_any(s:ByteArray)(c:Int)(w:World) :
  Calls Tryz.prog 80 #[.string s,.int .u8 c] w fun e w'=>e=.returned (.int .i64 (Lib.indexByte s.data.toList c.toNat.toUInt8))/\w'=w:=by
 have h:=call96 s c
 go_enter Tryz.func80,Tryz.ntmps80
 go_wp2
 go_ret
 exact ⟨rfl,rfl⟩
def wv(c:Int):Int:=
 if Lib.indexByte [48,49,50,51,52,53,54,55,56,57,97,98,99,100,101,102] c.toNat.toUInt8<Lib.indexByte [48,49,50,51,52,53,54,55,56,57,65,66,67,68,69,70] c.toNat.toUInt8
 then Lib.indexByte [48,49,50,51,52,53,54,55,56,57,65,66,67,68,69,70] c.toNat.toUInt8 else Lib.indexByte [48,49,50,51,52,53,54,55,56,57,97,98,99,100,101,102] c.toNat.toUInt8
theorem worth_any (c : Int) (w : World) :
    Calls Tryz.prog 170 #[.int .u8 c] w fun e w' => e = .returned (.int .i64 (wv c)) /\ w' = w := by
  go_enter Tryz.func170, Tryz.ntmps170
  go_wp2_with fail
  refine (index_any _ _ _).mono ?_
  rintro e w1 ⟨rfl, rfl⟩
  go_wp2_with fail
  refine (index_any _ _ _).mono ?_
  rintro e w1 ⟨rfl, rfl⟩
  go_wp2
  all_goals go_ret
  all_goals refine ⟨?_, rfl⟩
  all_goals
    first
    | (unfold wv; rw [if_pos (by assumption)]; rfl)
    | (unfold wv; rw [if_neg (by apply Int.not_lt.2; assumption)]; rfl)
    | (show Ending.returned (Value.int .i64 (max (Lib.indexByte [48, 49, 50, 51, 52, 53, 54, 55, 56, 57, 97, 98, 99, 100, 101, 102] c.toNat.toUInt8) (Lib.indexByte [48, 49, 50, 51, 52, 53, 54, 55, 56, 57, 65, 66, 67, 68, 69, 70] c.toNat.toUInt8))) = _
       have h2 : max (Lib.indexByte [48, 49, 50, 51, 52, 53, 54, 55, 56, 57, 97, 98, 99, 100, 101, 102] c.toNat.toUInt8) (Lib.indexByte [48, 49, 50, 51, 52, 53, 54, 55, 56, 57, 65, 66, 67, 68, 69, 70] c.toNat.toUInt8) = wv c := by
         unfold wv
         rw [Int.max_def]
         split <;> split <;> omega
       rw [h2])
theorem wv_bd(c:Int)(h:0<=c/\c<=255):-1<=wv c/\wv c<16:=by
 obtain ⟨n,rfl⟩:=Int.eq_ofNat_of_zero_le h.1
 have hn:n<256:=by omega
 have:∀m:Nat,m<256 -> -1<=wv (m:Int)/\wv (m:Int)<16:=by decide +kernel
 exact this n hn
def dg(d:Int):Int:=if d<10 then 48+d else 87+d
def pv(l:List Int)(k:Nat):Int:=wv (l.getD (2*k) 0)*16+wv (l.getD (2*k+1) 0)
def okp(l:List Int)(k:Nat):Prop:=0<=wv (l.getD (2*k) 0)/\0<=wv (l.getD (2*k+1) 0)
def prs(l:List Int)(k:Nat):List Int:=(List.range k).map (pv l)
theorem prs_succ(l:List Int)(k:Nat):prs l (k+1)=prs l k++[pv l k]:=by simp[prs,List.range_succ]
theorem prs_len(l:List Int)(k:Nat):(prs l k).length=k:=by simp[prs]
theorem or16(a b:Int)(ha:0<=a/\a<16)(hb:0<=b/\b<16):bits .or .i64 (a*16) b=a*16+b:=by
 obtain ⟨m,rfl⟩:=Int.eq_ofNat_of_zero_le ha.1
 obtain ⟨n,rfl⟩:=Int.eq_ofNat_of_zero_le hb.1
 have:∀m:Nat,m<16->∀n:Nat,n<16->bits .or .i64 ((m:Int)*16) (n:Int)=(m:Int)*16+(n:Int):=by decide +kernel
 exact this m (by omega) n (by omega)
theorem unhex_long(s:ByteArray)(w:World)(h:131070<s.size)(hs:s.size<=9223372036854775807) :
  Calls Tryz.prog 152 #[.string s] w fun e w'=>e=.returned (.tuple #[.slice none 0 0,.int .i64 3])/\w'=w:=by
 have h':(131070:Int)<(s.size:Int):=by omega
 go_enter Tryz.func152,Tryz.ntmps152
 go_wp2
 go_ret2
 exact ⟨rfl,rfl⟩
theorem unhex_odd(s:ByteArray)(w:World)(h:s.size<=131070)(ho:s.size % 2=1) :
  Calls Tryz.prog 152 #[.string s] w fun e w'=>e=.returned (.tuple #[.slice none 0 0,.int .i64 110])/\w'=w:=by
 have h':¬ (131070:Int)<(s.size:Int):=by omega
 have h2:((s.size:Int) % 2 != 0)=true:=by rw[bne_iff_ne];omega
 go_enter Tryz.func152,Tryz.ntmps152
 go_wp2
 go_ret2
 exact ⟨rfl,rfl⟩
theorem unhex_even(s:ByteArray)(n:Nat)(w:World)(hn:s.size=2*n)(h:s.size<=131070) :
  Calls Tryz.prog 152 #[.string s] w fun e w'=>((∃k,k<n/\¬ okp (nums s) k)/\e=.returned (.tuple #[.slice none 0 0,.int .i64 110])/\Below w.heap.size w w') ∨
   ((∀k,k<n->okp (nums s) k)/\∃ao ys,e=.returned (.tuple #[.slice ao n ys.length,.int .i64 0])/\OwnA w.heap.size w' ao n ys/\ys.take n=prs (nums s) n/\Below w.heap.size w w'):=by
 have HN:Hid (s.size=2*n):=hn
 have h1:¬ (131070:Int)<(s.size:Int):=by omega
 have h2:((s.size:Int) % 2 != 0)=false:=by rw[bne_eq_false_iff_eq];omega
 have h3:(s.size:Int) / 2=(n:Int):=by omega
 have hn2:n<=65535:=by omega
 clear hn
 go_enter Tryz.func152,Tryz.ntmps152
 go_wp2_with (at_make;refine wpList_make_blk _ rfl _ _ rfl 0 n _ _ rfl rfl (by rfl) (by omega) (by omega) (by omega) ?_)
 have HO:Hid (Own w.heap.size (w.alloc (.cells (Array.replicate n (Value.int .u8 0)) 5)) (.slice (some ⟨w.heap.size,0,none⟩) 0 n) 0 (List.replicate n 0)/\Below w.heap.size w (w.alloc (.cells (Array.replicate n (Value.int .u8 0)) 5))):=by
  refine ⟨.inr ⟨w.heap.size,by simp,Nat.le_refl _,⟨by rw[heap_alloc_new];simp,fun z hz=>?_⟩,Nat.zero_le _,by simp only[List.length_replicate,maxLen];omega⟩,(Below.refl _ _).alloc (Nat.le_refl _) _⟩
  rw[(List.mem_replicate.1 hz).2];omega
 go_loopw [4,5] (fun v x wr=>∃k i:Nat,k<=n/\Hid (i=2*k)/\x=.int .i64 i/\Hid (∃ys,Own w.heap.size wr v k ys/\ys.take k=prs (nums s) k)/\Hid (Below w.heap.size w wr)/\Hid (∀j,j<k->okp (nums s) j)) (fun _ x _=>s.size - (intOf x).toNat)
 case atStart=>exact ⟨0,0,Nat.zero_le _,rfl,rfl,⟨_,HO.out.1,rfl⟩,HO.out.2,fun j hj=>absurd hj (by omega)⟩
 case round=>
  obtain ⟨k,i,hk,HI,rfl,HW,HB,HP⟩:=hrel
  clear HO
  by_cases hlt:k<n
  ·have hi1:i+1<s.size:=by have:=HI.out;have:=HN.out;omega
   have hi0:i<s.size:=by omega
   have hi1':(i:Int)+1<(s.size:Int):=by omega
   have hi0':(i:Int)<(s.size:Int):=by omega
   have hw1:IntKind.i64.wrap ((i:Int)+1)=(i:Int)+1:=by rw[IntKind.wrap_i64];omega
   go_wp2_with fail
   go_region_held3 (fun _=>True) (trivial) (first
    |(go_at_call 170;refine (worth_any _ _).mono ?_;rintro e w2 ⟨rfl,rfl⟩))
   all_goals
    have e0:(nums s).getD (2*k) 0=(s[i].toNat:Int):=by rw[<- HI.out];exact nums_at s i hi0
    have e1:(nums s).getD (2*k+1) 0=(s[i+1].toNat:Int):=by rw[<- HI.out];exact nums_at s (i+1) hi1
    have HOK:Hid (okp (nums s) k↔0<=wv (s[i].toNat:Int)/\0<=wv (s[i+1].toNat:Int)):=by unfold okp;rw[e0,e1];exact Iff.rfl
    have HPV:Hid (pv (nums s) k=wv (s[i].toNat:Int)*16+wv (s[i+1].toNat:Int)):=by unfold pv;rw[e0,e1];rfl
    have b0:=wv_bd (s[i].toNat:Int) (by have:=s[i].toNat_lt;omega)
    have b1:=wv_bd (s[i+1].toNat:Int) (by have:=s[i+1].toNat_lt;omega)
    clear e0 e1
    generalize wv (s[i].toNat:Int)=c0 at*
    generalize wv (s[i+1].toNat:Int)=c1 at*
    by_cases ha:c0<0
    ·go_wp2
     go_ret2
     exact .inl ⟨⟨k,hlt,fun h=>by have:=(HOK.out.1 h).1;omega⟩,rfl,HB.out.drew⟩
    by_cases hb:c1<0
    ·go_wp2
     go_ret2
     exact .inl ⟨⟨k,hlt,fun h=>by have:=(HOK.out.1 h).2;omega⟩,rfl,HB.out.drew⟩
    have hz:=or16 c0 c1 (by omega) (by omega)
    have hz2:(c0*16+c1) % 256=c0*16+c1:=by omega
    obtain ⟨ys,hO,hT⟩:=HW.out
    have hnb:Below wr.heap.size wr (wr.alloc (.cells #[.int .u8 (c0*16+c1)] 5)).drew:=((Below.refl _ _).alloc (Nat.le_refl _) _).drew
    have HO2:Hid (Own w.heap.size (wr.alloc (.cells #[.int .u8 (c0*16+c1)] 5)).drew u4 k ys/\ys.take k=prs (nums s) k):=⟨hO.below hnb,hT⟩
    have HR2:Hid (Rd (wr.alloc (.cells #[.int .u8 (c0*16+c1)] 5)).drew (some ⟨wr.heap.size,0,none⟩) [c0*16+c1]):=(new_rd wr (c0*16+c1) (by omega)).drew
    have HNB:Hid (Below wr.heap.size wr (wr.alloc (.cells #[.int .u8 (c0*16+c1)] 5)).drew):=hnb
    clear hO hT hnb
    go_wp2_with (at_builtin;refine wpList_append_blk _ rfl _ _ rfl w.heap.size _ k ys rfl HO2.out.1 (some ⟨wr.heap.size,0,none⟩) 1 1 [c0*16+c1] rfl HR2.out rfl (by simp) (by omega) (Nat.le_trans HB.out.size HNB.out.size) ?_;intro v' w' ys' hO' hT' hG')
    have hrow:=HO2.out.1.lt
    refine ⟨⟨k+1,i+2,by omega,(show i+2=2*(k+1) by have:=HI.out;omega),by go_num,⟨ys',hO'.out,?_⟩,?_,?_⟩,by simp[intOf];omega⟩
    ·rw[hT'.out,HO2.out.2,prs_succ,HPV.out]
    ·exact (HB.out.trans (HNB.out.mono HB.out.size)).grown hG' (Nat.le_trans HB.out.size HNB.out.size) hrow
    ·intro j hj
     by_cases e:j=k
     ·rw[e];exact HOK.out.2 ⟨by omega,by omega⟩
     ·exact HP.out j (by omega)
  ·obtain rfl:k=n:=by omega
   obtain ⟨ys,hO,hT⟩:=HW.out
   obtain ⟨ao,rfl,hoa⟩:=hO.addr
   have hge:(s.size:Int)<=(i:Int):=by have:=HI.out;have:=HN.out;omega
   have HF:Hid (OwnA w.heap.size wr ao k ys/\ys.take k=prs (nums s) k):=⟨hoa,hT⟩
   clear hO hT hoa
   generalize hy:ys.length=yl
   have HY:Hid (ys.length=yl):=hy
   clear hy
   go_wp2
   go_ret2
   exact .inr ⟨HP.out,ao,ys,by rw[HY.out];rfl,HF.out.1,HF.out.2,HB.out⟩
theorem next_none(w0 w:World)(wa:Option Addr)(c:Nat)(oa:Option Addr)(on oc:Nat)(x:DA)(bad:Bool)(d:Dat)(h:RX w0 w wa 0 c oa on oc x bad d) :
  Calls Tryz.prog 175 #[.pointer (some ⟨w0.heap.size,0,none⟩)] w fun e w'=>e=.returned (.string ⟨#[]⟩)/\Hid (RX w0 w' wa 0 c oa on oc x true d):=by
 have HX:=Lib.hid h
 have d0:=h.blk.cells.1
 have f6:=h.blk.fz 6
 have d6:=h.blk.cells.2.2.2.2.2.2
 clear h
 go_enter Tryz.func175,Tryz.ntmps175
 go_wp2_with fail
 go_ret
 exact ⟨rfl,HX.out.bad true⟩
def GW(B:Nat)(w:World)(b:Nat)(bs:List Value):Prop:=
 ∃v,BB w b (.pointer (some ⟨b,0,none⟩)) v/\w.ownsRow B 5 1 v bs.length bs/\v.ownBlock≠some b/\(bs=[]->v=.slice none 0 0)
def G2(B:Nat)(w:World)(b:Nat)(bs:List Value):Prop:=(BB w b (.pointer none) (.slice none 0 0)/\bs=[])∨GW B w b bs
theorem bcheckU(B b:Nat)(bs:List Value)(w:World)(h:G2 B w b bs)(hB:B<=b) :
  Calls Tryz.prog 39 #[.pointer (some ⟨b,0,none⟩)] w fun e w'=>e=.returned (.tuple #[])/\Hid (GW B w' b bs/\Below B w w'):=by
 rcases h with ⟨h1,rfl⟩|⟨v,h1,h3,h4⟩
 ·refine (check_fresh b _ w h1).mono ?_
  rintro e w' ⟨rfl,rfl⟩
  refine ⟨rfl,⟨.slice none 0 0,?_,World.ownsRow_nil _ _ _ _,by simp[Value.ownBlock],fun _=>rfl⟩,(Below.refl _ _).setCell hB _⟩
  have:=heap_set h1 0 (.pointer (some ⟨b,0,none⟩))
  simpa [BB] using this
 ·refine (check_used b v w h1).mono ?_
  rintro e w' ⟨rfl,rfl⟩
  exact ⟨rfl,⟨v,h1,h3,h4⟩,Below.refl _ _⟩
theorem wstrU(B b:Nat)(bs:List Value)(s:ByteArray)(w:World)(h:G2 B w b bs)(hB:B<=b)(hl:bs.length+s.size<=140737488355328) :
  Calls Tryz.prog 20 #[.pointer (some ⟨b,0,none⟩),.string s] w fun e w'=>e=.returned (.tuple #[.int .i64 s.size,.nilIface])/\Hid (GW B w' b (bs++Lib.byteCells s.data.toList)/\Below B w w'):=by
 have HG:Hid (G2 B w b bs):=h
 have hcl:(Lib.byteCells s.data.toList).length=s.size:=by rw[Lib.byteCells_length];rfl
 have HCL:Hid ((Lib.byteCells s.data.toList).length=s.size):=hcl
 clear h hcl
 go_enter Tryz.func20,Tryz.ntmps20
 go_wp2_with fail
 refine (bcheckU B b bs _ HG.out hB).mono ?_
 rintro e w1 ⟨rfl,H1⟩
 obtain ⟨v,h1,h2,h4,h5⟩:=H1.out.1
 have HV:Hid (bs=[]->v=.slice none 0 0):=h5
 clear h5
 have HB1:Hid (Below B w w1):=H1.out.2
 have HB:Hid (BB w1 b (.pointer (some ⟨b,0,none⟩)) v/\w1.ownsRow B 5 1 v bs.length bs):=⟨h1,h2⟩
 have c1:=h1.c1
 have hlt:=h1.lt
 clear h1 h2 H1 HG
 obtain ⟨i5,hi,hz0,hz1,hz2⟩:=info_parts Tryz.info5
 have HI:Hid (Tryz.prog.info? 5=some i5/\i5.zero=some (.int .u8 0)/\i5.size=1/\i5.bytes=1):=⟨hi,hz0,hz1,hz2⟩
 clear hi hz0 hz1 hz2
 go_wp2_with (at_builtin;refine Lib.wpList_append_own_string _ rfl _ _ 46 9 rfl B 5 i5 Tryz.underlying46 Tryz.underlying9 HI.out.1 HI.out.2.1 HI.out.2.2.1 HI.out.2.2.2 v bs.length bs rfl HB.out.2 s rfl (by simp only[maxLen];omega) (by omega) (by omega) ?_;intro v' w2 hown2 hgr2 hnil;obtain ⟨ao,cc,rfl⟩:=row_shape hown2;have hbk:Hid (w2.heap[b]?=w1.heap[b]?):=(hgr2.block b hlt (fun e=>h4 e.symm));have d1:=(HB.out.1.same hbk.out).c1;have d2:=(HB.out.1.same hbk.out).fz 1;have HG2:Hid (w1.grownBy w2 v.ownBlock/\w2.ownsRow B 5 1 (.slice ao (bs.length+s.size) cc) (bs.length+s.size) (bs++Lib.byteCells s.data.toList)):=⟨hgr2,by rw[<- strCells_eq];exact hown2⟩;have HNIL:Hid (Value.slice ao (bs.length+s.size) cc=.slice none 0 0↔v=.slice none 0 0/\s.size=0):=hnil;clear hown2 hgr2 hnil)
 go_ret2
 have hb2:=HB.out.1.same hbk.out
 have hrow:∀g,v.ownBlock=some g->B<=g:=fun g hg=>(HB.out.2.lt g hg).1
 have hbel:Below B w1 w2:=(Below.refl B w1).grown HG2.out.1 (by omega) hrow
 have hne:(Value.slice ao (bs.length+s.size) cc).ownBlock≠some b:=by
  intro e
  obtain ⟨_,hc|⟨g,cap,cur,hv,_,hg,_⟩⟩:=HG2.out.2
  ·rw[hc.1] at e;simp[Value.ownBlock] at e
  ·rw[hv] at e
   have e2:g=b:=by simpa [Value.ownBlock] using e
   rw[e2] at hg
   have hb3:w2.heap[b]?=_:=hb2
   rw[hb3] at hg
   injection hg with hg
   injection hg with _ hg _
   exact absurd hg (by decide)
 refine ⟨rfl,⟨.slice ao (bs.length+s.size) cc,?_,?_,hne,fun e=>HNIL.out.2 ⟨HV.out (List.append_eq_nil_iff.1 e).1,by have:=HCL.out;rw[(List.append_eq_nil_iff.1 e).2] at this;exact this.symm⟩⟩,HB1.out.trans (hbel.setCell hB _)⟩
 ·have:=heap_set hb2 1 (.slice ao (bs.length+s.size) cc)
  simpa [BB] using this
 ·have:=row_set HG2.out.2 hne 1 (.slice ao (bs.length+s.size) cc)
  rw[List.length_append,HCL.out]
  exact this
theorem wstringU(B b:Nat)(l:List UInt8)(w:World)(h:G2 B w b (Lib.byteCells l))(hl:l.length<=9223372036854775807) :
  Calls Tryz.prog 22 #[.pointer (some ⟨b,0,none⟩)] w fun e w'=>e=.returned (.string ⟨l.toArray⟩)/\Hid (Below B w w'):=by
 rcases h with h|⟨v,h1,h2,h4,h5⟩
 ·exact wstring B b l w (.inl h) hl
 ·have hlen:=Lib.byteCells_length l
  rcases h2.2 with ⟨hv,h0⟩|⟨g,cap,cur,rfl,hBg,hg,hn,hm,hs,hx⟩
  ·have hl0:l=[]:=List.eq_nil_of_length_eq_zero (by omega)
   subst hl0
   subst hv
   have c1:=h1.c1
   have s1:∀(W:World) (ts:Array TypeId) (ty:TypeId),(Builtin.unsafeSliceData_ ts ty #[.slice none 0 0]).run Tryz.prog W=.ok (.pointer none) W:=fun W ts ty=>Lib.run_unsafeSliceData_nil W ts ty 0 0
   have s2:∀(W:World) (ty:TypeId),(Builtin.unsafeString_ #[103,3] ty #[.pointer none,.int .i64 0]).run Tryz.prog W=.ok (.string .empty) W:=fun W ty=>Lib.run_unsafeString_none W 103 3 ty none
   clear h1 h0 h2
   go_enter Tryz.func22,Tryz.ntmps22
   go_wp2_with fail
   go_region_held3 (fun W=>W.cell? ⟨b,1,none⟩=some (.slice none 0 0)) (go_keep) (fail)
   go_wp2
   go_ret
   exact ⟨rfl,(Below.refl _ _).drew⟩
  ·have hne:0<(Lib.byteCells l).length:=by
    apply List.length_pos_iff.2
    intro e
    have:=h5 e
    simp at this
   exact bstring B b l.length l w (.inr ⟨g,cap,h1,h2,by omega,fun e=>h4 (by rw[e];rfl),(h2.lt g rfl).2,by omega⟩) rfl hl
def catL(ps:List Wd):List UInt8:=ps.flatMap fun p=>p.1.data.toList
theorem catL_snoc(ps:List Wd)(k:Nat)(h:k<ps.length):catL (ps.take (k+1))=catL (ps.take k)++ps[k].1.data.toList:=by
 unfold catL
 rw[List.take_add_one,List.getElem?_eq_getElem h,Option.toList_some,List.flatMap_append]
 simp
theorem catL_le(ps:List Wd)(k:Nat):(catL (ps.take k)).length<=(catL ps).length:=by
 have:catL ps=catL (ps.take k)++catL (ps.drop k):=by
  unfold catL
  rw[<- List.flatMap_append,List.take_append_drop]
 rw[this];simp
theorem cells_app(a b:List UInt8):Lib.byteCells (a++b)=Lib.byteCells a++Lib.byteCells b:=by simp[Lib.byteCells]
theorem G2.below{B b:Nat}{w w':World}{bs:List Value}(h:G2 B w b bs)(hb:Below w.heap.size w w'):G2 B w' b bs:=by
 rcases h with ⟨h1,h2⟩|⟨v,h1,h2,h3,h4⟩
 ·exact .inl ⟨h1.same (hb.block _ h1.lt),h2⟩
 ·exact .inr ⟨v,h1.same (hb.block _ h1.lt),h2.kept (row:=none) ⟨hb.os,hb.tape,hb.output,hb.size,fun k hk _=>hb.block k hk⟩ (by cases hv:v.ownBlock with|none=>exact .inl rfl|some g=>exact .inr (by simp)),h3,h4⟩
theorem OwnA.capb{B:Nat}{w:World}{ao:Option Addr}{n:Nat}{ys:List Int}(h:OwnA B w ao n ys):(n<=ys.length/\ys.length<=9223372036854775807)/\(ao=none->ys.length=0):=by
 rcases h with ⟨rfl,rfl,rfl⟩|⟨g,rfl,_,_,h1,h2⟩
 ·simp
 ·exact ⟨⟨h1,by simpa only[maxLen] using h2⟩,by simp⟩
theorem RdW.at{w:World}{b o:Nat}{p:Wd}{ps:List Wd}(h:RdW w (some ⟨b,o,none⟩) (p::ps))(k:Nat)(hk:k<ps.length):b<w.heap.size/\w.cell? ⟨b,o+2+k*2,none⟩=some (.string ps[k].1)/\w.cell? ⟨b,o+2+k*2+1,none⟩=some (.bool ps[k].2):=by
 rcases h with h|⟨b',o',e,h2,h3⟩
 ·cases h
 ·injection e with e
  injection e with e1 e2
  subst e1;subst e2
  have:=h3 (k+1) (by simp;omega)
  rw[show o+2*(k+1)=o+2+k*2 by omega] at this
  exact ⟨h2,this.1,this.2⟩
abbrev nilB(w:World):World:=w.alloc (.cells #[.slice none 0 0,.slice none 0 0,.slice none 0 0,.slice none 0 0] 48)
abbrev Pst:=List Wd × Dat
def tkB:List Wd->Option (ByteArray × List Wd)
 |(s,false)::r=>some (s,r)
 |_=>none
def tkN:List Wd->Option (ByteArray × List Wd)
 |(s,_)::r=>some (s,r)
 |[]=>none
def stp{α:Type}(tk:List Wd->Option (ByteArray × List Wd))(g:ByteArray->Option α)(put:Dat->α->Dat)(p:Pst):Option Pst:=(tk p.1).bind fun q=>(g q.1).map fun v=>(q.2,put p.2 v)
def gName6(og:List ByteArray)(s:ByteArray):Option (List ByteArray):=if (nrel s og).2=0 then some (nrel s og).1 else none
def gNum6(s:ByteArray):Option Nat:=xnum (nums s) (2 ^ 32)
def gStr6(s:ByteArray):Option ByteArray:=(xstr (nums s)).map lb
def sName(og:List ByteArray):Pst->Option Pst:=stp tkB (gName6 og) fun d v=>⟨d.ns++[v],d.us,d.ts,d.raw⟩
def sNum:Pst->Option Pst:=stp tkB gNum6 fun d v=>⟨d.ns,d.us++[v],d.ts,d.raw⟩
def sText:Pst->Option Pst:=stp tkN gStr6 fun d v=>⟨d.ns,d.us,d.ts++[v],d.raw⟩
def sTag:Pst->Option Pst:=stp tkN some fun d v=>⟨d.ns,d.us,d.ts++[v],d.raw⟩
def sAddr:Pst->Option Pst:=stp tkB (fun s=>xpaddr (nums s)) fun d v=>⟨d.ns,d.us,d.ts,v⟩
def rep(f:Pst->Option Pst):Nat->Option Pst->Option Pst
 |0,o=>o
 |k+1,o=>(rep f k o).bind f
def fldF(t:Nat)(og:List ByteArray)(ws:List Wd):Option Pst:=
 if t=1∨t=28 then rep sAddr 1 (some (ws,nilD))
 else if t=2∨t=5∨t=12 then rep (sName og) 1 (some (ws,nilD))
 else if t=6 then rep sNum 5 (rep (sName og) 2 (some (ws,nilD)))
 else if t=15 then rep (sName og) 1 (rep sNum 1 (some (ws,nilD)))
 else if t=33 then rep (sName og) 1 (rep sNum 3 (some (ws,nilD)))
 else if t=16 then rep sText (max 1 ws.length) (some (ws,nilD))
 else if t=257 then rep sText 1 (rep sTag 1 (rep sNum 1 (some (ws,nilD))))
 else none
instance (l:List Int) (k:Nat):Decidable (okp l k):=by unfold okp;infer_instance
def hshF(t:Nat):List Wd->Option Dat
 |[]=>none
 |p::ps=>(xnum (nums p.1) (2 ^ 32)).bind fun m=>
   if (catL ps).length<=131070/\(catL ps).length=2*m/\((List.range m).all fun k=>decide (okp (nums ⟨(catL ps).toArray⟩) k))=true then
    (if (readF t (prs (nums ⟨(catL ps).toArray⟩) m)).2=0 then some (readF t (prs (nums ⟨(catL ps).toArray⟩) m)).1 else none) else none
def hash6:Wd:=(⟨#[92,35]⟩,false)
instance : DecidableEq Wd:=inferInstance
def wrdF(t:Nat)(og:List ByteArray)(ws:List Wd):Option Dat:=
 if ws.head?=some hash6 then hshF t ws.tail else (fldF t og ws).bind fun p=>if p.1=[] then some p.2 else none
def prsF(t:Nat)(og:List ByteArray)(ws:List Wd):Option Dat:=(wrdF t og ws).bind fun d=>if checkF t d=0 then some d else none
def WB(ws:List Wd):Prop:=ws.length<=500/\∀p∈ws,p.1.size<=1000000
structure DB(K:Nat)(z:Bool)(d:Dat):Prop where
 n:d.ns.length<=K
 u:d.us.length<=K
 t:d.ts.length<=K
 z:z=true->d.ns=[]
 nl:∀n∈d.ns,n.length<=1000000
 tl:∀s∈d.ts,s.size<=1000000
 r:d.raw.length<=1000000
theorem DB.nil(K:Nat)(z:Bool):DB K z nilD:=⟨by simp[nilD],by simp[nilD],by simp[nilD],fun _=>rfl,by simp[nilD],by simp[nilD],by simp[nilD]⟩
theorem DB.name{K:Nat}{z:Bool}{d:Dat}(h:DB K z d){n:List ByteArray}(hn:n.length<=1000000):DB (K+1) false ⟨d.ns++[n],d.us,d.ts,d.raw⟩:=
 ⟨by have:=h.n;simp;omega,Nat.le_succ_of_le h.u,Nat.le_succ_of_le h.t,fun h=>by (cases h),fun m hm=>(List.mem_append.1 hm).elim (h.nl m) (fun hm=>by simp at hm;subst hm;exact hn),h.tl,h.r⟩
theorem DB.num{K:Nat}{z:Bool}{d:Dat}(h:DB K z d)(n:Nat):DB (K+1) z ⟨d.ns,d.us++[n],d.ts,d.raw⟩:=
 ⟨Nat.le_succ_of_le h.n,by have:=h.u;simp;omega,Nat.le_succ_of_le h.t,h.z,h.nl,h.tl,h.r⟩
theorem DB.text{K:Nat}{z:Bool}{d:Dat}(h:DB K z d){s:ByteArray}(hs:s.size<=1000000):DB (K+1) z ⟨d.ns,d.us,d.ts++[s],d.raw⟩:=
 ⟨Nat.le_succ_of_le h.n,Nat.le_succ_of_le h.u,by have:=h.t;simp;omega,h.z,h.nl,fun m hm=>(List.mem_append.1 hm).elim (h.tl m) (fun hm=>by simp at hm;subst hm;exact hs),h.r⟩
theorem DB.addr{K:Nat}{z:Bool}{d:Dat}(h:DB K z d){zs:List Int}(hs:zs.length<=1000000):DB K z ⟨d.ns,d.us,d.ts,zs⟩:=⟨h.n,h.u,h.t,h.z,h.nl,h.tl,hs⟩
theorem nck_nil6:nck []=0:=by decide
theorem nck_len{l:List ByteArray}(h:nck l=0):l.length<=255:=by
 unfold nck at h
 split at h
 ·split at h
  ·cases h
  ·rename_i h1 h2
   have:l.length<=nsz l:=by
    clear h h1 h2
    induction l with
    |nil=>simp
    |cons a l ih=>simp only[List.length_cons,nsz];omega
   omega
 ·cases h
theorem njoin_ok6(a b:List ByteArray):nck (njoin a b).1=0:=by
 unfold njoin
 split
 ·split
  ·split
   ·assumption
   ·exact nck_nil6
  ·exact nck_nil6
 ·exact nck_nil6
theorem nparse_ok6(s:ByteArray):nck (nparse s).1=0:=by
 unfold nparse
 split
 ·exact nck_nil6
 ·split
  ·split
   ·split
    ·assumption
    ·exact nck_nil6
   ·exact nck_nil6
  ·exact nck_nil6
theorem nrel_ok6(s:ByteArray)(og:List ByteArray):nck (nrel s og).1=0:=by
 unfold nrel
 split
 ·split
  ·assumption
  ·split
   ·exact nck_nil6
   ·split
    ·split
     ·exact nparse_ok6 s
     ·exact njoin_ok6 _ _
    ·exact nck_nil6
 ·exact nck_nil6
theorem nrel_len6(s:ByteArray)(og:List ByteArray):(nrel s og).1.length<=1000000:=by have:=nck_len (nrel_ok6 s og);omega
theorem xpaddr_len{l zs:List Int}(h:xpaddr l=some zs):zs.length<=1000000:=by
 unfold xpaddr at h
 have h6:∀zs,xsix l=some zs->zs.length<=1000000:=by
  intro zs h
  unfold xsix at h
  split at h
  ·rw[Option.bind_eq_some_iff] at h
   obtain ⟨a,ha,h⟩:=h
   rw[Option.bind_eq_some_iff] at h
   obtain ⟨b,hb,h⟩:=h
   split at h
   ·injection h with h;subst h;simp;omega
   ·cases h
  ·rw[Option.bind_eq_some_iff] at h
   obtain ⟨a,ha,h⟩:=h
   split at h
   ·injection h with h;subst h;omega
   ·cases h
 split at h
 ·rename_i b hb
  injection h with h;subst h
  unfold xfour at hb
  rw[Option.bind_eq_some_iff] at hb
  obtain ⟨a,ha,hb⟩:=hb
  split at hb
  ·injection hb with hb;subst hb;simp;omega
  ·cases hb
 ·exact h6 _ h
theorem xstr_len6:∀(n:Nat) (l o:List Int),l.length<=n->xstr l=some o->o.length<=l.length
 |0,l,o,hl,h=>by
  have:l=[]:=List.length_eq_zero_iff.1 (by omega)
  subst this
  rw[xstr.eq_def] at h;simp at h;subst h;simp
 |n+1,l,o,hl,h=>by
  by_cases h0:l=[]
  ·subst h0;rw[xstr.eq_def] at h;simp at h;subst h;simp
  ·by_cases h2:(xfst l).2=0
   ·rw[xfst_none l h0 h2] at h;cases h
   ·obtain ⟨e1,e2,e3⟩:=xfst_some l h2
    rw[e1] at h
    cases hx:xstr (l.drop (xfst l).2) with
    |none=>rw[hx] at h;cases h
    |some o'=>
     rw[hx] at h;simp at h;subst h
     have:=xstr_len6 n (l.drop (xfst l).2) o' (by simp;omega) hx
     simp at this ⊢;omega
theorem lb_size6(l:List Int):(lb l).size=l.length:=by simp[lb,ByteArray.size,txt]
theorem xstrR_size(s:ByteArray):(xstrR (nums s)).1.size<=s.size:=by
 unfold xstrR
 split
 ·rename_i o ho
  have:=xstr_len6 _ _ _ (Nat.le_refl _) ho
  rw[nums_len] at this
  simpa [lb_size6] using this
 ·exact Nat.zero_le _
def RGo(bad:Bool)(ws:List Wd)(d:Dat)(o:Option Pst):Prop:=(bad=false/\o=some (ws,d))∨(bad=true/\o=none)
def RG(w0 w:World)(oa:Option Addr)(on oc:Nat)(K:Nat)(z:Bool)(o:Option Pst):Prop:=
 ∃(wa:Option Addr) (c:Nat) (x:DA) (ws:List Wd) (bad:Bool) (d:Dat),RdW w0 wa ws/\ws.length<=c/\c<=9223372036854775807/\RX w0 w wa ws.length c oa on oc x bad d/\WB ws/\DB K z d/\RGo bad ws d o
def TkO(tk:List Wd->Option (ByteArray × List Wd))(ws:List Wd)(bad:Bool)(s:ByteArray)(ws':List Wd)(bad':Bool):Prop:=
 WB ws'/\s.size<=1000000/\((bad'=false/\bad=false/\tk ws=some (s,ws'))∨(bad'=true/\(bad=true∨tk ws=none)))
def TkG(tk:List Wd->Option (ByteArray × List Wd))(w0:World)(oa:Option Addr)(on oc:Nat)(x:DA)(d:Dat)(ws:List Wd)(bad:Bool)(e:Ending)(w':World):Prop:=
 ∃(s:ByteArray) (wa':Option Addr) (c':Nat) (ws':List Wd) (bad':Bool),e=.returned (.string s)/\Hid (RdW w0 wa' ws'/\ws'.length<=c'/\c'<=9223372036854775807)/\Hid (RX w0 w' wa' ws'.length c' oa on oc x bad' d)/\Hid (TkO tk ws bad s ws' bad')
theorem WB.tail{p:Wd}{r:List Wd}(h:WB (p::r)):WB r:=⟨by have:=h.1;simp at this;omega,fun q hq=>h.2 q (by simp[hq])⟩
theorem next_g(w0 w:World)(wa:Option Addr)(ws:List Wd)(c:Nat)(oa:Option Addr)(on oc:Nat)(x:DA)(bad:Bool)(d:Dat)(hw:RdW w0 wa ws)(hc:ws.length<=c)(h63:c<=9223372036854775807)(h:RX w0 w wa ws.length c oa on oc x bad d)(hb:WB ws) :
  Calls Tryz.prog 175 #[.pointer (some ⟨w0.heap.size,0,none⟩)] w (TkG tkN w0 oa on oc x d ws bad):=by
 cases ws with
 |nil=>
  refine (next_none w0 w wa c oa on oc x bad d h).mono ?_
  rintro e w' ⟨rfl,H⟩
  exact ⟨_,wa,c,[],true,rfl,⟨.inl rfl,by simp,h63⟩,H,hb,by decide,.inr ⟨rfl,.inr rfl⟩⟩
 |cons p r=>
  obtain ⟨s,q⟩:=p
  refine (next_ok w0 w wa s q r c oa on oc x bad d hw hc h63 h).mono ?_
  rintro e w' ⟨wa',rfl,H1,H2⟩
  have hc':r.length+1<=c:=hc
  refine ⟨_,wa',c - 1,r,bad,rfl,⟨H1.out,by omega,by omega⟩,H2,hb.tail,hb.2 (s,q) (by simp),?_⟩
  cases bad with
  |false=>exact .inl ⟨rfl,rfl,rfl⟩
  |true=>exact .inr ⟨rfl,.inl rfl⟩
theorem bare_none(w0 w:World)(wa:Option Addr)(c:Nat)(oa:Option Addr)(on oc:Nat)(x:DA)(bad:Bool)(d:Dat)(h:RX w0 w wa 0 c oa on oc x bad d) :
  Calls Tryz.prog 173 #[.pointer (some ⟨w0.heap.size,0,none⟩)] w fun e w'=>e=.returned (.string ⟨#[]⟩)/\Hid (RX w0 w' wa 0 c oa on oc x true d):=by
 have K:=Lib.hid (next_none w0 w wa c oa on oc x bad d h)
 have d0:=h.blk.cells.1
 clear h
 go_enter Tryz.func173,Tryz.ntmps173
 go_wp2_with fail
 refine K.out.mono ?_
 rintro e w' ⟨rfl,H2⟩
 go_wp2_with fail
 go_ret
 exact ⟨rfl,H2⟩
theorem bare_quot(w0 w:World)(wa:Option Addr)(s:ByteArray)(r:List Wd)(c:Nat)(oa:Option Addr)(on oc:Nat)(x:DA)(bad:Bool)(d:Dat)(hw:RdW w0 wa ((s,true)::r))(hc:r.length+1<=c)(h63:c<=9223372036854775807)(h:RX w0 w wa (r.length+1) c oa on oc x bad d) :
  Calls Tryz.prog 173 #[.pointer (some ⟨w0.heap.size,0,none⟩)] w (NxPost s r w0 c oa on oc x true d):=by
 have K:Hid (∀W,RX w0 W wa (r.length+1) c oa on oc x true d->Calls Tryz.prog 175 #[.pointer (some ⟨w0.heap.size,0,none⟩)] W (NxPost s r w0 c oa on oc x true d)):=fun W hW=>next_ok w0 W wa s true r c oa on oc x true d hw hc h63 hW
 obtain ⟨b,o,rfl,hb,c1,c2,hrr⟩:=hw.head
 have HX:=Lib.hid (h.bad true)
 have d0:=h.blk.cells.1
 have d6:=h.blk.cells.2.2.2.2.2.2
 have f6:=h.blk.fz 6
 have c2':=(h.bel.cell (p:=⟨b,o+1,none⟩) hb).trans c2
 clear hw hrr c1 c2 h
 obtain ⟨n,hn⟩:∃n,r.length=n:=⟨_,rfl⟩
 rw[hn] at d0 hc HX K
 clear hn
 have hn0:(0:Int)<(n:Int)+1:=by omega
 go_enter Tryz.func173,Tryz.ntmps173
 go_wp2_with fail
 refine (K.out _ HX.out).mono ?_
 rintro e w' ⟨wa',rfl,H1,H2⟩
 go_wp2_with fail
 go_ret
 exact ⟨wa',rfl,H1,H2⟩
theorem bare_any6(w0 w:World)(wa:Option Addr)(s:ByteArray)(r:List Wd)(c:Nat)(oa:Option Addr)(on oc:Nat)(x:DA)(bad:Bool)(d:Dat)(hw:RdW w0 wa ((s,false)::r))(hc:r.length+1<=c)(h63:c<=9223372036854775807)(h:RX w0 w wa (r.length+1) c oa on oc x bad d) :
  Calls Tryz.prog 173 #[.pointer (some ⟨w0.heap.size,0,none⟩)] w (NxPost s r w0 c oa on oc x bad d):=bare_ok w0 w wa s r c oa on oc x bad d hw hc h63 h
theorem bare_g(w0 w:World)(wa:Option Addr)(ws:List Wd)(c:Nat)(oa:Option Addr)(on oc:Nat)(x:DA)(bad:Bool)(d:Dat)(hw:RdW w0 wa ws)(hc:ws.length<=c)(h63:c<=9223372036854775807)(h:RX w0 w wa ws.length c oa on oc x bad d)(hb:WB ws) :
  Calls Tryz.prog 173 #[.pointer (some ⟨w0.heap.size,0,none⟩)] w (TkG tkB w0 oa on oc x d ws bad):=by
 cases ws with
 |nil=>
  refine (bare_none w0 w wa c oa on oc x bad d h).mono ?_
  rintro e w' ⟨rfl,H⟩
  exact ⟨_,wa,c,[],true,rfl,⟨.inl rfl,by simp,h63⟩,H,hb,by decide,.inr ⟨rfl,.inr rfl⟩⟩
 |cons p r=>
  obtain ⟨s,q⟩:=p
  have hc':r.length+1<=c:=hc
  cases q with
  |false=>
   refine (bare_any6 w0 w wa s r c oa on oc x bad d hw hc h63 h).mono ?_
   rintro e w' ⟨wa',rfl,H1,H2⟩
   refine ⟨_,wa',c - 1,r,bad,rfl,⟨H1.out,by omega,by omega⟩,H2,hb.tail,hb.2 (s,false) (by simp),?_⟩
   cases bad with
   |false=>exact .inl ⟨rfl,rfl,rfl⟩
   |true=>exact .inr ⟨rfl,.inl rfl⟩
  |true=>
   refine (bare_quot w0 w wa s r c oa on oc x bad d hw hc h63 h).mono ?_
   rintro e w' ⟨wa',rfl,H1,H2⟩
   exact ⟨_,wa',c - 1,r,true,rfl,⟨H1.out,by omega,by omega⟩,H2,hb.tail,hb.2 (s,true) (by simp),.inr ⟨rfl,.inr rfl⟩⟩
theorem stp_ok{α:Type}{tk:List Wd->Option (ByteArray × List Wd)}{g:ByteArray->Option α}{put:Dat->α->Dat}{bad bad':Bool}{ws ws':List Wd}{s:ByteArray}{d:Dat}{o:Option Pst}{v:α}(h:RGo bad ws d o)(h2:TkO tk ws bad s ws' bad')(h3:bad'=false)(h4:g s=some v):o.bind (stp tk g put)=some (ws',put d v):=by
 obtain ⟨-,-,h2⟩:=h2
 rcases h2 with ⟨a1,a2,a3⟩|⟨a1,-⟩
 ·rcases h with ⟨b1,b2⟩|⟨b1,b2⟩
  ·subst b2;simp[stp,a3,h4]
  ·rw[a2] at b1;cases b1
 ·rw[h3] at a1;cases a1
theorem stp_no{α:Type}{tk:List Wd->Option (ByteArray × List Wd)}{g:ByteArray->Option α}{put:Dat->α->Dat}{bad bad':Bool}{ws ws':List Wd}{s:ByteArray}{d:Dat}{o:Option Pst}(h:RGo bad ws d o)(h2:TkO tk ws bad s ws' bad')(h3:bad'=true∨g s=none):o.bind (stp tk g put)=none:=by
 obtain ⟨-,-,h2⟩:=h2
 rcases h with ⟨b1,b2⟩|⟨b1,b2⟩
 ·subst b2
  rcases h2 with ⟨a1,a2,a3⟩|⟨a1,a2|a2⟩
  ·rcases h3 with h3|h3
   ·rw[h3] at a1;cases a1
   ·simp[stp,a3,h3]
  ·rw[b1] at a2;cases a2
  ·simp[stp,a2]
 ·subst b2;rfl
def NuP(s:ByteArray)(w:World)(e:Ending)(w':World):Prop:=
 ∃(n:Nat) (b:Bool),e=.returned (.tuple #[.int .u32 (n:Int),.bool b])/\Hid (n<=4294967295)/\Hid ((b=true->gNum6 s=some n)/\(b=false->gNum6 s=none))/\Hid (Below w.heap.size w w')
theorem num_no_bd(s:ByteArray)(hs:s.size<=281474976710656)(h:xnum (nums s) (2 ^ 32)=none)(w:World)(hE:LayE w) :
  Calls Tryz.prog 151 #[.string s,.int .i64 32] w fun e w'=>∃x:Nat,e=.returned (.tuple #[.int .u32 (x:Int),.bool false])/\Hid (x<=4294967295)/\Hid (Below w.heap.size w w'):=by
 by_cases hz:1<s.data.toList.length/\(bi s.data.toList).head?=some 48
 ·have h1:1<s.size:=hz.1
  have h1':(1:Int)<(s.size:Int):=by omega
  have h0':(0:Int)<(s.size:Int):=by omega
  have h48:(s[0].toNat:Int)=48:=by
   have:=hz.2
   rw[<- nums_bi,head_at s (by omega)] at this
   injection this
  clear hz
  go_enter Tryz.func151,Tryz.ntmps151
  go_wp2_with fail
  go_ret2
  exact ⟨0,rfl,Nat.zero_le _,Below.refl _ _⟩
 ·have K:=Lib.hid (pu10_no 32 (.inr rfl) s hs (fun u hu=>by have:=(lnum_ok 32 (pow2B (.inr rfl)).1 _ u hz).1 hu;rw[<- nums_bi,h] at this;cases this) w hE)
  clear h hE
  by_cases h1:1<s.size
  ·have h1':(1:Int)<(s.size:Int):=by omega
   have h0':(0:Int)<(s.size:Int):=by omega
   have h48:((s[0].toNat:Int) == 48)=false:=by
    rw[beq_eq_false_iff_ne]
    intro e
    exact hz ⟨h1,by rw[<- nums_bi,head_at s (by omega),e]⟩
   clear hz
   go_enter Tryz.func151,Tryz.ntmps151
   go_wp2_with fail
   refine K.out.mono ?_
   rintro e w' ⟨x,N,rfl,hx,H⟩
   obtain ⟨n,rfl⟩:∃n:Nat,x=(n:Int):=⟨x.toNat,by omega⟩
   have HN:Hid (n<=4294967295):=by have:=hx.2;show _<=_;omega
   have hn:n<4294967296:=by have:=HN.out;omega
   clear hx
   go_wp2_with fail
   go_quiet (fail)
   go_wp2_with fail
   go_ret2
   exact ⟨n,rfl,HN.out,H.out.trans ⟨rfl,rfl,rfl,Nat.le_refl _,fun _ _=>rfl⟩⟩
  ·have h1':¬ (1:Int)<(s.size:Int):=by omega
   clear hz
   go_enter Tryz.func151,Tryz.ntmps151
   go_wp2_with fail
   refine K.out.mono ?_
   rintro e w' ⟨x,N,rfl,hx,H⟩
   obtain ⟨n,rfl⟩:∃n:Nat,x=(n:Int):=⟨x.toNat,by omega⟩
   have HN:Hid (n<=4294967295):=by have:=hx.2;show _<=_;omega
   have hn:n<4294967296:=by have:=HN.out;omega
   clear hx
   go_wp2_with fail
   go_quiet (fail)
   go_wp2_with fail
   go_ret2
   exact ⟨n,rfl,HN.out,H.out.trans ⟨rfl,rfl,rfl,Nat.le_refl _,fun _ _=>rfl⟩⟩
theorem num_g(s:ByteArray)(hs:s.size<=281474976710656)(w:World)(hE:LayE w):Calls Tryz.prog 151 #[.string s,.int .i64 32] w (NuP s w):=by
 cases h:xnum (nums s) (2 ^ 32) with
 |none=>
  refine (num_no_bd s hs h w hE).mono ?_
  rintro e w' ⟨x,rfl,h1,h2⟩
  exact ⟨x,false,rfl,h1,⟨fun h=>by (cases h),fun _=>h⟩,h2⟩
 |some n=>
  have hn:=(xnum_some h).2
  have hp32:(2:Nat) ^ 32=4294967296:=by decide
  refine (num_yes 32 (.inr rfl) s hs n h w).mono ?_
  rintro e w' ⟨rfl,h2⟩
  exact ⟨n,true,rfl,by show _<=_;omega,⟨fun _=>h,fun h=>by (cases h)⟩,h2⟩
theorem rep_succ(f:Pst->Option Pst)(k:Nat)(o:Option Pst):rep f (k+1) o=(rep f k o).bind f:=rfl
theorem nums_g(w0 w:World)(N K:Nat)(oa:Option Addr)(on oc:Nat)(z:Bool)(o:Option Pst)(hK:K+N<=900)(hE:LayE w0)(h:RG w0 w oa on oc K z o) :
  Calls Tryz.prog 156 #[.pointer (some ⟨w0.heap.size,0,none⟩),.int .i64 (N:Int)] w fun e w'=>∃v,e=.returned v/\Hid (RG w0 w' oa on oc (K+N) z (rep sNum N o)):=by
 have H0:Hid (RG w0 w oa on oc K z o):=h
 have HE:Hid (LayE w0):=hE
 have HKN:Hid (K+N<=900):=hK
 have hN1:N<=1000:=by omega
 clear h hE hK
 go_enter Tryz.func156,Tryz.ntmps156
 go_wp2_with fail
 go_loopw [7] (fun y wr=>∃k:Nat,k<=N/\y=.int .i64 k/\Hid (RG w0 wr oa on oc (K+k) z (rep sNum k o))) (fun y _=>N - (intOf y).toNat)
 case atStart=>exact ⟨0,Nat.zero_le _,rfl,H0.out⟩
 case round=>
  obtain ⟨k,hk,rfl,HW⟩:=hrel
  by_cases hlt:k<N
  ·have hlt':(k:Int)<(N:Int):=by omega
   have HT:Hid (rep sNum (k+1) o=(rep sNum k o).bind sNum):=rfl
   generalize rep sNum k o=ok at*
   obtain ⟨wa',c',x',ws,bad,d,h1,h2,h3,h4,h5,h6,h7⟩:=HW.out
   have KB:Hid (∀W,RX w0 W wa' ws.length c' oa on oc x' bad d->Calls Tryz.prog 173 #[.pointer (some ⟨w0.heap.size,0,none⟩)] W (TkG tkB w0 oa on oc x' d ws bad)):=fun W hW=>bare_g w0 W wa' ws c' oa on oc x' bad d h1 h2 h3 hW h5
   have HX:Hid (RX w0 wr wa' ws.length c' oa on oc x' bad d):=h4
   have KR:Hid (∀s W,s.size<=1000000->Below w0.heap.size w0 W->Calls Tryz.prog 151 #[.string s,.int .i64 32] W (NuP s W)):=fun s W hs hW=>num_g s (by omega) W (HE.out.below hW)
   have HD:Hid (DB (K+k) z d):=h6
   have HO:Hid (RGo bad ws d ok):=h7
   have HL:Hid (d.us.length<=1000):=by have:=HKN.out;have:=h6.u;show _<=_;omega
   clear h1 h2 h3 h4 h5 h6 h7 HW H0
   go_wp2_with fail
   refine (KB.out _ HX.out).mono ?_
   rintro e w1 ⟨s,wb,cb,wsb,bd,rfl,H1,H2,H9⟩
   go_wp2_with fail
   refine (KR.out s _ H9.out.2.1 H2.out.bel).mono ?_
   rintro e w2 ⟨n,nb,rfl,Hn,H8,H3⟩
   have HA:Hid (RX w0 w2 wb wsb.length cb oa on oc x' bd d):=H2.out.step H3.out
   have hn:=Hn.out
   clear KB KR HX H2 H3 Hn
   have d6:w2.cell? ⟨w0.heap.size,6,none⟩=some (.bool bd):=HA.out.blk.cells.2.2.2.2.2.2
   have d2:w2.cell? ⟨w0.heap.size,3,none⟩=some (.slice x'.p2.a x'.p2.n x'.p2.c):=HA.out.blk.cells.2.2.2.1
   have f6:=HA.out.blk.fz 6
   have f2:=HA.out.blk.fz 3
   have HS:Hid (∀q,RX w0 ((w2.setCell ⟨w0.heap.size,6,none⟩ (.bool q)).alloc (.cells #[.int .u32 (n:Int)] 43)) wb wsb.length cb oa on oc x' q d):=fun q=>(HA.out.bad q).step (new_below _ _)
   have HO1:Hid (∀q,RdV ((w2.setCell ⟨w0.heap.size,6,none⟩ (.bool q)).alloc (.cells #[.int .u32 (n:Int)] 43)) (some ⟨w2.heap.size,0,none⟩) [.int .u32 (n:Int)]):=fun q=>by
    have:=one_u (w2.setCell ⟨w0.heap.size,6,none⟩ (.bool q)) (n:Int)
    rw[World.size_setCell] at this
    exact this
   have HB:Hid (∀q,w0.heap.size+1<=((w2.setCell ⟨w0.heap.size,6,none⟩ (.bool q)).alloc (.cells #[.int .u32 (n:Int)] 43)).heap.size):=fun q=>(HS.out q).blk.lt
   have HF:Hid (∀(q:Bool),(q=false↔bd=false/\nb=true)->RGo q wsb ⟨d.ns,d.us++[n],d.ts,d.raw⟩ (rep sNum (k+1) o)):=fun q hq=>by
    rw[HT.out]
    cases q with
    |false=>exact .inl ⟨rfl,stp_ok HO.out H9.out (hq.1 rfl).1 (H8.out.1 (hq.1 rfl).2)⟩
    |true=>
     refine .inr ⟨rfl,stp_no HO.out H9.out ?_⟩
     cases bd with
     |true=>exact .inl rfl
     |false=>
      cases nb with
      |true=>have:=hq.2 ⟨rfl,rfl⟩;cases this
      |false=>exact .inr (H8.out.2 rfl)
   have HDD:Hid (DB (K+(k+1)) z ⟨d.ns,d.us++[n],d.ts,d.raw⟩):=HD.out.num n
   rcases bd with _|_
   ·rcases nb with _|_
    ·go_wp2_with (at_builtin;refine wl_st rfl fun K hK=>?_;refine st_us rfl _ _ rfl (w0.heap.size+1) x'.p2 d.us rfl (HS.out true).own.2.1 ⟨w2.heap.size,0,none⟩ rfl n (HO1.out true) (by omega) HL.out (HB.out true) ?_;intro t' w' hO hG;obtain ⟨og',hg1,hg2⟩:=hG.out;have HR:=Lib.hid ((HS.out true).app2 hg1 hg2 t' _ hO.out);have hr:=((HS.out true).grown hg1 (fun j e=>(hg2 j e).1)).1;have g2:=hr.cells.2.2.2.1;have gf:=hr.fz 3;refine hK _ _ ?_)
     exact ⟨⟨k+1,by omega,by go_num,wb,cb,⟨x'.p1,t',x'.p3,x'.p4⟩,wsb,true,⟨d.ns,d.us++[n],d.ts,d.raw⟩,H1.out.1,H1.out.2.1,H1.out.2.2,HR.out,H9.out.1,HDD.out,HF.out true (by simp)⟩,by simp[intOf];omega⟩
    ·go_wp2_with (at_builtin;refine wl_st rfl fun K hK=>?_;refine st_us rfl _ _ rfl (w0.heap.size+1) x'.p2 d.us rfl (HS.out false).own.2.1 ⟨w2.heap.size,0,none⟩ rfl n (HO1.out false) (by omega) HL.out (HB.out false) ?_;intro t' w' hO hG;obtain ⟨og',hg1,hg2⟩:=hG.out;have HR:=Lib.hid ((HS.out false).app2 hg1 hg2 t' _ hO.out);have hr:=((HS.out false).grown hg1 (fun j e=>(hg2 j e).1)).1;have g2:=hr.cells.2.2.2.1;have gf:=hr.fz 3;refine hK _ _ ?_)
     exact ⟨⟨k+1,by omega,by go_num,wb,cb,⟨x'.p1,t',x'.p3,x'.p4⟩,wsb,false,⟨d.ns,d.us++[n],d.ts,d.raw⟩,H1.out.1,H1.out.2.1,H1.out.2.2,HR.out,H9.out.1,HDD.out,HF.out false (by simp)⟩,by simp[intOf];omega⟩
   ·go_wp2_with (at_builtin;refine wl_st rfl fun K hK=>?_;refine st_us rfl _ _ rfl (w0.heap.size+1) x'.p2 d.us rfl (HS.out true).own.2.1 ⟨w2.heap.size,0,none⟩ rfl n (HO1.out true) (by omega) HL.out (HB.out true) ?_;intro t' w' hO hG;obtain ⟨og',hg1,hg2⟩:=hG.out;have HR:=Lib.hid ((HS.out true).app2 hg1 hg2 t' _ hO.out);have hr:=((HS.out true).grown hg1 (fun j e=>(hg2 j e).1)).1;have g2:=hr.cells.2.2.2.1;have gf:=hr.fz 3;refine hK _ _ ?_)
    exact ⟨⟨k+1,by omega,by go_num,wb,cb,⟨x'.p1,t',x'.p3,x'.p4⟩,wsb,true,⟨d.ns,d.us++[n],d.ts,d.raw⟩,H1.out.1,H1.out.2.1,H1.out.2.2,HR.out,H9.out.1,HDD.out,HF.out true (by simp)⟩,by simp[intOf];omega⟩
  ·have hge:¬ (k:Int)<(N:Int):=by omega
   have hkn:k=N:=by omega
   subst hkn
   go_wp2_with fail
   go_end0
   exact ⟨⟨_,rfl⟩,HW.out⟩
theorem names_g(w0 w:World)(N K:Nat)(oa:Option Addr)(on oc:Nat)(og:List ByteArray)(o:Option Pst)(hK:K+N<=900)(hog:Nm w0 oa on og)(h:RG w0 w oa on oc K false o) :
  Calls Tryz.prog 155 #[.pointer (some ⟨w0.heap.size,0,none⟩),.int .i64 (N:Int)] w fun e w'=>∃v,e=.returned v/\Hid (RG w0 w' oa on oc (K+N) false (rep (sName og) N o)):=by
 have H0:Hid (RG w0 w oa on oc K false o):=h
 have HOG:Hid (Nm w0 oa on og):=hog
 have HKN:Hid (K+N<=900):=hK
 have hN1:N<=1000:=by omega
 clear h hog hK
 go_enter Tryz.func155,Tryz.ntmps155
 go_wp2_with fail
 go_loopw [7] (fun y wr=>∃k:Nat,k<=N/\y=.int .i64 k/\Hid (RG w0 wr oa on oc (K+k) false (rep (sName og) k o))) (fun y _=>N - (intOf y).toNat)
 case atStart=>exact ⟨0,Nat.zero_le _,rfl,H0.out⟩
 case round=>
  obtain ⟨k,hk,rfl,HW⟩:=hrel
  by_cases hlt:k<N
  ·have hlt':(k:Int)<(N:Int):=by omega
   have HT:Hid (rep (sName og) (k+1) o=(rep (sName og) k o).bind (sName og)):=rfl
   generalize rep (sName og) k o=ok at*
   obtain ⟨wa',c',x',ws,bad,d,h1,h2,h3,h4,h5,h6,h7⟩:=HW.out
   have KB:Hid (∀W,RX w0 W wa' ws.length c' oa on oc x' bad d->Calls Tryz.prog 173 #[.pointer (some ⟨w0.heap.size,0,none⟩)] W (TkG tkB w0 oa on oc x' d ws bad)):=fun W hW=>bare_g w0 W wa' ws c' oa on oc x' bad d h1 h2 h3 hW h5
   have HX:Hid (RX w0 wr wa' ws.length c' oa on oc x' bad d):=h4
   have HXd:Hid (RX w0 wr.drew wa' ws.length c' oa on oc x' bad d):=h4.step (Below.refl _ _).drew
   have KR:Hid (∀s W,s.size<=1000000->Below w0.heap.size w0 W->Calls Tryz.prog 85 #[.string s,.slice oa on oc] W (NPost (nrel s og).1 (nrel s og).2 W)):=fun s W hs hW=>prel_any s oa on oc og W (by omega) (HOG.out.below hW)
   have HD:Hid (DB (K+k) false d):=h6
   have HO:Hid (RGo bad ws d ok):=h7
   have HL:Hid (d.ns.length+1<=1000):=by have:=HKN.out;have:=h6.n;show _<=_;omega
   have o1:wr.cell? ⟨w0.heap.size,1,none⟩=some (.slice oa on oc):=h4.blk.cells.2.1
   clear h1 h2 h3 h4 h5 h6 h7 HW H0
   go_wp2_with fail
   go_region_held3 (fun W=>W.cell? ⟨w0.heap.size,1,none⟩=some (.slice oa on oc)) (go_keep) (first
    |(go_at_call 173;refine (KB.out _ HXd.out).mono ?_;rintro e w1 ⟨s,wb,cb,wsb,bd,rfl,H1,H2,H9⟩;have e1:w1.cell? ⟨w0.heap.size,1,none⟩=some (.slice oa on oc):=H2.out.blk.cells.2.1)
    |(go_at_call 85;refine (KR.out s _ H9.out.2.1 H2.out.bel).mono ?_;rintro e w2 ⟨v2,ys,rfl,H3⟩;have f1:w2.cell? ⟨w0.heap.size,1,none⟩=some (.slice oa on oc):=(H2.out.step H3.out.2.2).blk.cells.2.1))
   all_goals
    obtain ⟨ao,rfl,-⟩:=H3.out.1.shape
    have HA:Hid (RX w0 w2 wb wsb.length cb oa on oc x' bd d):=H2.out.step H3.out.2.2
    have HOW:Hid (Own1 (w0.heap.size+1) w2 ⟨ao,(nrel s og).1.length,ys.length⟩ (nrel s og).1):=⟨ys,H3.out.1.mono H2.out.blk.lt,H3.out.2.1⟩
    have HNL:Hid ((nrel s og).1.length<=1000000):=nrel_len6 s og
    have HG:Hid ((nrel s og).2=0->gName6 og s=some (nrel s og).1):=fun e=>by unfold gName6;rw[if_pos e]
    have HG2:Hid (¬ (nrel s og).2=0->gName6 og s=none):=fun e=>by unfold gName6;rw[if_neg e]
    clear KB KR HX HXd H2 H3 e1 o1
    generalize (nrel s og).2=er at*
    generalize (nrel s og).1=nm at*
    have d6:w2.cell? ⟨w0.heap.size,6,none⟩=some (.bool bd):=HA.out.blk.cells.2.2.2.2.2.2
    have d2:w2.cell? ⟨w0.heap.size,2,none⟩=some (.slice x'.p1.a x'.p1.n x'.p1.c):=HA.out.blk.cells.2.2.1
    have f6:=HA.out.blk.fz 6
    have f2:=HA.out.blk.fz 2
    have HS:Hid (∀q,RX w0 ((w2.setCell ⟨w0.heap.size,6,none⟩ (.bool q)).alloc (.cells #[.slice ao nm.length ys.length] 23)) wb wsb.length cb oa on oc x' q d):=fun q=>(HA.out.bad q).step (new_below _ _)
    have HO1:Hid (∀q,OwnN (w0.heap.size+1) ((w2.setCell ⟨w0.heap.size,6,none⟩ (.bool q)).alloc (.cells #[.slice ao nm.length ys.length] 23)) (.slice (some ⟨w2.heap.size,0,none⟩) 1 1) [nm]):=fun q=>by
     have:=new_ownN (w0.heap.size+1) (w2.setCell ⟨w0.heap.size,6,none⟩ (.bool q)) ⟨ao,nm.length,ys.length⟩ nm (HOW.out.keep (fun j hj _ _=>Below.heap_setCell _ _ _ j (by show j≠w0.heap.size;omega))) (by rw[World.size_setCell];exact HA.out.blk.lt)
     rw[World.size_setCell] at this
     exact this
    have HB:Hid (∀q,w0.heap.size+1<=((w2.setCell ⟨w0.heap.size,6,none⟩ (.bool q)).alloc (.cells #[.slice ao nm.length ys.length] 23)).heap.size):=fun q=>(HS.out q).blk.lt
    have HF:Hid (∀(q:Bool),(q=false↔bd=false/\er=0)->RGo q wsb ⟨d.ns++[nm],d.us,d.ts,d.raw⟩ (rep (sName og) (k+1) o)):=fun q hq=>by
     rw[HT.out]
     cases q with
     |false=>exact .inl ⟨rfl,stp_ok HO.out H9.out (hq.1 rfl).1 (HG.out (hq.1 rfl).2)⟩
     |true=>
      refine .inr ⟨rfl,stp_no HO.out H9.out ?_⟩
      cases bd with
      |true=>exact .inl rfl
      |false=>
       by_cases he:er=0
       ·have:=hq.2 ⟨rfl,he⟩;cases this
       ·exact .inr (HG2.out he)
    have HDD:Hid (DB (K+(k+1)) false ⟨d.ns++[nm],d.us,d.ts,d.raw⟩):=HD.out.name HNL.out
    clear HG HG2
    rcases bd with _|_
    ·by_cases her:er=0
     ·subst her
      go_wp2_with (at_builtin;refine wl_st rfl fun K hK=>?_;refine st_nl rfl _ _ rfl (w0.heap.size+1) x'.p1 ⟨some ⟨w2.heap.size,0,none⟩,1,1⟩ d.ns [nm] rfl rfl (HS.out false).own.1 (HO1.out false) HL.out (HB.out false) ?_;intro t' w' hO hG;obtain ⟨og',hg1,hg2⟩:=hG.out;have HR:=Lib.hid ((HS.out false).app1 hg1 hg2 t' _ hO.out);have hr:=((HS.out false).grown hg1 (fun j e=>(hg2 j e).1)).1;have g2:=hr.cells.2.2.1;have gf:=hr.fz 2;refine hK _ _ ?_)
      exact ⟨⟨k+1,by omega,by go_num,wb,cb,⟨t',x'.p2,x'.p3,x'.p4⟩,wsb,false,⟨d.ns++[nm],d.us,d.ts,d.raw⟩,H1.out.1,H1.out.2.1,H1.out.2.2,HR.out,H9.out.1,HDD.out,HF.out false (by simp)⟩,by simp[intOf];omega⟩
     ·have her2:(er == 0)=false:=by simpa using her
      have her3:(er != 0)=true:=by simpa using her
      go_wp2_with (at_builtin;refine wl_st rfl fun K hK=>?_;refine st_nl rfl _ _ rfl (w0.heap.size+1) x'.p1 ⟨some ⟨w2.heap.size,0,none⟩,1,1⟩ d.ns [nm] rfl rfl (HS.out true).own.1 (HO1.out true) HL.out (HB.out true) ?_;intro t' w' hO hG;obtain ⟨og',hg1,hg2⟩:=hG.out;have HR:=Lib.hid ((HS.out true).app1 hg1 hg2 t' _ hO.out);have hr:=((HS.out true).grown hg1 (fun j e=>(hg2 j e).1)).1;have g2:=hr.cells.2.2.1;have gf:=hr.fz 2;refine hK _ _ ?_)
      exact ⟨⟨k+1,by omega,by go_num,wb,cb,⟨t',x'.p2,x'.p3,x'.p4⟩,wsb,true,⟨d.ns++[nm],d.us,d.ts,d.raw⟩,H1.out.1,H1.out.2.1,H1.out.2.2,HR.out,H9.out.1,HDD.out,HF.out true (by simp[her])⟩,by simp[intOf];omega⟩
    ·go_wp2_with (at_builtin;refine wl_st rfl fun K hK=>?_;refine st_nl rfl _ _ rfl (w0.heap.size+1) x'.p1 ⟨some ⟨w2.heap.size,0,none⟩,1,1⟩ d.ns [nm] rfl rfl (HS.out true).own.1 (HO1.out true) HL.out (HB.out true) ?_;intro t' w' hO hG;obtain ⟨og',hg1,hg2⟩:=hG.out;have HR:=Lib.hid ((HS.out true).app1 hg1 hg2 t' _ hO.out);have hr:=((HS.out true).grown hg1 (fun j e=>(hg2 j e).1)).1;have g2:=hr.cells.2.2.1;have gf:=hr.fz 2;refine hK _ _ ?_)
     exact ⟨⟨k+1,by omega,by go_num,wb,cb,⟨t',x'.p2,x'.p3,x'.p4⟩,wsb,true,⟨d.ns++[nm],d.us,d.ts,d.raw⟩,H1.out.1,H1.out.2.1,H1.out.2.2,HR.out,H9.out.1,HDD.out,HF.out true (by simp)⟩,by simp[intOf];omega⟩
  ·have hge:¬ (k:Int)<(N:Int):=by omega
   have hkn:k=N:=by omega
   subst hkn
   go_wp2_with fail
   go_end0
   exact ⟨⟨_,rfl⟩,HW.out⟩
end Go.Proofs.YtjkljpdolhglcaaGreatDoor
