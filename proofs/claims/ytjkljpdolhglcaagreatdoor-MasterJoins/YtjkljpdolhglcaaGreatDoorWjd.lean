/- Texts laid together, in parts: Nsw Hf Ff Oca Ocb Occ Ocd Hh Ga Gd Ge Nxl Nxm Nxr Hj Hk. -/
import Derived.Test.YtjkljpdolhglcaaGreatDoorWjc
import Derived.LaidEqlPtr
import Derived.WalkSpells
import Derived.Deep.RegionHeld3
import Derived.Deep.RegionLaw
import Derived.Deep.QuietTactic
import Derived.BigQuiet
set_option maxRecDepth 100000
set_option maxHeartbeats 8000000
set_option linter.unusedVariables false
set_option linter.unusedSimpArgs false
namespace Go.Proofs.YtjkljpdolhglcaaGreatDoor
open Go.ChangeShapes Go.WideShapes Go.ChangeAt Go.RowKit
theorem pcheck_wide(a:Option Addr)(len cap:Nat)(ss:List ByteArray)(w:World)(hr:RdT w a ss)(hl:ss.length=len)(hm:labsOk ss->nsz ss<=1000000000000000)(hlen:len<=9223372036854775807)(hz:∀s∈ss,s.size<=9223372036854775807) :
  Calls Tryz.prog 17 #[.slice a len cap] w fun e w'=>e=.returned (.int .i64 (nck ss))/\w'=w:=by
 have HR:Hid (RdT w a ss/\∀s∈ss,s.size<=9223372036854775807):=⟨hr,hz⟩
 have HL:Hid (ss.length=len):=hl
 have HS:Hid (labsOk ss->∀W,RdT W a ss->Calls Tryz.prog 32 #[.slice a len cap] W fun e w'=>e=.returned (.int .i64 (nsz ss))/\w'=W):=fun ho W hW=>psize_eq a len cap ss W hW hl (hm ho)
 obtain ⟨T,hT⟩:∃T,nsz ss=T:=⟨_,rfl⟩
 have HT:Hid (nsz ss=T):=hT
 rw[hT] at HS
 clear hr hl hT hz hm
 go_enter Tryz.func17,Tryz.ntmps17
 go_wp2_with fail
 go_loopw [8] (fun x wr=>∃k:Nat,k<=len/\x=.int .i64 k/\wr=w/\Hid (∀i (h:i<ss.length),i<k->chk ss[i].size=0)) (fun x _=>len - (intOf x).toNat)
 case atStart=>exact ⟨0,Nat.zero_le _,rfl,rfl,fun i _ h=>absurd h (by omega)⟩
 case round=>
  obtain ⟨k,hk,rfl,rfl,HK⟩:=hrel
  by_cases hlt:k<len
  ·have hlt':(k:Int)<(len:Int):=by omega
   have hks:k<ss.length:=by rw[HL.out];exact hlt
   obtain ⟨b,o,rfl,hb,hc⟩:=HR.out.1.at k hks
   have HC:Hid (∀W,Calls Tryz.prog 31 #[.string ss[k]] W fun e w'=>e=.returned (.int .i64 (chk ss[k].size))/\w'=W):=fun W=>chk_any ss[k] W (HR.out.2 _ (List.getElem_mem hks))
   rcases chk_cases ss[k].size with hk0|hk4
   ·have HN:Hid (∀i (h:i<ss.length),i<k+1->chk ss[i].size=0):=by
     intro i h hi
     by_cases e:i=k
     ·subst e;exact hk0
     ·exact HK.out i h (by omega)
    rw[hk0] at HC
    clear hk0 HK
    generalize ss[k]=s at*
    go_wp2_with fail
    refine (HC.out _).mono ?_
    rintro e w1 ⟨rfl,rfl⟩
    go_wp2
    exact ⟨⟨k+1,by omega,by go_num,trivial,HN⟩,by simp[intOf];omega⟩
   ·have HE:Hid (nck ss=4):=by
     show nck ss=4
     unfold nck
     rw[if_neg (fun h=>by have:=h _ (List.getElem_mem hks);rw[hk4] at this;cases this)]
    rw[hk4] at HC
    clear hk4 HK
    generalize ss[k]=s at*
    go_wp2_with fail
    refine (HC.out _).mono ?_
    rintro e w1 ⟨rfl,rfl⟩
    go_wp2
    go_ret
    exact ⟨by rw[HE.out];rfl,rfl⟩
  ·have hge:(len:Int)<=(k:Int):=by omega
   have HO:Hid (labsOk ss):=by
    intro s hs
    obtain ⟨i,hi,rfl⟩:=List.getElem_of_mem hs
    exact HK.out i hi (by have:=HL.out;omega)
   by_cases hb:255<T
   ·have HE:Hid (nck ss=5):=by show nck ss=5;unfold nck;rw[if_pos HO.out,HT.out,if_pos hb]
    have hb':(255:Int)<(T:Int):=by omega
    clear HK
    go_wp2_with fail
    refine (HS.out HO.out _ HR.out.1).mono ?_
    rintro e w1 ⟨rfl,rfl⟩
    go_wp2
    go_ret
    exact ⟨by rw[HE.out];rfl,rfl⟩
   ·have HE:Hid (nck ss=0):=by show nck ss=0;unfold nck;rw[if_pos HO.out,HT.out,if_neg hb]
    have hb':¬ (255:Int)<(T:Int):=by omega
    clear HK
    go_wp2_with fail
    refine (HS.out HO.out _ HR.out.1).mono ?_
    rintro e w1 ⟨rfl,rfl⟩
    go_wp2
    go_ret
    exact ⟨by rw[HE.out];rfl,rfl⟩
theorem nsErr_drop'(l:List (List ByteArray))(k:Nat)(h:∀n∈l.take k,nck n=0):nsErr l=nsErr (l.drop k):=by
 induction l generalizing k with
 |nil=>simp
 |cons x l ih=>
  cases k with
  |zero=>simp
  |succ k=>
   have h0:nck x=0:=h x (by simp)
   simp only[nsErr,List.drop_succ_cons]
   rw[if_pos h0]
   exact ih k (fun n hn=>h n (by simp[hn]))
structure Bd(d:Dat):Prop where
 n:d.ns.length<=1000
 nl:∀x∈d.ns,x.length<=1000000
 u:d.us.length<=1000
 t:tsum d<=1000000000000
 r:d.raw.length<=1000000000000
theorem sum_le(l:List Nat)(m:Nat)(h:∀x∈l,x<=m):l.sum<=l.length*m:=by
 induction l with
 |nil=>simp
 |cons a l ih=>
  have h1:=h a (by simp)
  have h2:=ih (fun x hx=>h x (by simp[hx]))
  simp only[List.sum_cons,List.length_cons,Nat.succ_mul]
  omega
theorem nsz_labs(ss:List ByteArray)(h:labsOk ss):nsz ss<=64*ss.length+1:=by
 have h1:(nby ss).length<=64*ss.length:=by
  induction ss with
  |nil=>simp[nby]
  |cons a l ih=>
   have e:nby (a::l)=(a.size:Int)::(nums a++nby l):=by simp[nby]
   have h0:=h a (by simp)
   have h2:=ih (fun x hx=>h x (by simp[hx]))
   have h3:a.size<=63:=by unfold chk at h0;split at h0 <;> simp_all <;> omega
   rw[e]
   simp[nums_len]
   omega
 have:=nby_len ss
 omega
theorem nsErr_zero{l:List (List ByteArray)}(h:nsErr l=0):∀n∈l,nck n=0:=by
 induction l with
 |nil=>simp
 |cons a l ih=>
  simp only[nsErr] at h
  by_cases ha:nck a=0
  ·rw[if_pos ha] at h
   intro n hn
   rcases List.mem_cons.1 hn with rfl|hn
   ·exact ha
   ·exact ih h n hn
  ·rw[if_neg ha] at h;exact absurd h ha
theorem fs_wd(t:Nat):(fs t).wd=0∨(fs t).wd=1∨(fs t).wd=2∨(fs t).wd=4:=by
 rcases fs_cases t with ⟨_,e⟩|⟨_,e⟩|⟨_,e⟩|⟨_,e⟩|⟨_,e⟩|⟨_,e⟩|⟨_,e⟩|⟨_,e⟩|⟨_,e⟩ <;> rw[e] <;> simp
theorem fs_tl(t:Nat):(fs t).tl<=1:=by
 rcases fs_cases t with ⟨_,e⟩|⟨_,e⟩|⟨_,e⟩|⟨_,e⟩|⟨_,e⟩|⟨_,e⟩|⟨_,e⟩|⟨_,e⟩|⟨_,e⟩ <;> rw[e] <;> simp
theorem fs_tags(t:Nat)(d:Dat)(h:cntB (fs t) d=true):(fs t).tg<=d.ts.length/\(fs t).tl<=d.ts.length:=by
 unfold cntB at h
 simp only[Bool.and_eq_true] at h
 obtain ⟨⟨⟨_,_⟩,h⟩,_⟩:=h
 rcases fs_cases t with ⟨_,e⟩|⟨_,e⟩|⟨_,e⟩|⟨_,e⟩|⟨_,e⟩|⟨_,e⟩|⟨_,e⟩|⟨_,e⟩|⟨_,e⟩ <;> rw[e] at h ⊢ <;> simp
 simp only at h
 rw[fitB_ge _ _ (by omega)] at h
 simp at h
 omega
def PkSt(w W:World)(b g:Nat)(f:Fs)(x:DA)(d:Dat):Prop:=DBox W b x/\FBox W g f/\DRd W x d/\Below w.heap.size w W
theorem PkSt.go{w W W':World}{b g:Nat}{f:Fs}{x:DA}{d:Dat}(h:PkSt w W b g f x d)(hb:Below W.heap.size W W'):PkSt w W' b g f x d:=
 ⟨h.1.below hb,h.2.1.below hb,h.2.2.1.below hb,h.2.2.2.trans (hb.mono h.2.2.2.size)⟩
theorem PkSt.new{w W:World}{b:Nat}(f:Fs){x:DA}{d:Dat}(h1:DBox W b x)(h2:DRd W x d)(h3:Below w.heap.size w W):PkSt w (W.alloc (.cells #[.int .i64 f.nn,.int .i64 f.nf,.int .i64 f.nu,.int .i64 f.wd,.int .i64 f.nt,.int .i64 f.tg,.int .i64 f.tl,.int .i64 f.nr] 201)) b W.heap.size f x d:=by
 have hb:Below W.heap.size W (W.alloc (.cells #[.int .i64 f.nn,.int .i64 f.nf,.int .i64 f.nu,.int .i64 f.wd,.int .i64 f.nt,.int .i64 f.tg,.int .i64 f.tl,.int .i64 f.nr] 201)):=(Below.refl _ _).alloc (Nat.le_refl _) _
 exact ⟨h1.below hb,FBox.new W f,h2.below hb,h3.trans (hb.mono h3.size)⟩
theorem check_any(t:Nat)(x:DA)(d:Dat)(w:World)(h:DRd w x d)(hB:Bd d) :
  Calls Tryz.prog 112 #[.int .u16 t,.agg #[.slice x.p1.a x.p1.n x.p1.c,.slice x.p2.a x.p2.n x.p2.c,.slice x.p3.a x.p3.n x.p3.c,.slice x.p4.a x.p4.n x.p4.c]] w fun e w'=>e=.returned (.int .i64 (checkF t d))/\Hid (Below w.heap.size w w'):=by
 have hb0:Below w.heap.size w (w.alloc (.cells #[.slice x.p1.a x.p1.n x.p1.c,.slice x.p2.a x.p2.n x.p2.c,.slice x.p3.a x.p3.n x.p3.c,.slice x.p4.a x.p4.n x.p4.c] 48)):=(Below.refl _ _).alloc (Nat.le_refl _) _
 have H:Hid (DBox (w.alloc (.cells #[.slice x.p1.a x.p1.n x.p1.c,.slice x.p2.a x.p2.n x.p2.c,.slice x.p3.a x.p3.n x.p3.c,.slice x.p4.a x.p4.n x.p4.c] 48)) w.heap.size x/\DRd (w.alloc (.cells #[.slice x.p1.a x.p1.n x.p1.c,.slice x.p2.a x.p2.n x.p2.c,.slice x.p3.a x.p3.n x.p3.c,.slice x.p4.a x.p4.n x.p4.c] 48)) x d/\Below w.heap.size w (w.alloc (.cells #[.slice x.p1.a x.p1.n x.p1.c,.slice x.p2.a x.p2.n x.p2.c,.slice x.p3.a x.p3.n x.p3.c,.slice x.p4.a x.p4.n x.p4.c] 48))):=⟨DBox.new w x,h.below hb0,hb0⟩
 have KC:Hid (∀W,DRd W x d->Calls Tryz.prog 139 #[.agg #[.int .i64 (fs t).nn,.int .i64 (fs t).nf,.int .i64 (fs t).nu,.int .i64 (fs t).wd,.int .i64 (fs t).nt,.int .i64 (fs t).tg,.int .i64 (fs t).tl,.int .i64 (fs t).nr],.agg #[.slice x.p1.a x.p1.n x.p1.c,.slice x.p2.a x.p2.n x.p2.c,.slice x.p3.a x.p3.n x.p3.c,.slice x.p4.a x.p4.n x.p4.c]] W fun e w'=>e=.returned (.bool (cntB (fs t) d))/\Hid (Below W.heap.size W w')):=fun W hd=>counted_any (fs t) x d W hd
 have KW:Hid (cntB (fs t) d=true->∀W,DRd W x d->Calls Tryz.prog 140 #[.agg #[.int .i64 (fs t).nn,.int .i64 (fs t).nf,.int .i64 (fs t).nu,.int .i64 (fs t).wd,.int .i64 (fs t).nt,.int .i64 (fs t).tg,.int .i64 (fs t).tl,.int .i64 (fs t).nr],.agg #[.slice x.p1.a x.p1.n x.p1.c,.slice x.p2.a x.p2.n x.p2.c,.slice x.p3.a x.p3.n x.p3.c,.slice x.p4.a x.p4.n x.p4.c]] W fun e w'=>e=.returned (.bool (wthB (fs t) d))/\Hid (Below W.heap.size W w')):=fun hc W hd=>within_any (fs t) x d W hd (fs_wd t) (fs_tags t d hc).1 (fs_tags t d hc).2
 have KZ:Hid (cntB (fs t) d=true->wthB (fs t) d=true->nsErr d.ns=0->∀W,DRd W x d->Calls Tryz.prog 141 #[.agg #[.int .i64 (fs t).nn,.int .i64 (fs t).nf,.int .i64 (fs t).nu,.int .i64 (fs t).wd,.int .i64 (fs t).nt,.int .i64 (fs t).tg,.int .i64 (fs t).tl,.int .i64 (fs t).nr],.agg #[.slice x.p1.a x.p1.n x.p1.c,.slice x.p2.a x.p2.n x.p2.c,.slice x.p3.a x.p3.n x.p3.c,.slice x.p4.a x.p4.n x.p4.c]] W fun e w'=>e=.returned (.int .i64 (sizesF t d:Nat))/\Hid (Below W.heap.size W w')):=by
  intro h1 h2 h3 W hd
  have h4:fitsB t d=true:=by rw[<- fit_eq,h1,h2];rfl
  rw[<- psz_eq t d h4]
  refine psize5_any (fs t) x d W hd (fs_tl t) ?_
  have h5:nsum d<=1000*255:=by
   have:=sum_le (d.ns.map nsz) 255 (by
    intro y hy
    obtain ⟨n,hn,rfl⟩:=List.mem_map.1 hy
    exact (nck_small (nsErr_zero h3 n hn)).1)
   rw[List.length_map] at this
   have h6:d.ns.length*255<=1000*255:=Nat.mul_le_mul_right _ hB.n
   unfold nsum
   omega
  have h7:(fs t).wd*d.us.length<=4*1000:=Nat.mul_le_mul (by have:=fs_wd t;omega) hB.u
  have h8:=hB.t
  have h9:=hB.r
  omega
 have KO:Hid (∀W,Calls Tryz.prog 138 #[.int .u16 t] W fun e w'=>e=.returned (.agg #[.int .i64 (fs t).nn,.int .i64 (fs t).nf,.int .i64 (fs t).nu,.int .i64 (fs t).wd,.int .i64 (fs t).nt,.int .i64 (fs t).tg,.int .i64 (fs t).tl,.int .i64 (fs t).nr])/\Hid (Below W.heap.size W w')):=fun W=>fieldsof_any t W
 have hc1:x.p1.n<=9223372036854775807:=Nat.le_trans h.h1.cap.1 h.h1.cap.2
 have HL:Hid (d.ns.length=x.p1.n):=h.h1.len
 have HNB:Hid (∀n∈d.ns,labsOk n->nsz n<=1000000000000000):=by
  intro n hn hl
  have h1:=nsz_labs n hl
  have h2:=hB.nl n hn
  omega
 have HQ:Hid (checkF t d=if mayT t then (if (cntB (fs t) d && wthB (fs t) d) then (if nsErr d.ns=0 then (if 65535<sizesF t d then 3 else 0) else nsErr d.ns) else 7) else 6):=by
  show _=_
  rw[fit_eq]
  rfl
 obtain ⟨C,hC⟩:∃C,checkF t d=C:=⟨_,rfl⟩
 rw[hC] at HQ ⊢
 have KH:Hid (∀W,Calls Tryz.prog 137 #[.int .u16 t] W fun e w'=>e=.returned (.bool (mayT t))/\w'=W):=fun W=>hasdata_any t W
 clear hC h hb0 hB
 generalize hmay:mayT t=mt at*
 generalize hcnt:cntB (fs t) d=ct at*
 generalize hwth:wthB (fs t) d=wt at*
 generalize (fs t)=f at*
 generalize hsz:sizesF t d=sz at*
 clear hmay hcnt hwth hsz
 obtain ⟨nn,nf,nu,wd,nt,tg,tl,nr⟩:=f
 obtain ⟨⟨a1,n1,k1⟩,⟨a2,n2,k2⟩,⟨a3,n3,k3⟩,⟨a4,n4,k4⟩⟩:=x
 simp only at H KC KW KZ KO hc1 HL ⊢
 go_enter Tryz.func112,Tryz.ntmps112
 go_wp2_with fail
 generalize (w.alloc (.cells #[.slice a1 n1 k1,.slice a2 n2 k2,.slice a3 n3 k3,.slice a4 n4 k4] 48))=W1 at*
 obtain ⟨b,hb⟩:∃b,b=w.heap.size:=⟨_,rfl⟩
 rw[<- hb] at H ⊢
 have Hb:Hid (b=w.heap.size):=hb
 clear hb
 refine (KH.out W1).mono ?_
 rintro e W1 ⟨rfl,rfl⟩
 clear KH
 cases mt with
 |false=>
  have HE:Hid (C=6):=by show C=6;have:=HQ.out;simpa using this
  clear HQ KC KW KZ KO
  go_wp2_with fail
  go_ret
  exact ⟨by rw[HE.out];rfl,by have:=H.out.2.2;rw[Hb.out] at this;exact this⟩
 |true=>
 go_wp2_with fail
 refine (KO.out W1).mono ?_
 rintro e W2 ⟨rfl,H2⟩
 have H3:Hid (PkSt w (W2.alloc (.cells #[.int .i64 nn,.int .i64 nf,.int .i64 nu,.int .i64 wd,.int .i64 nt,.int .i64 tg,.int .i64 tl,.int .i64 nr] 201)) b W2.heap.size ⟨nn,nf,nu,wd,nt,tg,tl,nr⟩ ⟨⟨a1,n1,k1⟩,⟨a2,n2,k2⟩,⟨a3,n3,k3⟩,⟨a4,n4,k4⟩⟩ d):=PkSt.new ⟨nn,nf,nu,wd,nt,tg,tl,nr⟩ (H.out.1.below H2.out) (H.out.2.1.below H2.out) (by have:=H.out.2.2;rw[Hb.out] at this;exact this.trans (H2.out.mono this.size))
 clear H H2 KO
 go_upto_region 4 with fail
 generalize (W2.alloc (.cells #[.int .i64 nn,.int .i64 nf,.int .i64 nu,.int .i64 wd,.int .i64 nt,.int .i64 tg,.int .i64 tl,.int .i64 nr] 201))=W3 at*
 generalize W2.heap.size=g at*
 obtain ⟨s0,s1,s2,s3,s4,s5,s6,s7,_⟩:=H3.out.2.1
 have c0:=H3.out.1.1
 have c1:=H3.out.1.2.1
 have c2:=H3.out.1.2.2.1
 have c3:=H3.out.1.2.2.2.1
 simp only at s0 s1 s2 s3 s4 s5 s6 s7 c0 c1 c2 c3
 go_wp2_with fail
 refine (KC.out W3 H3.out.2.2.1).mono ?_
 rintro e W4 ⟨rfl,H4⟩
 have H5:Hid (PkSt w W4 b g ⟨nn,nf,nu,wd,nt,tg,tl,nr⟩ ⟨⟨a1,n1,k1⟩,⟨a2,n2,k2⟩,⟨a3,n3,k3⟩,⟨a4,n4,k4⟩⟩ d):=H3.out.go H4.out
 clear H3 H4 KC s0 s1 s2 s3 s4 s5 s6 s7 c0 c1 c2 c3
 cases ct with
 |false=>
  have HE:Hid (C=7):=by show C=7;have:=HQ.out;simpa using this
  clear HQ KZ KW
  go_wp2_with fail
  go_ret
  exact ⟨by rw[HE.out];rfl,H5.out.2.2.2⟩
 |true=>
 obtain ⟨s0,s1,s2,s3,s4,s5,s6,s7,_⟩:=H5.out.2.1
 have c0:=H5.out.1.1
 have c1:=H5.out.1.2.1
 have c2:=H5.out.1.2.2.1
 have c3:=H5.out.1.2.2.2.1
 simp only at s0 s1 s2 s3 s4 s5 s6 s7 c0 c1 c2 c3
 go_wp2_with fail
 refine (KW.out (by trivial) W4 H5.out.2.2.1).mono ?_
 rintro e W5 ⟨rfl,H4⟩
 have H6:Hid (PkSt w W5 b g ⟨nn,nf,nu,wd,nt,tg,tl,nr⟩ ⟨⟨a1,n1,k1⟩,⟨a2,n2,k2⟩,⟨a3,n3,k3⟩,⟨a4,n4,k4⟩⟩ d):=H5.out.go H4.out
 clear H5 H4 KW s0 s1 s2 s3 s4 s5 s6 s7 c0 c1 c2 c3
 cases wt with
 |false=>
  have HE:Hid (C=7):=by show C=7;have:=HQ.out;simpa using this
  clear HQ KZ
  go_wp2_with fail
  go_ret
  exact ⟨by rw[HE.out];rfl,H6.out.2.2.2⟩
 |true=>
 have HQ2:Hid (C=if nsErr d.ns=0 then (if 65535<sz then 3 else 0) else nsErr d.ns):=by show C=_;have:=HQ.out;simpa using this
 clear HQ
 have c0:=H6.out.1.1
 simp only at c0
 go_wp2_with fail
 go_loopw [27] (fun i wr=>wr=W5/\∃k:Nat,k<=n1/\i=.int .i64 (k:Int)/\Hid (∀n∈d.ns.take k,nck n=0)) (fun i _=>n1 - (intOf i).toNat)
 case atStart=>exact ⟨rfl,0,Nat.zero_le _,rfl,by intro n hn;simp at hn⟩
 case round=>
  obtain ⟨hwr,k,hk,rfl,HA⟩:=hrel
  subst hwr
  by_cases hlt:k<n1
  ·have hlt':(k:Int)<(n1:Int):=by omega
   have hki:k<d.ns.length:=by rw[HL.out];exact hlt
   obtain ⟨B1,o1,ha1,hl1,z1,hz1,hr1⟩:=H6.out.2.2.1.h1.at k hki
   simp only at ha1
   subst ha1
   have HD:Hid (nsErr d.ns=if nck d.ns[k]=0 then nsErr (d.ns.drop (k+1)) else nck d.ns[k]):=by
    show _=_
    rw[nsErr_drop' d.ns k HA.out,List.drop_eq_getElem_cons hki]
    rfl
   have HA2:Hid (nck d.ns[k]=0->∀n∈d.ns.take (k+1),nck n=0):=by
    intro h0 n hn
    rw[List.take_succ_eq_append_getElem hki] at hn
    simp only[List.mem_append,List.mem_singleton] at hn
    rcases hn with hn|rfl
    ·exact HA.out n hn
    ·exact h0
   have KC:Hid (∀W,W=wr->Calls Tryz.prog 17 #[.slice z1.a z1.n z1.c] W fun e w'=>e=.returned (.int .i64 (nck d.ns[k]))/\w'=W):=by
    intro W e
    subst e
    exact pcheck_wide z1.a z1.n z1.c d.ns[k] W hr1.rd hr1.len (HNB.out _ (List.getElem_mem _)) (Nat.le_trans hr1.cap.1 hr1.cap.2) hr1.z63
   clear hr1 HA
   generalize nck d.ns[k]=q at*
   generalize z1.a=za at*
   generalize z1.n=zn at*
   generalize z1.c=zc at*
   by_cases hq:q=0
   ·have hq':(q != 0)=false:=by simp[hq]
    have HA3:=HA2.out hq
    have HA4:Hid (∀n∈d.ns.take (k+1),nck n=0):=HA3
    clear HA3 HA2 HD hq
    go_wp2_with fail
    refine (KC.out _ rfl).mono ?_
    rintro e Wx ⟨rfl,rfl⟩
    go_wp2_with fail
    refine ⟨⟨by first|rfl|trivial,k+1,by omega,by go_num,HA4⟩,?_⟩
    simp[intOf];omega
   ·have hq':(q != 0)=true:=by simp[hq]
    have HE:Hid (C=q):=by
     have h1:=HQ2.out
     have h2:=HD.out
     rw[if_neg hq] at h2
     rw[h2,if_neg hq] at h1
     exact h1
    clear HA2 HD hq HQ2
    go_wp2_with fail
    refine (KC.out _ rfl).mono ?_
    rintro e Wx ⟨rfl,rfl⟩
    go_wp2_with fail
    go_ret
    exact ⟨by rw[HE.out];rfl,H6.out.2.2.2⟩
  ·have hge:¬ (k:Int)<(n1:Int):=by omega
   have HN:Hid (nsErr d.ns=0):=by
    have h1:=HA.out
    rw[List.take_of_length_le (by rw[HL.out];show n1<=k;omega)] at h1
    have:=nsErr_drop' d.ns d.ns.length (by rw[List.take_of_length_le (Nat.le_refl _)];exact h1)
    rw[List.drop_length] at this
    exact this
   have HE:Hid (C=if 65535<sz then 3 else 0):=by
    have h1:=HQ2.out
    rw[if_pos HN.out] at h1
    exact h1
   have KZ2:Hid (∀W,DRd W ⟨⟨a1,n1,k1⟩,⟨a2,n2,k2⟩,⟨a3,n3,k3⟩,⟨a4,n4,k4⟩⟩ d->Calls Tryz.prog 141 #[.agg #[.int .i64 nn,.int .i64 nf,.int .i64 nu,.int .i64 wd,.int .i64 nt,.int .i64 tg,.int .i64 tl,.int .i64 nr],.agg #[.slice a1 n1 k1,.slice a2 n2 k2,.slice a3 n3 k3,.slice a4 n4 k4]] W fun e w'=>e=.returned (.int .i64 (sz:Nat))/\Hid (Below W.heap.size W w')):=KZ.out (by trivial) (by trivial) HN.out
   clear HA HN KZ HQ2
   obtain ⟨s0,s1,s2,s3,s4,s5,s6,s7,_⟩:=H6.out.2.1
   have c1:=H6.out.1.2.1
   have c2:=H6.out.1.2.2.1
   have c3:=H6.out.1.2.2.2.1
   simp only at s0 s1 s2 s3 s4 s5 s6 s7 c1 c2 c3
   go_wp2_with fail
   refine (KZ2.out _ H6.out.2.2.1).mono ?_
   rintro e W7 ⟨rfl,H7⟩
   have HB:Hid (Below w.heap.size w W7):=H6.out.2.2.2.trans (H7.out.mono H6.out.2.2.2.size)
   clear H7 H6 s0 s1 s2 s3 s4 s5 s6 s7 c0 c1 c2 c3 KZ2
   by_cases hs:65535<sz
   ·have hs':(65535:Int)<(sz:Int):=by omega
    have HE2:Hid (C=3):=by have:=HE.out;rw[if_pos hs] at this;exact this
    clear HE
    go_wp2_with fail
    go_ret
    exact ⟨by rw[HE2.out];rfl,HB.out⟩
   ·have hs':¬ (65535:Int)<(sz:Int):=by omega
    have HE2:Hid (C=0):=by have:=HE.out;rw[if_neg hs] at this;exact this
    clear HE
    go_wp2_with fail
    go_ret
    exact ⟨by rw[HE2.out];rfl,HB.out⟩
theorem own_mono{B B':Nat}{w:World}{v:Value}{n:Nat}{zs:List Int}(h:Own B w v n zs)(hB:B'<=B):Own B' w v n zs:=by
 rcases h with h|⟨g,h1,h2,h3⟩
 ·exact .inl h
 ·exact .inr ⟨g,h1,Nat.le_trans hB h2,h3⟩
theorem rd_none{w:World}{zs:List Int}(h:Rd w none zs):zs=[]:=by
 rcases h.1 with h1|⟨b,o,e,_⟩
 ·exact h1
 ·cases e
theorem neq_ptr_same(a:Addr)(w:World):(binOp .neq 237 (.pointer (some a)) (.pointer (some a))).run Tryz.prog w=.ok (.bool false) w:=by
 obtain ⟨j,hi⟩:∃j,Tryz.prog.info? 252=some j:=Option.isSome_iff_exists.1 (by kernel_rfl)
 have h:∀d:Nat,(Op.equalIn (d+1) 237 (.pointer (some a)) (.pointer (some a))).run Tryz.prog w=.ok true w:=fun d=>by
  simp[Op.equalIn,run_underlying Tryz.underlying237,sizeOf,typeInfo,hi,run_sameAddr_same]
 simp only[binOp]
 simp[Op.equal,Op.maxDepth,h 9999]
theorem view0(a b c d:Value)(w:World):(Instr.field 257 (.agg #[a,b,c,d]) 0).run Tryz.prog w=.ok a w:=by kernel_rfl
theorem view1(a b c d:Value)(w:World):(Instr.field 257 (.agg #[a,b,c,d]) 1).run Tryz.prog w=.ok b w:=by kernel_rfl
theorem view2(a b c d:Value)(w:World):(Instr.field 257 (.agg #[a,b,c,d]) 2).run Tryz.prog w=.ok c w:=by kernel_rfl
theorem view3(a b c d:Value)(w:World):(Instr.field 257 (.agg #[a,b,c,d]) 3).run Tryz.prog w=.ok d w:=by kernel_rfl
theorem slice_is_nil(a:Option Addr)(n c:Nat)(w:World):(binOp .eql 46 (.slice a n c) (.slice none 0 0)).run Tryz.prog w=.ok (.bool a.isNone) w:=Lib.run_eql_slice_nil w _ _ _ _ _ _ _ Tryz.underlying46
attribute [local go_sem] view0 view1 view2 view3 slice_is_nil
theorem number_any(a:Option Addr)(len cap:Nat)(zs:List Int)(w:World)(hr:Rd w a zs)(hl:zs.length=len)(hm:len<=4) :
  Calls Tryz.prog 217 #[.slice a len cap] w fun e w'=>e=.returned (.int .u32 (val zs))/\w'=w:=by
 have HL:Hid (zs.length=len):=hl
 have HR:Hid (Rd w a zs):=hr
 clear hl hr
 go_enter Tryz.func217,Tryz.ntmps217
 go_wp2
 go_loop [3,8] (fun n i=>∃k:Nat,k<=len/\i=.int .i64 k/\n=.int .u32 (val (zs.take k))) (fun _ i=>len - (intOf i).toNat)
 case atStart=>exact ⟨0,Nat.zero_le _,rfl,rfl⟩
 case round=>
  obtain ⟨k,hk,rfl,rfl⟩:=hrel
  by_cases hlt:k<len
  ·rcases HR.out.1 with h1|⟨b,o,rfl,h1,h2⟩
   ·have:=HL.out;subst h1;simp at this;omega
   ·have hc:=h2 k (by rw[HL.out];exact hlt)
    have hb:=HR.out.bd k
    have hv:=val_small zs HR.out.2 k (by omega)
    clear h2
    have hlt':(k:Int)<(len:Int):=by omega
    go_wp2
    go_round
    case rel=>
     refine ⟨k+1,by omega,by go_num,?_⟩
     rw[take_snoc zs k (by rw[HL.out];exact hlt),val_snoc,<- List.getD_eq_getElem?_getD,u32_join _ _ hv.1 hv.2 hb.1 hb.2]
    case measure=>simp[intOf];omega
  ·obtain rfl:k=len:=by omega
   go_wp2
   go_ret
   have:zs.take k=zs:=List.take_of_length_le (by rw[HL.out];exact Nat.le_refl _)
   rw[this]
   exact ⟨rfl,rfl⟩
end Go.Proofs.YtjkljpdolhglcaaGreatDoor
namespace Go.Proofs.YtjkljpdolhglcaaGreatDoor
open Go.ChangeShapes Go.WideShapes Go.ChangeAt Go.RowKit
attribute [local go_sem] view0 view1 view2 view3 slice_is_nil
def RBlk(w:World)(g:Nat)(t:Value)(k:Int)(bad:Bool):Prop:=
 w.heap[g]?=some (.cells #[.pointer (some ⟨g,0,none⟩),t,.int .i64 k,.bool bad] 252 (0,0))
theorem RBlk.lt{w:World}{g:Nat}{t:Value}{k:Int}{bad:Bool}(h:RBlk w g t k bad):g<w.heap.size:=(Array.getElem?_eq_some_iff.1 h).1
theorem RBlk.c0{w:World}{g:Nat}{t:Value}{k:Int}{bad:Bool}(h:RBlk w g t k bad):w.cell? ⟨g,0,none⟩=some (.pointer (some ⟨g,0,none⟩)):=by
 have h':w.heap[g]?=_:=h
 simp[World.cell?,h']
theorem RBlk.c1{w:World}{g:Nat}{t:Value}{k:Int}{bad:Bool}(h:RBlk w g t k bad):w.cell? ⟨g,1,none⟩=some t:=by
 have h':w.heap[g]?=_:=h
 simp[World.cell?,h']
theorem RBlk.c2{w:World}{g:Nat}{t:Value}{k:Int}{bad:Bool}(h:RBlk w g t k bad):w.cell? ⟨g,2,none⟩=some (.int .i64 k):=by
 have h':w.heap[g]?=_:=h
 simp[World.cell?,h']
theorem RBlk.c3{w:World}{g:Nat}{t:Value}{k:Int}{bad:Bool}(h:RBlk w g t k bad):w.cell? ⟨g,3,none⟩=some (.bool bad):=by
 have h':w.heap[g]?=_:=h
 simp[World.cell?,h']
theorem RBlk.fz{w:World}{g:Nat}{t:Value}{k:Int}{bad:Bool}(h:RBlk w g t k bad)(i:Nat):w.frozen? ⟨g,i,none⟩=false:=by
 have h':w.heap[g]?=_:=h
 simp[World.frozen?,h']
theorem RBlk.same{w w':World}{g:Nat}{t:Value}{k:Int}{bad:Bool}(h:RBlk w g t k bad)(hb:w'.heap[g]?=w.heap[g]?):RBlk w' g t k bad:=hb.trans h
theorem RBlk.at{w:World}{g:Nat}{t:Value}{k:Int}{bad:Bool}(h:RBlk w g t k bad)(k':Int):RBlk (w.setCell ⟨g,2,none⟩ (.int .i64 k')) g t k' bad:=heap_set h 2 _
theorem piece_in(a:Option Addr)(len cap at_ n:Nat)(zs:List Int)(w:World)(hr:Rd w a zs)(hl:zs.length=len)(hc:len<=cap)(hm:len<=140737488355328)(hn:at_+n<=len) :
  Calls Tryz.prog 218 #[.slice a len cap,.int .i64 at_,.int .i64 n] w fun e w'=>(∃a',e=.returned (.tuple #[.slice a' n (cap - at_),.bool true])/\Hid ((∀W,Rd W a zs->Rd W a' ((zs.drop at_).take n))/\(a'=none->a=none)))/\w'=w:=by
 have HL:Hid (zs.length=len):=hl
 have HR:Hid (Rd w a zs):=hr
 clear hl hr
 have h1:¬ (at_:Int)<0:=by omega
 have h2:(at_:Int)<=(len:Int):=by omega
 have h3:¬ (n:Int)<0:=by omega
 have h4:(n:Int)<=(len:Int) - (at_:Int):=by omega
 go_enter Tryz.func218,Tryz.ntmps218
 go_wp2
 ·go_ret2
  exact ⟨⟨_,rfl,fun W hW=>hW.cut at_ n (by rw[HL.out];exact hn) (fun h b o e=>absurd h (by omega)),fun e=>e⟩,rfl⟩
 ·go_ret2
  exact ⟨⟨_,rfl,fun W hW=>hW.cut at_ n (by rw[HL.out];exact hn) (fun h b o e=>by subst e;simp[Addr.add]),fun e=>Option.map_eq_none_iff.1 e⟩,rfl⟩
theorem piece_out(a:Option Addr)(len cap:Nat)(at_ n:Int)(w:World)(hm:len<=140737488355328)
  (h:at_<0∨(0<=at_/\(len:Int)<at_)∨(0<=at_/\at_<=(len:Int)/\n<0)∨(0<=at_/\at_<=(len:Int)/\0<=n/\(len:Int) - at_<n)) :
  Calls Tryz.prog 218 #[.slice a len cap,.int .i64 at_,.int .i64 n] w fun e w'=>e=.returned (.tuple #[.slice none 0 0,.bool false])/\w'=w:=by
 rcases h with h|⟨h0,h⟩|⟨h0,h1,h⟩|⟨h0,h1,h2,h⟩
 ·go_enter Tryz.func218,Tryz.ntmps218
  go_wp2
  go_ret2
  exact ⟨rfl,rfl⟩
 ·go_enter Tryz.func218,Tryz.ntmps218
  go_wp2
  go_ret2
  exact ⟨rfl,rfl⟩
 ·go_enter Tryz.func218,Tryz.ntmps218
  go_wp2
  go_ret2
  exact ⟨rfl,rfl⟩
 ·go_enter Tryz.func218,Tryz.ntmps218
  go_wp2
  go_ret2
  exact ⟨rfl,rfl⟩
def Off(a:Option Addr)(g:Nat):Prop:=∀b o,a=some ⟨b,o,none⟩->b≠g
theorem Rd.grown{w w':World}{a:Option Addr}{zs:List Int}{g:Nat}(h:Rd w a zs)(hg:w.grownBy w' (some g))(ho:Off a g):Rd w' a zs:=by
 refine ⟨?_,h.2⟩
 rcases h.1 with h1|⟨b,o,rfl,h1,h2⟩
 ·exact .inl h1
 ·refine .inr ⟨b,o,rfl,Nat.lt_of_lt_of_le h1 hg.size,fun i hi=>?_⟩
  rw[<- h2 i hi]
  exact World.cell?_of_block (w:=w) (a:=⟨b,o+i,none⟩) (hg.block b h1 (fun e=>ho b o rfl (Option.some.inj e)))
theorem moved(g:Nat)(t:Value)(k k':Int)(w:World)(hb:RBlk w g t k false)(cs:Array Value) :
  RBlk ((w.setCell ⟨g,2,none⟩ (.int .i64 k')).alloc (.cells cs 257)) g t k' false/\((w.setCell ⟨g,2,none⟩ (.int .i64 k')).alloc (.cells cs 257)).heap[w.heap.size]?=some (.cells cs 257 (0,0))/\
  w.grownBy ((w.setCell ⟨g,2,none⟩ (.int .i64 k')).alloc (.cells cs 257)) (some g)/\((w.setCell ⟨g,2,none⟩ (.int .i64 k')).alloc (.cells cs 257)).heap.size=w.heap.size+1:=by
 have hsz:(w.setCell ⟨g,2,none⟩ (.int .i64 k')).heap.size=w.heap.size:=by simp[World.setCell]
 have hold:∀j,j<w.heap.size->((w.setCell ⟨g,2,none⟩ (.int .i64 k')).alloc (.cells cs 257)).heap[j]?=(w.setCell ⟨g,2,none⟩ (.int .i64 k')).heap[j]?:=fun j hj=>Below.heap_alloc _ _ j (by rw[hsz];exact hj)
 refine ⟨(hb.at k').same (hold g hb.lt),?_,⟨rfl,rfl,rfl,by simp[hsz],fun j hj hne=>?_⟩,by simp[hsz]⟩
 ·have:=heap_alloc_new (w.setCell ⟨g,2,none⟩ (.int .i64 k')) (.cells cs 257)
  rw[hsz] at this
  exact this
 ·rw[hold j hj]
  exact Below.heap_setCell _ _ _ j (fun e=>hne (by rw[e]))
theorem cells4{w:World}{s:Nat}{a b c d:Value}{t:TypeId}(h:w.heap[s]?=some (.cells #[a,b,c,d] t (0,0))) :
  w.cell? ⟨s,0,none⟩=some a/\w.cell? ⟨s,1,none⟩=some b/\w.cell? ⟨s,2,none⟩=some c/\w.cell? ⟨s,3,none⟩=some d/\∀i,w.frozen? ⟨s,i,none⟩=false:=by
 simp[World.cell?,World.frozen?,h]
theorem moved_end{w W1:World}{g s:Nat}{t:Value}{k':Int}{bad:Bool}(h:RBlk W1 g t k' bad/\w.grownBy W1 (some g))(hs:w.heap.size=s)(hg:g<s)(x0 x1 x2 x3:Value) :
  RBlk ((((W1.setCell ⟨s,0,none⟩ x0).setCell ⟨s,1,none⟩ x1).setCell ⟨s,2,none⟩ x2).setCell ⟨s,3,none⟩ x3) g t k' bad/\
  w.grownBy ((((W1.setCell ⟨s,0,none⟩ x0).setCell ⟨s,1,none⟩ x1).setCell ⟨s,2,none⟩ x2).setCell ⟨s,3,none⟩ x3) (some g):=by
 have hold:∀j,j<s->((((W1.setCell ⟨s,0,none⟩ x0).setCell ⟨s,1,none⟩ x1).setCell ⟨s,2,none⟩ x2).setCell ⟨s,3,none⟩ x3).heap[j]?=W1.heap[j]?:=by
  intro j hj
  have hne:j≠s:=by omega
  rw[Below.heap_setCell _ _ _ j hne,Below.heap_setCell _ _ _ j hne,Below.heap_setCell _ _ _ j hne,Below.heap_setCell _ _ _ j hne]
 refine ⟨h.1.same (hold g hg),h.2.os,h.2.tape,h.2.output,?_,fun j hj hne=>(hold j (by omega)).trans (h.2.block j hj hne)⟩
 have:=h.2.size
 simpa [World.setCell] using this
theorem move_here(g:Nat)(a:Option Addr)(len cap k n:Nat)(zs:List Int)(w:World)(hb:RBlk w g (.slice a len cap) k false)(hr:Rd w a zs)(hl:zs.length=len)(hc:len<=cap)(hm:len<=140737488355328)(hn:k+n<=len)(ho:Off a g) :
  Calls Tryz.prog 202 #[.pointer (some ⟨g,0,none⟩),.int .u8 0,.int .i64 n] w fun e w'=>∃ov,e=.returned (.agg #[.slice ov n (cap - k),.int .i64 ((k:Int)+(n:Int)),.int .i64 ((len:Int) - ((k:Int)+(n:Int))),.bool false])/\
   Hid (Rd w' ov ((zs.drop k).take n)/\(ov=none->a=none)/\RBlk w' g (.slice a len cap) ((k:Int)+(n:Int)) false/\w.grownBy w' (some g)):=by
 have HB:Hid (RBlk w g (.slice a len cap) k false):=hb
 have HR:Hid (Rd w a zs):=hr
 have HL:Hid (zs.length=len):=hl
 have HO:Hid (Off a g):=ho
 have hg:=hb.lt
 have c0:=hb.c0
 have c1:=hb.c1
 have c2:=hb.c2
 have c3:=hb.c3
 have f2:=hb.fz 2
 have hne:=neq_ptr_same ⟨g,0,none⟩
 clear hb hr hl ho
 go_enter Tryz.func202,Tryz.ntmps202
 go_wp2_with fail
 refine (piece_in a len cap k n zs _ (HR.out.below ((Below.refl _ _).alloc (Nat.le_refl _) _)) HL.out hc hm hn).mono ?_
 rintro e w' ⟨⟨ov,rfl,H1⟩,rfl⟩
 go_wp2_with fail
 have hkn:(k:Int)+(n:Int)<=(len:Int):=by omega
 have hw:IntKind.i64.wrap ((len:Int) - ((k:Int)+(n:Int)))=(len:Int) - ((k:Int)+(n:Int)):=by rw[IntKind.wrap_i64];omega
 have hgw:¬ w.heap.size=g:=by omega
 obtain ⟨m1,m2,m3,m4⟩:=moved g (.slice a len cap) k ((k:Int)+(n:Int)) w HB.out #[.slice none 0 0,.int .i64 0,.int .i64 0,.bool false]
 obtain ⟨v0,v1,v2,v3,v4⟩:=cells4 m2
 have d1:=m1.c1
 have d2:=m1.c2
 have HM:Hid (RBlk ((w.setCell ⟨g,2,none⟩ (.int .i64 ((k:Int)+(n:Int)))).alloc (.cells #[.slice none 0 0,.int .i64 0,.int .i64 0,.bool false] 257)) g (.slice a len cap) ((k:Int)+(n:Int)) false/\w.grownBy ((w.setCell ⟨g,2,none⟩ (.int .i64 ((k:Int)+(n:Int)))).alloc (.cells #[.slice none 0 0,.int .i64 0,.int .i64 0,.bool false] 257)) (some g)):=⟨m1,m3⟩
 clear m1 m2 m3 c0 c1 c2 c3 f2 hne
 generalize (w.setCell ⟨g,2,none⟩ (.int .i64 ((k:Int)+(n:Int)))).alloc (.cells #[.slice none 0 0,.int .i64 0,.int .i64 0,.bool false] 257)=W1 at*
 generalize hs:w.heap.size=s at*
 have HS:Hid (w.heap.size=s):=hs
 clear hs
 have v4a:=v4 0
 have v4b:=v4 1
 have v4c:=v4 2
 have v4d:=v4 3
 clear v4
 go_region_held3 (fun W=>W.cell? ⟨g,1,none⟩=some (.slice a len cap)/\W.cell? ⟨g,2,none⟩=some (.int .i64 ((k:Int)+(n:Int)))) (go_keep) (fail)
 go_wp2
 obtain ⟨h1,h2⟩:=H1.out
 have hM:=moved_end HM.out HS.out (by omega) (.slice ov n (cap - k)) (.int .i64 ((k:Int)+(n:Int))) (.int .i64 ((len:Int) - ((k:Int)+(n:Int)))) (.bool false)
 have hR:=h1 _ (HR.out.grown hM.2 HO.out)
 clear h1
 refine bodyPost_ret (v:=.agg #[.slice ov n (cap - k),.int .i64 ((k:Int)+(n:Int)),.int .i64 ((len:Int) - ((k:Int)+(n:Int))),.bool false]) ?_ rfl ⟨ov,rfl,hR,h2,hM.1,hM.2.os,hM.2.tape,hM.2.output,hM.2.size,hM.2.block⟩
 clear hM hR HM H1 HR HO
 simp[results,Tryz.results202,go_sem, *]
theorem spoilt(g:Nat)(t:Value)(k:Int)(w:World)(hb:RBlk w g t k false)(cs:Array Value) :
  RBlk (((((w.setCell ⟨g,0,none⟩ (.pointer (some ⟨g,0,none⟩))).setCell ⟨g,1,none⟩ (.slice none 0 0)).setCell ⟨g,2,none⟩ (.int .i64 0)).setCell ⟨g,3,none⟩ (.bool true)).alloc (.cells cs 257)) g (.slice none 0 0) 0 true/\
  w.grownBy (((((w.setCell ⟨g,0,none⟩ (.pointer (some ⟨g,0,none⟩))).setCell ⟨g,1,none⟩ (.slice none 0 0)).setCell ⟨g,2,none⟩ (.int .i64 0)).setCell ⟨g,3,none⟩ (.bool true)).alloc (.cells cs 257)) (some g):=by
 have h4:=heap_set (heap_set (heap_set (heap_set hb 0 (.pointer (some ⟨g,0,none⟩))) 1 (.slice none 0 0)) 2 (.int .i64 0)) 3 (.bool true)
 have hsz:((((w.setCell ⟨g,0,none⟩ (.pointer (some ⟨g,0,none⟩))).setCell ⟨g,1,none⟩ (.slice none 0 0)).setCell ⟨g,2,none⟩ (.int .i64 0)).setCell ⟨g,3,none⟩ (.bool true)).heap.size=w.heap.size:=by simp[World.setCell]
 have hoth:∀j,j≠g->((((w.setCell ⟨g,0,none⟩ (.pointer (some ⟨g,0,none⟩))).setCell ⟨g,1,none⟩ (.slice none 0 0)).setCell ⟨g,2,none⟩ (.int .i64 0)).setCell ⟨g,3,none⟩ (.bool true)).heap[j]?=w.heap[j]?:=by
  intro j hj
  rw[Below.heap_setCell _ _ _ j hj,Below.heap_setCell _ _ _ j hj,Below.heap_setCell _ _ _ j hj,Below.heap_setCell _ _ _ j hj]
 have hlt:=hb.lt
 have hgr:w.grownBy ((((w.setCell ⟨g,0,none⟩ (.pointer (some ⟨g,0,none⟩))).setCell ⟨g,1,none⟩ (.slice none 0 0)).setCell ⟨g,2,none⟩ (.int .i64 0)).setCell ⟨g,3,none⟩ (.bool true)) (some g):=⟨rfl,rfl,rfl,by rw[hsz];exact Nat.le_refl _,fun j _ hne=>hoth j (fun e=>hne (by rw[e]))⟩
 revert h4 hsz hoth hgr
 generalize ((((w.setCell ⟨g,0,none⟩ (.pointer (some ⟨g,0,none⟩))).setCell ⟨g,1,none⟩ (.slice none 0 0)).setCell ⟨g,2,none⟩ (.int .i64 0)).setCell ⟨g,3,none⟩ (.bool true))=W
 intro h4 hsz hoth hgr
 refine ⟨?_,?_⟩
 ·have:(W.alloc (.cells cs 257)).heap[g]?=W.heap[g]?:=Below.heap_alloc _ _ g (by omega)
  exact this.trans (h4.trans (by simp))
 ·exact ⟨hgr.os,hgr.tape,hgr.output,by simp;omega,fun j hj hne=>(Below.heap_alloc _ _ j (by omega)).trans (hgr.block j hj hne)⟩
theorem move_here_out(g:Nat)(a:Option Addr)(len cap:Nat)(k n:Int)(w:World)(hb:RBlk w g (.slice a len cap) k false)(hc:len<=cap)(hm:len<=140737488355328)(hk:0<=k/\k<=len)(hn:n<0∨(len:Int)<k+n) :
  Calls Tryz.prog 202 #[.pointer (some ⟨g,0,none⟩),.int .u8 0,.int .i64 n] w fun e w'=>e=.returned (.agg #[.slice none 0 0,.int .i64 0,.int .i64 0,.bool true])/\
   Hid (RBlk w' g (.slice none 0 0) 0 true/\w.grownBy w' (some g)):=by
 have HB:Hid (RBlk w g (.slice a len cap) k false):=hb
 have hg:=hb.lt
 have c0:=hb.c0
 have c1:=hb.c1
 have c2:=hb.c2
 have c3:=hb.c3
 have f0:=hb.fz 0
 have f1:=hb.fz 1
 have f2:=hb.fz 2
 have f3:=hb.fz 3
 have hne:=neq_ptr_same ⟨g,0,none⟩
 clear hb
 have HN:Hid (n<0∨(len:Int)<k+n):=hn
 clear hn
 go_enter Tryz.func202,Tryz.ntmps202
 go_wp2_with fail
 refine (piece_out a len cap k n _ hm (by have:=HN.out;omega)).mono ?_
 rintro e w' ⟨rfl,rfl⟩
 go_wp2_with fail
 have hM:=spoilt g _ _ w HB.out #[.slice none 0 0,.int .i64 0,.int .i64 0,.bool true]
 exact bodyPost_ret (v:=.agg #[.slice none 0 0,.int .i64 0,.int .i64 0,.bool true]) (by simp[results,Tryz.results202,go_sem]) rfl ⟨rfl,hM⟩
theorem move_isbad(g:Nat)(f n:Int)(t:Value)(k:Int)(w:World)(hb:RBlk w g t k true) :
  Calls Tryz.prog 202 #[.pointer (some ⟨g,0,none⟩),.int .u8 f,.int .i64 n] w fun e w'=>e=.returned (.agg #[.slice none 0 0,.int .i64 0,.int .i64 0,.bool true])/\Below w.heap.size w w':=by
 have hg:=hb.lt
 have c0:=hb.c0
 have c3:=hb.c3
 have hne:=neq_ptr_same ⟨g,0,none⟩
 clear hb
 go_enter Tryz.func202,Tryz.ntmps202
 go_wp2
 exact bodyPost_ret (v:=.agg #[.slice none 0 0,.int .i64 0,.int .i64 0,.bool true]) (by simp[results,Tryz.results202,go_sem]) rfl ⟨rfl,((Below.refl _ _).alloc (Nat.le_refl _) _)⟩
end Go.Proofs.YtjkljpdolhglcaaGreatDoor
namespace Go.Proofs.YtjkljpdolhglcaaGreatDoor
open Go.ChangeShapes Go.WideShapes Go.ChangeAt Go.RowKit
attribute [local go_sem] view0 view1 view2 view3 slice_is_nil
theorem new_below(w:World)(o:Obj):Below w.heap.size w (w.alloc o):=(Below.refl _ _).alloc (Nat.le_refl _) _
attribute [local go_sem] view0 view1 view2 view3
def RSt(w:World)(g:Nat)(a:Option Addr)(len cap:Nat):Option Nat->Prop
 |some k=>RBlk w g (.slice a len cap) k false/\k<=len
 |none=>RBlk w g (.slice none 0 0) 0 true
def mv(len:Nat)(st:Option Nat)(n:Int):Option Nat:=match st with
 |some k=>if 0<=n/\k+n<=len then some (k+n.toNat) else none
 |none=>none
def tk(zs:List Int)(st:Option Nat)(n:Int):List Int:=match st with
 |some k=>if 0<=n/\k+n<=zs.length then (zs.drop k).take n.toNat else []
 |none=>[]
def pos:Option Nat->Int
 |some k=>k
 |none=>0
def lft(len:Nat):Option Nat->Int
 |some k=>(len:Int) - (k:Int)
 |none=>0
theorem mv_zero(len:Nat)(st:Option Nat)(h:∀k,st=some k->k<=len):mv len st 0=st:=by
 cases st with
 |none=>rfl
 |some k=>have:=h k rfl;simp[mv];omega
theorem tk_len(zs:List Int)(st:Option Nat)(n:Nat):(tk zs st n).length<=n:=by
 unfold tk
 split
 ·split
  ·simp;omega
  ·simp
 ·simp
theorem tk_bytes(zs:List Int)(st:Option Nat)(n:Int)(h:∀z∈zs,0<=z/\z<=255):∀z∈tk zs st n,0<=z/\z<=255:=by
 unfold tk
 split
 ·split
  ·intro z hz;exact h z (List.mem_of_mem_drop (List.mem_of_mem_take hz))
  ·simp
 ·simp
theorem RSt.le{w:World}{g:Nat}{a:Option Addr}{len cap:Nat}{st:Option Nat}(h:RSt w g a len cap st):∀k,st=some k->k<=len:=by
 rintro k rfl;exact h.2
theorem RSt.lt{w:World}{g:Nat}{a:Option Addr}{len cap:Nat}{st:Option Nat}(h:RSt w g a len cap st):g<w.heap.size:=by
 cases st with
 |none=>exact RBlk.lt h
 |some k=>exact RBlk.lt h.1
theorem RSt.same{w w':World}{g:Nat}{a:Option Addr}{len cap:Nat}{st:Option Nat}(h:RSt w g a len cap st)(hb:w'.heap[g]?=w.heap[g]?):RSt w' g a len cap st:=by
 cases st with
 |none=>exact RBlk.same h hb
 |some k=>exact ⟨RBlk.same h.1 hb,h.2⟩
theorem below_grown{w w':World}{row:Option Nat}(h:Below w.heap.size w w'):w.grownBy w' row:=⟨h.os,h.tape,h.output,h.size,fun k hk _=>h.block k hk⟩
theorem move_any(g:Nat)(a:Option Addr)(len cap:Nat)(zs:List Int)(st st':Option Nat)(n:Int)(c:Nat)(w:World)(hs:RSt w g a len cap st)(hr:Rd w a zs)(hl:zs.length=len)(hc:len<=cap)(hm:len<=140737488355328)(hd:a=none->cap=0)(ho:Off a g)
  (hst:mv len st n=st') (htk:(tk zs st n).length=c) :
  Calls Tryz.prog 202 #[.pointer (some ⟨g,0,none⟩),.int .u8 0,.int .i64 n] w fun e w'=>∃ov oc,e=.returned (.agg #[.slice ov c oc,.int .i64 (pos st'),.int .i64 (lft len st'),.bool st'.isNone])/\
   Hid (Rd w' ov (tk zs st n)/\(ov=none->oc=0)/\RSt w' g a len cap st'/\w.grownBy w' (some g)):=by
 subst hst;subst htk
 cases st with
 |none=>
  refine (move_isbad g 0 n _ _ w hs).mono ?_
  rintro e w' ⟨rfl,hb⟩
  exact ⟨none,0,rfl,⟨.inl rfl,by simp[tk]⟩,fun _=>rfl,RSt.same (st:=none) hs (hb.block g (RBlk.lt hs)),below_grown hb⟩
 |some k=>
  by_cases h:0<=n/\k+n<=len
  ·obtain ⟨m,rfl⟩:=Int.eq_ofNat_of_zero_le h.1
   have hkm:k+m<=len:=by omega
   have e1:mv len (some k) m=some (k+m):=by simp only[mv];rw[if_pos h];rfl
   have e2:tk zs (some k) m=(zs.drop k).take m:=by simp only[tk];rw[if_pos (by rw[hl];exact h)];rfl
   have e3:((zs.drop k).take m).length=m:=by simp;omega
   rw[e1,e2,e3]
   refine (move_here g a len cap k m zs w hs.1 hr hl hc hm hkm ho).mono ?_
   rintro e w' ⟨ov,rfl,H⟩
   obtain ⟨h1,h2,h3,h4⟩:=H.out
   refine ⟨ov,cap - k,by simp[pos,lft],h1,fun e=>by rw[hd (h2 e)];omega,⟨by simpa using h3,hkm⟩,h4⟩
  ·have e1:mv len (some k) n=none:=by simp only[mv];rw[if_neg h]
   have e2:tk zs (some k) n=[]:=by simp only[tk];rw[if_neg (by rw[hl];exact h)]
   rw[e1,e2]
   have hkl:=hs.2
   refine (move_here_out g a len cap k n w hs.1 hc hm ⟨by omega,by omega⟩ (by omega)).mono ?_
   rintro e w' ⟨rfl,H⟩
   exact ⟨none,0,rfl,⟨.inl rfl,by simp⟩,fun _=>rfl,H.out.1,H.out.2⟩
theorem rbyte_any(g:Nat)(a:Option Addr)(len cap:Nat)(zs:List Int)(st:Option Nat)(w:World)(hs:RSt w g a len cap st)(hr:Rd w a zs)(hl:zs.length=len)(hc:len<=cap)(hm:len<=140737488355328)(hd:a=none->cap=0)(ho:Off a g) :
  Calls Tryz.prog 201 #[.pointer (some ⟨g,0,none⟩)] w fun e w'=>e=.returned (.int .i64 (val (tk zs st 1)))/\Hid (RSt w' g a len cap (mv len st 1)/\w.grownBy w' (some g)):=by
 have H0:Hid (RSt w g a len cap st/\Rd w a zs/\zs.length=len/\(a=none->cap=0)/\Off a g):=⟨hs,hr,hl,hd,ho⟩
 clear hs hr hl hd ho
 obtain ⟨st',hst⟩:∃x,mv len st 1=x:=⟨_,rfl⟩
 obtain ⟨c,htk⟩:∃x,(tk zs st 1).length=x:=⟨_,rfl⟩
 have hc4:c<=1:=by have:(tk zs st (1:Int)).length<=1:=tk_len zs st 1;omega
 have hv:=val_small4 (tk zs st 1) (tk_bytes zs st 1 H0.out.2.1.2) (by omega)
 have HT:Hid (mv len st 1=st'/\(tk zs st 1).length=c):=⟨hst,htk⟩
 clear hst htk
 rw[HT.out.1]
 go_enter Tryz.func201,Tryz.ntmps201
 go_wp2_with fail
 refine (move_any g a len cap zs st st' 1 c _ H0.out.1 H0.out.2.1 H0.out.2.2.1 hc hm H0.out.2.2.2.1 H0.out.2.2.2.2 HT.out.1 HT.out.2).mono ?_
 rintro e w1 ⟨ov,oc,rfl,H1⟩
 go_wp2_with fail
 refine (number_any ov c oc (tk zs st 1) _ H1.out.1 HT.out.2 (by omega)).mono ?_
 rintro e w2 ⟨rfl,rfl⟩
 go_wp2
 go_ret
 exact ⟨by simp,H1.out.2.2.1,H1.out.2.2.2⟩
theorem rtake_any(g:Nat)(a:Option Addr)(len cap:Nat)(zs:List Int)(st:Option Nat)(n:Int)(w:World)(hs:RSt w g a len cap st)(hr:Rd w a zs)(hl:zs.length=len)(hc:len<=cap)(hm:len<=140737488355328)(hd:a=none->cap=0)(ho:Off a g) :
  Calls Tryz.prog 183 #[.pointer (some ⟨g,0,none⟩),.int .i64 n] w fun e w'=>∃v ys,e=.returned v/\Hid (Own w.heap.size w' v (tk zs st n).length ys/\ys.take (tk zs st n).length=tk zs st n/\RSt w' g a len cap (mv len st n)/\w.grownBy w' (some g)):=by
 have H0:Hid (RSt w g a len cap st/\Rd w a zs/\zs.length=len/\(a=none->cap=0)/\Off a g):=⟨hs,hr,hl,hd,ho⟩
 clear hs hr hl hd ho
 obtain ⟨st',hst⟩:∃x,mv len st n=x:=⟨_,rfl⟩
 obtain ⟨c,htk⟩:∃x,(tk zs st n).length=x:=⟨_,rfl⟩
 have HT:Hid (mv len st n=st'/\(tk zs st n).length=c):=⟨hst,htk⟩
 have hcl:c<=len:=by
  have h1:=H0.out.2.2.1
  rw[<- htk];unfold tk
  split
  ·split
   ·simp;omega
   ·simp
  ·simp
 clear hst htk
 rw[HT.out.1,HT.out.2]
 go_enter Tryz.func183,Tryz.ntmps183
 go_wp2_with fail
 refine (move_any g a len cap zs st st' n c _ H0.out.1 H0.out.2.1 H0.out.2.2.1 hc hm H0.out.2.2.2.1 H0.out.2.2.2.2 HT.out.1 HT.out.2).mono ?_
 rintro e w1 ⟨ov,oc,rfl,H1⟩
 cases ov with
 |none=>
  have ec:c=0:=by
   rw[<- HT.out.2]
   rcases H1.out.1.1 with h|⟨b,o,h,_⟩
   ·rw[h];rfl
   ·cases h
  have eo:oc=0:=H1.out.2.1 rfl
  subst ec;subst eo
  go_wp2_with fail
  refine (clone_none _).mono ?_
  rintro e w2 ⟨rfl,rfl⟩
  go_wp2
  go_ret
  have et:tk zs st n=[]:=List.eq_nil_of_length_eq_zero HT.out.2
  exact ⟨_,[],rfl,.inl ⟨rfl,rfl,rfl⟩,by rw[et];rfl,H1.out.2.2.1,H1.out.2.2.2⟩
 |some x=>
  have HX:Hid (Calls Tryz.prog 196 #[.slice (some x) c oc] w1 fun e w'=>∃v ys,e=.returned v/\Hid (Own w1.heap.size w' v c ys/\ys.take c=tk zs st n/\Below w1.heap.size w1 w')):=by
   have:=clone_any x oc (tk zs st n) w1 H1.out.1 (by rw[HT.out.2];omega)
   rw[HT.out.2] at this
   exact this
  go_wp2_with fail
  refine HX.out.mono ?_
  rintro e w2 ⟨v,ys,rfl,H2⟩
  go_wp2
  go_ret
  obtain ⟨p1,p2,p3⟩:=H2.out
  have hgs:=H1.out.2.2.1.lt
  have hsz:=H1.out.2.2.2.size
  refine ⟨v,ys,rfl,?_,p2,H1.out.2.2.1.same (p3.block g hgs),?_⟩
  ·rcases p1 with h|⟨g',h1,h2,h3⟩
   ·exact .inl h
   ·exact .inr ⟨g',h1,by omega,h3⟩
  ·have hg:=H1.out.2.2.2
   exact ⟨p3.os.trans hg.os,p3.tape.trans hg.tape,p3.output.trans hg.output,Nat.le_trans hg.size p3.size,fun j hj hne=>(p3.block j (by omega)).trans (hg.block j hj hne)⟩
theorem rat_any(g:Nat)(a:Option Addr)(len cap:Nat)(zs:List Int)(st:Option Nat)(w:World)(hs:RSt w g a len cap st)(hr:Rd w a zs)(hl:zs.length=len)(hc:len<=cap)(hm:len<=140737488355328)(hd:a=none->cap=0)(ho:Off a g) :
  Calls Tryz.prog 198 #[.pointer (some ⟨g,0,none⟩)] w fun e w'=>e=.returned (.int .i64 (pos st))/\Hid (RSt w' g a len cap st/\w.grownBy w' (some g)):=by
 have H0:Hid (RSt w g a len cap st/\Rd w a zs/\zs.length=len/\(a=none->cap=0)/\Off a g):=⟨hs,hr,hl,hd,ho⟩
 clear hs hr hl hd ho
 go_enter Tryz.func198,Tryz.ntmps198
 go_wp2_with fail
 refine (move_any g a len cap zs st st 0 _ _ H0.out.1 H0.out.2.1 H0.out.2.2.1 hc hm H0.out.2.2.2.1 H0.out.2.2.2.2 (mv_zero len st H0.out.1.le) rfl).mono ?_
 rintro e w1 ⟨ov,oc,rfl,H1⟩
 go_wp2
 go_ret
 exact ⟨rfl,H1.out.2.2.1,H1.out.2.2.2⟩
theorem rbad_any(g:Nat)(a:Option Addr)(len cap:Nat)(zs:List Int)(st:Option Nat)(w:World)(hs:RSt w g a len cap st)(hr:Rd w a zs)(hl:zs.length=len)(hc:len<=cap)(hm:len<=140737488355328)(hd:a=none->cap=0)(ho:Off a g) :
  Calls Tryz.prog 185 #[.pointer (some ⟨g,0,none⟩)] w fun e w'=>e=.returned (.bool st.isNone)/\Hid (RSt w' g a len cap st/\w.grownBy w' (some g)):=by
 have H0:Hid (RSt w g a len cap st/\Rd w a zs/\zs.length=len/\(a=none->cap=0)/\Off a g):=⟨hs,hr,hl,hd,ho⟩
 clear hs hr hl hd ho
 go_enter Tryz.func185,Tryz.ntmps185
 go_wp2_with fail
 refine (move_any g a len cap zs st st 0 _ _ H0.out.1 H0.out.2.1 H0.out.2.2.1 hc hm H0.out.2.2.2.1 H0.out.2.2.2.2 (mv_zero len st H0.out.1.le) rfl).mono ?_
 rintro e w1 ⟨ov,oc,rfl,H1⟩
 go_wp2
 go_ret
 exact ⟨rfl,H1.out.2.2.1,H1.out.2.2.2⟩
theorem new_any(x:Addr)(cap:Nat)(zs:List Int)(w:World)(hr:Rd w (some x) zs)(hm:zs.length<=140737488355328) :
  Calls Tryz.prog 179 #[.slice (some x) zs.length cap] w fun e w'=>∃gr a' ca,e=.returned (.pointer (some ⟨gr,0,none⟩))/\Hid (w.heap.size<=gr/\RBlk w' gr (.slice a' zs.length ca) 0 false/\Rd w' a' zs/\zs.length<=ca/\(a'=none->ca=0)/\Off a' gr/\(∀y o,a'=some ⟨y,o,none⟩->w.heap.size<=y/\y<w'.heap.size)/\Below w.heap.size w w'):=by
 have HX:Hid (Calls Tryz.prog 196 #[.slice (some x) zs.length cap] w fun e w'=>∃v ys,e=.returned v/\Hid (Own w.heap.size w' v zs.length ys/\ys.take zs.length=zs/\Below w.heap.size w w')):=clone_any x cap zs w hr hm
 clear hr hm
 generalize hl:zs.length=len at*
 have HL:Hid (zs.length=len):=hl
 clear hl
 go_enter Tryz.func179,Tryz.ntmps179
 go_wp2_with fail
 refine HX.out.mono ?_
 rintro e w1 ⟨v,ys,rfl,H1⟩
 obtain ⟨a',rfl,hoa⟩:=H1.out.1.addr
 have HO:Hid (OwnA w.heap.size w1 a' len ys/\ys.take len=zs/\Below w.heap.size w w1):=⟨hoa,H1.out.2.1,H1.out.2.2⟩
 clear hoa H1
 generalize hy:ys.length=yl
 have HY:Hid (ys.length=yl):=hy
 clear hy
 go_wp2
 go_ret
 obtain ⟨q1,q2,q3⟩:=HO.out
 have hnb:=new_below w1 (.cells #[.pointer (some ⟨w1.heap.size,0,none⟩),.slice a' len yl,.int .i64 0,.bool false] 252)
 have hrd:=q1.rdTake len
 rw[q2] at hrd
 refine ⟨w1.heap.size,a',yl,rfl,q3.size,heap_alloc_new _ _,hrd.below hnb,?_,?_,?_,?_,q3.trans (hnb.mono q3.size)⟩
 ·have:=q1.le.1;rw[HY.out] at this;exact this
 ·intro e;have:=q1.nil e;rw[HY.out] at this;exact this
 ·rintro y o rfl
  have:=(q1.lt y rfl).2
  omega
 ·rintro y o rfl
  have h1:=(q1.lt y rfl)
  have h2:=hnb.size
  exact ⟨h1.1,by omega⟩
end Go.Proofs.YtjkljpdolhglcaaGreatDoor
namespace Go.Proofs.YtjkljpdolhglcaaGreatDoor
open Go.ChangeShapes Go.WideShapes Go.ChangeAt Go.RowKit
theorem move_front(g:Nat)(a:Option Addr)(len cap n:Nat)(k:Int)(zs:List Int)(w:World)(hb:RBlk w g (.slice a len cap) k false)(hr:Rd w a zs)(hl:zs.length=len)(hc:len<=cap)(hm:len<=140737488355328)(hn:n<=len)(ho:Off a g) :
  Calls Tryz.prog 202 #[.pointer (some ⟨g,0,none⟩),.int .u8 1,.int .i64 n] w fun e w'=>∃ov,e=.returned (.agg #[.slice ov n cap,.int .i64 (n:Int),.int .i64 ((len:Int) - (n:Int)),.bool false])/\
   Hid (Rd w' ov (zs.take n)/\(ov=none->a=none)/\RBlk w' g (.slice a len cap) (n:Int) false/\w.grownBy w' (some g)):=by
 have HB:Hid (RBlk w g (.slice a len cap) k false):=hb
 have HR:Hid (Rd w a zs):=hr
 have HL:Hid (zs.length=len):=hl
 have HO:Hid (Off a g):=ho
 have hg:=hb.lt
 have c0:=hb.c0
 have c1:=hb.c1
 have c2:=hb.c2
 have c3:=hb.c3
 have f2:=hb.fz 2
 have hne:=neq_ptr_same ⟨g,0,none⟩
 clear hb hr hl ho
 go_enter Tryz.func202,Tryz.ntmps202
 go_wp2_with fail
 refine (piece_in a len cap 0 n zs _ (HR.out.below ((Below.refl _ _).alloc (Nat.le_refl _) _)) HL.out hc hm (by omega)).mono ?_
 rintro e w' ⟨⟨ov,rfl,H1⟩,rfl⟩
 go_wp2_with fail
 have hw:IntKind.i64.wrap ((len:Int) - (n:Int))=(len:Int) - (n:Int):=by rw[IntKind.wrap_i64];omega
 have hgw:¬ w.heap.size=g:=by omega
 obtain ⟨m1,m2,m3,m4⟩:=moved g (.slice a len cap) k (n:Int) w HB.out #[.slice none 0 0,.int .i64 0,.int .i64 0,.bool false]
 obtain ⟨v0,v1,v2,v3,v4⟩:=cells4 m2
 have d1:=m1.c1
 have d2:=m1.c2
 have HM:Hid (RBlk ((w.setCell ⟨g,2,none⟩ (.int .i64 (n:Int))).alloc (.cells #[.slice none 0 0,.int .i64 0,.int .i64 0,.bool false] 257)) g (.slice a len cap) (n:Int) false/\w.grownBy ((w.setCell ⟨g,2,none⟩ (.int .i64 (n:Int))).alloc (.cells #[.slice none 0 0,.int .i64 0,.int .i64 0,.bool false] 257)) (some g)):=⟨m1,m3⟩
 clear m1 m2 m3 c0 c1 c2 c3 f2 hne
 generalize (w.setCell ⟨g,2,none⟩ (.int .i64 (n:Int))).alloc (.cells #[.slice none 0 0,.int .i64 0,.int .i64 0,.bool false] 257)=W1 at*
 generalize hs:w.heap.size=s at*
 have HS:Hid (w.heap.size=s):=hs
 clear hs
 have v4a:=v4 0
 have v4b:=v4 1
 have v4c:=v4 2
 have v4d:=v4 3
 clear v4
 go_region_held3 (fun W=>W.cell? ⟨g,1,none⟩=some (.slice a len cap)/\W.cell? ⟨g,2,none⟩=some (.int .i64 (n:Int))) (go_keep) (fail)
 go_wp2
 obtain ⟨h1,h2⟩:=H1.out
 have hM:=moved_end HM.out HS.out (by omega) (.slice ov n cap) (.int .i64 (n:Int)) (.int .i64 ((len:Int) - (n:Int))) (.bool false)
 have hR:=h1 _ (HR.out.grown hM.2 HO.out)
 clear h1
 refine bodyPost_ret (v:=.agg #[.slice ov n cap,.int .i64 (n:Int),.int .i64 ((len:Int) - (n:Int)),.bool false]) ?_ rfl ⟨ov,rfl,hR,h2,hM.1,hM.2.os,hM.2.tape,hM.2.output,hM.2.size,hM.2.block⟩
 clear hM hR HM H1 HR HO
 simp[results,Tryz.results202,go_sem, *]
theorem move_front_out(g:Nat)(a:Option Addr)(len cap:Nat)(k n:Int)(w:World)(hb:RBlk w g (.slice a len cap) k false)(hc:len<=cap)(hm:len<=140737488355328)(hk:0<=k/\k<=len)(hn:n<0∨(len:Int)<n) :
  Calls Tryz.prog 202 #[.pointer (some ⟨g,0,none⟩),.int .u8 1,.int .i64 n] w fun e w'=>e=.returned (.agg #[.slice none 0 0,.int .i64 0,.int .i64 0,.bool true])/\
   Hid (RBlk w' g (.slice none 0 0) 0 true/\w.grownBy w' (some g)):=by
 have HB:Hid (RBlk w g (.slice a len cap) k false):=hb
 have hg:=hb.lt
 have c0:=hb.c0
 have c1:=hb.c1
 have c2:=hb.c2
 have c3:=hb.c3
 have f0:=hb.fz 0
 have f1:=hb.fz 1
 have f2:=hb.fz 2
 have f3:=hb.fz 3
 have hne:=neq_ptr_same ⟨g,0,none⟩
 clear hb
 have HN:Hid (n<0∨(len:Int)<n):=hn
 clear hn
 go_enter Tryz.func202,Tryz.ntmps202
 go_wp2_with fail
 refine (piece_out a len cap 0 n _ hm (by have:=HN.out;omega)).mono ?_
 rintro e w' ⟨rfl,rfl⟩
 go_wp2_with fail
 have hM:=spoilt g _ _ w HB.out #[.slice none 0 0,.int .i64 0,.int .i64 0,.bool true]
 exact bodyPost_ret (v:=.agg #[.slice none 0 0,.int .i64 0,.int .i64 0,.bool true]) (by simp[results,Tryz.results202,go_sem]) rfl ⟨rfl,hM⟩
attribute [local go_sem] view0 view1 view2 view3
def jm(len:Nat)(st:Option Nat)(n:Int):Option Nat:=match st with
 |some _=>if 0<=n/\n<=len then some n.toNat else none
 |none=>none
theorem jumpto_any(g:Nat)(a:Option Addr)(len cap:Nat)(zs:List Int)(st:Option Nat)(n:Int)(w:World)(hs:RSt w g a len cap st)(hr:Rd w a zs)(hl:zs.length=len)(hc:len<=cap)(hm:len<=140737488355328)(ho:Off a g) :
  Calls Tryz.prog 202 #[.pointer (some ⟨g,0,none⟩),.int .u8 1,.int .i64 n] w fun e w'=>∃v,e=.returned v/\Hid (RSt w' g a len cap (jm len st n)/\w.grownBy w' (some g)):=by
 cases st with
 |none=>
  refine (move_isbad g 1 n _ _ w hs).mono ?_
  rintro e w' ⟨rfl,hb⟩
  exact ⟨_,rfl,RSt.same (st:=none) hs (hb.block g (RBlk.lt hs)),below_grown hb⟩
 |some k=>
  by_cases h:0<=n/\n<=len
  ·obtain ⟨m,rfl⟩:=Int.eq_ofNat_of_zero_le h.1
   have hm':m<=len:=by omega
   have e1:jm len (some k) m=some m:=by simp only[jm];rw[if_pos h];rfl
   rw[e1]
   refine (move_front g a len cap m k zs w hs.1 hr hl hc hm hm' ho).mono ?_
   rintro e w' ⟨ov,rfl,H⟩
   exact ⟨_,rfl,⟨H.out.2.2.1,hm'⟩,H.out.2.2.2⟩
  ·have e1:jm len (some k) n=none:=by simp only[jm];rw[if_neg h]
   rw[e1]
   have hkl:=hs.2
   refine (move_front_out g a len cap k n w hs.1 hc hm ⟨by omega,by omega⟩ (by omega)).mono ?_
   rintro e w' ⟨rfl,H⟩
   exact ⟨_,rfl,H.out.1,H.out.2⟩
theorem ru16_any(g:Nat)(a:Option Addr)(len cap:Nat)(zs:List Int)(st:Option Nat)(w:World)(hs:RSt w g a len cap st)(hr:Rd w a zs)(hl:zs.length=len)(hc:len<=cap)(hm:len<=140737488355328)(hd:a=none->cap=0)(ho:Off a g) :
  Calls Tryz.prog 215 #[.pointer (some ⟨g,0,none⟩)] w fun e w'=>e=.returned (.int .i64 (val (tk zs st 2)))/\Hid (RSt w' g a len cap (mv len st 2)/\w.grownBy w' (some g)):=by
 have H0:Hid (RSt w g a len cap st/\Rd w a zs/\zs.length=len/\(a=none->cap=0)/\Off a g):=⟨hs,hr,hl,hd,ho⟩
 clear hs hr hl hd ho
 obtain ⟨st',hst⟩:∃x,mv len st 2=x:=⟨_,rfl⟩
 obtain ⟨c,htk⟩:∃x,(tk zs st 2).length=x:=⟨_,rfl⟩
 have hc4:c<=2:=by have:(tk zs st (2:Int)).length<=2:=tk_len zs st 2;omega
 have hv:=val_small4 (tk zs st 2) (tk_bytes zs st 2 H0.out.2.1.2) (by omega)
 have HT:Hid (mv len st 2=st'/\(tk zs st 2).length=c):=⟨hst,htk⟩
 clear hst htk
 rw[HT.out.1]
 go_enter Tryz.func215,Tryz.ntmps215
 go_wp2_with fail
 refine (move_any g a len cap zs st st' 2 c _ H0.out.1 H0.out.2.1 H0.out.2.2.1 hc hm H0.out.2.2.2.1 H0.out.2.2.2.2 HT.out.1 HT.out.2).mono ?_
 rintro e w1 ⟨ov,oc,rfl,H1⟩
 go_wp2_with fail
 refine (number_any ov c oc (tk zs st 2) _ H1.out.1 HT.out.2 (by omega)).mono ?_
 rintro e w2 ⟨rfl,rfl⟩
 go_wp2
 go_ret
 exact ⟨by simp,H1.out.2.2.1,H1.out.2.2.2⟩
theorem ru32_any(g:Nat)(a:Option Addr)(len cap:Nat)(zs:List Int)(st:Option Nat)(w:World)(hs:RSt w g a len cap st)(hr:Rd w a zs)(hl:zs.length=len)(hc:len<=cap)(hm:len<=140737488355328)(hd:a=none->cap=0)(ho:Off a g) :
  Calls Tryz.prog 216 #[.pointer (some ⟨g,0,none⟩)] w fun e w'=>e=.returned (.int .u32 (val (tk zs st 4)))/\Hid (RSt w' g a len cap (mv len st 4)/\w.grownBy w' (some g)):=by
 have H0:Hid (RSt w g a len cap st/\Rd w a zs/\zs.length=len/\(a=none->cap=0)/\Off a g):=⟨hs,hr,hl,hd,ho⟩
 clear hs hr hl hd ho
 obtain ⟨st',hst⟩:∃x,mv len st 4=x:=⟨_,rfl⟩
 obtain ⟨c,htk⟩:∃x,(tk zs st 4).length=x:=⟨_,rfl⟩
 have hc4:c<=4:=by have:(tk zs st (4:Int)).length<=4:=tk_len zs st 4;omega
 have hv:=val_small4 (tk zs st 4) (tk_bytes zs st 4 H0.out.2.1.2) (by omega)
 have HT:Hid (mv len st 4=st'/\(tk zs st 4).length=c):=⟨hst,htk⟩
 clear hst htk
 rw[HT.out.1]
 go_enter Tryz.func216,Tryz.ntmps216
 go_wp2_with fail
 refine (move_any g a len cap zs st st' 4 c _ H0.out.1 H0.out.2.1 H0.out.2.2.1 hc hm H0.out.2.2.2.1 H0.out.2.2.2.2 HT.out.1 HT.out.2).mono ?_
 rintro e w1 ⟨ov,oc,rfl,H1⟩
 go_wp2_with fail
 refine (number_any ov c oc (tk zs st 4) _ H1.out.1 HT.out.2 (by omega)).mono ?_
 rintro e w2 ⟨rfl,rfl⟩
 go_wp2
 go_ret
 exact ⟨by simp,H1.out.2.2.1,H1.out.2.2.2⟩
theorem rjump_any(g:Nat)(a:Option Addr)(len cap:Nat)(zs:List Int)(st:Option Nat)(n:Int)(w:World)(hs:RSt w g a len cap st)(hr:Rd w a zs)(hl:zs.length=len)(hc:len<=cap)(hm:len<=140737488355328)(hd:a=none->cap=0)(ho:Off a g) :
  Calls Tryz.prog 199 #[.pointer (some ⟨g,0,none⟩),.int .i64 n] w fun e w'=>e=.returned (.tuple #[])/\Hid (RSt w' g a len cap (jm len st n)/\w.grownBy w' (some g)):=by
 have H0:Hid (RSt w g a len cap st/\Rd w a zs/\zs.length=len/\(a=none->cap=0)/\Off a g):=⟨hs,hr,hl,hd,ho⟩
 clear hs hr hl hd ho
 go_enter Tryz.func199,Tryz.ntmps199
 go_wp2_with fail
 refine (jumpto_any g a len cap zs st n _ H0.out.1 H0.out.2.1 H0.out.2.2.1 hc hm H0.out.2.2.2.2).mono ?_
 rintro e w1 ⟨v,rfl,H1⟩
 go_wp2
 go_end0
 exact ⟨rfl,H1⟩
theorem rleft_any(g:Nat)(a:Option Addr)(len cap:Nat)(zs:List Int)(st:Option Nat)(w:World)(hs:RSt w g a len cap st)(hr:Rd w a zs)(hl:zs.length=len)(hc:len<=cap)(hm:len<=140737488355328)(hd:a=none->cap=0)(ho:Off a g) :
  Calls Tryz.prog 184 #[.pointer (some ⟨g,0,none⟩)] w fun e w'=>e=.returned (.int .i64 (lft len st))/\Hid (RSt w' g a len cap st/\w.grownBy w' (some g)):=by
 have H0:Hid (RSt w g a len cap st/\Rd w a zs/\zs.length=len/\(a=none->cap=0)/\Off a g):=⟨hs,hr,hl,hd,ho⟩
 clear hs hr hl hd ho
 go_enter Tryz.func184,Tryz.ntmps184
 go_wp2_with fail
 refine (move_any g a len cap zs st st 0 _ _ H0.out.1 H0.out.2.1 H0.out.2.2.1 hc hm H0.out.2.2.2.1 H0.out.2.2.2.2 (mv_zero len st H0.out.1.le) rfl).mono ?_
 rintro e w1 ⟨ov,oc,rfl,H1⟩
 go_wp2
 go_ret
 exact ⟨rfl,H1.out.2.2.1,H1.out.2.2.2⟩
theorem new_none(w:World) :
  Calls Tryz.prog 179 #[.slice none 0 0] w fun e w'=>∃gr a' ca,e=.returned (.pointer (some ⟨gr,0,none⟩))/\Hid (w.heap.size<=gr/\RBlk w' gr (.slice a' 0 ca) 0 false/\Rd w' a' []/\0<=ca/\(a'=none->ca=0)/\Off a' gr/\(∀y o,a'=some ⟨y,o,none⟩->w.heap.size<=y/\y<w'.heap.size)/\Below w.heap.size w w'):=by
 go_enter Tryz.func179,Tryz.ntmps179
 go_wp2_with fail
 refine (clone_none _).mono ?_
 rintro e w1 ⟨rfl,rfl⟩
 go_wp2
 go_ret
 have hnb:=new_below w1 (.cells #[.pointer (some ⟨w1.heap.size,0,none⟩),.slice none 0 0,.int .i64 0,.bool false] 252)
 exact ⟨w1.heap.size,none,0,rfl,Nat.le_refl _,heap_alloc_new _ _,⟨.inl rfl,by simp⟩,Nat.le_refl _,fun _=>rfl,(by rintro _ _ ⟨⟩),(by rintro _ _ ⟨⟩),hnb⟩
end Go.Proofs.YtjkljpdolhglcaaGreatDoor
namespace Go.Proofs.YtjkljpdolhglcaaGreatDoor
open Go.ChangeShapes Go.WideShapes Go.ChangeAt Go.RowKit
def ptB(k:Nat)(l:List ByteArray):List Int:=nby (l.take k)++(l.drop k).flatMap nums
theorem ptB_all(l:List ByteArray):ptB (l.length - 0) l=nby l:=by unfold ptB;simp
theorem wr_eq(t:Nat)(d:Dat)(h:fitsB t d=true):d.ns.flatMap nmB=(d.ns.take (fs t).nf).flatMap nmB++(d.ns.drop (fs t).nf).flatMap nmB/\(fs t).nf<=d.ns.length/\((fs t).nf=0∨(fs t).nf=d.ns.length)/\(fs t).wd=(shp t).wd/\(fs t).tl<=d.ts.length/\
  (d.ns.take (fs t).nf).flatMap nmB++d.us.flatMap (fun n=>numB n (fs t).wd)++(d.ns.drop (fs t).nf).flatMap nmB++ptB (d.ts.length - (fs t).tl) d.ts++d.raw=writeF t d:=by
 refine ⟨by conv=>lhs;rw[<- List.take_append_drop (fs t).nf d.ns,List.flatMap_append],?_⟩
 obtain ⟨fns,fus,fts,ft1,fraw,fun_,ftx,ftg⟩:=(fit_iff t d).1 h
 obtain ⟨ns,us,ts,raw⟩:=d
 simp only at fns fus fts ft1 fraw fun_ ftx ftg ⊢
 rcases fs_cases t with ⟨ht,e⟩|⟨ht,e⟩|⟨ht,e⟩|⟨ht,e⟩|⟨ht,e⟩|⟨ht,e⟩|⟨ht,e⟩|⟨ht,e⟩|⟨ht,e⟩
 ·subst ht
  have hts:ts=[]:=nil_of (by have e2:(shp 1).nt=0:=rfl;omega)
  subst hts
  rw[e];simp[writeF,tsB,ptB,nby,shp]
 ·subst ht
  have hts:ts=[]:=nil_of (by have e2:(shp 28).nt=0:=rfl;omega)
  subst hts
  rw[e];simp[writeF,tsB,ptB,nby,shp]
 ·rcases ht with rfl|rfl|rfl
  ·have hts:ts=[]:=nil_of (by have e2:(shp 2).nt=0:=rfl;omega)
   subst hts
   rw[e];simp[writeF,tsB,ptB,nby,shp]
  ·have hts:ts=[]:=nil_of (by have e2:(shp 5).nt=0:=rfl;omega)
   subst hts
   rw[e];simp[writeF,tsB,ptB,nby,shp]
  ·have hts:ts=[]:=nil_of (by have e2:(shp 12).nt=0:=rfl;omega)
   subst hts
   rw[e];simp[writeF,tsB,ptB,nby,shp]
 ·subst ht
  have hts:ts=[]:=nil_of (by have e2:(shp 6).nt=0:=rfl;omega)
  have hrw:raw=[]:=nil_of (by have e2:(shp 6).nr=0:=rfl;omega)
  have hns:ns.length=2:=fns
  subst hts
  subst hrw
  rw[e]
  refine ⟨by simp;omega,.inr (by simp;omega),rfl,by simp,?_⟩
  simp only
  rw[List.take_of_length_le (by omega),List.drop_eq_nil_of_le (by omega)]
  simp[writeF,ptB,nby]
 ·subst ht
  have hts:ts=[]:=nil_of (by have e2:(shp 15).nt=0:=rfl;omega)
  subst hts
  rw[e];simp[writeF,tsB,ptB,nby,shp]
 ·subst ht
  have hts:ts=[]:=nil_of (by have e2:(shp 33).nt=0:=rfl;omega)
  subst hts
  rw[e];simp[writeF,tsB,ptB,nby,shp]
 ·subst ht
  rw[e];simp[writeF,tsB,ptB,nby,shp]
 ·subst ht
  have h2:ts.length=2:=by have e2:(shp 257).nt=2:=rfl;omega
  rcases ts with _|⟨a,_|⟨b,_|⟨c,ts⟩⟩⟩
  ·simp at h2
  ·simp at h2
  ·rw[e];simp[writeF,tsB,ptB,nby,shp]
  ·simp at h2
 ·obtain ⟨h1,h2,h3,h4,h5,h6,h7,h8,h9,h10⟩:=ht
  have es':shp t=⟨0,0,0,-1,0⟩:=by unfold shp;simp[h1,h2,h3,h4,h5,h6,h7,h8,h9,h10]
  rw[es'] at fts fns fus
  have hts:ts=[]:=nil_of (by simp only at fts;omega)
  subst hts
  rw[e,es']
  simp[writeF,tsB,ptB,nby,h6,es']
theorem RdV.of_blocks{w w':World}{a:Option Addr}{xs:List Value}(h:RdV w a xs)(hs:w.heap.size<=w'.heap.size)(hb:∀b o,a=some ⟨b,o,none⟩->w'.heap[b]?=w.heap[b]?):RdV w' a xs:=by
 rcases h with h|⟨b,o,h1,h2,h3⟩
 ·exact .inl h
 ·refine .inr ⟨b,o,h1,Nat.lt_of_lt_of_le h2 hs,fun i hi=>?_⟩
  rw[<- h3 i hi]
  exact World.cell?_of_block (hb b o h1)
def DBlk(w:World)(D:Nat)(x:DA):Prop:=w.heap[D]?=some (.cells #[.slice x.p1.a x.p1.n x.p1.c,.slice x.p2.a x.p2.n x.p2.c,.slice x.p3.a x.p3.n x.p3.c,.slice x.p4.a x.p4.n x.p4.c] 48 (0,0))
theorem DBlk.lt{w:World}{D:Nat}{x:DA}(h:DBlk w D x):D<w.heap.size:=(Array.getElem?_eq_some_iff.1 h).1
theorem DBlk.same{w w':World}{D:Nat}{x:DA}(h:DBlk w D x)(hb:w'.heap[D]?=w.heap[D]?):DBlk w' D x:=hb.trans h
theorem DBlk.box{w:World}{D:Nat}{x:DA}(h:DBlk w D x):DBox w D x:=by
 have h':w.heap[D]?=_:=h
 refine ⟨?_,?_,?_,?_,h.lt⟩ <;> simp[World.cell?,h']
theorem DBlk.fz{w:World}{D:Nat}{x:DA}(h:DBlk w D x)(i:Nat):w.frozen? ⟨D,i,none⟩=false:=by
 have h':w.heap[D]?=_:=h
 simp[World.frozen?,h']
theorem DBlk.set3{w:World}{D:Nat}{x:DA}(h:DBlk w D x)(s:Sl):DBlk (w.setCell ⟨D,3,none⟩ (.slice s.a s.n s.c)) D ⟨x.p1,x.p2,x.p3,s⟩:=(heap_set h 3 _).trans (by simp)
def Own1(B:Nat)(w:World)(s:Sl)(nm:List ByteArray):Prop:=∃ys,OwnT B w (.slice s.a s.n s.c) nm.length ys 1000000000000/\ys.take nm.length=nm
theorem Own1.keep{B:Nat}{w w':World}{s:Sl}{nm:List ByteArray}(h:Own1 B w s nm)(hb:∀j,B<=j->j<w.heap.size->(∃zs,BlkV w j 9 zs)->w'.heap[j]?=w.heap[j]?):Own1 B w' s nm:=by
 obtain ⟨ys,⟨h1,h2⟩,h3⟩:=h
 refine ⟨ys,⟨?_,h2⟩,h3⟩
 rcases h1 with h1|⟨g,e,hg,hblk,hn⟩
 ·exact .inl h1
 ·exact .inr ⟨g,e,hg,hblk.same (hb g hg hblk.lt ⟨_,hblk⟩),hn⟩
theorem Own1.rd{B:Nat}{w:World}{s:Sl}{nm:List ByteArray}(h:Own1 B w s nm):TRd w s nm:=by
 obtain ⟨ys,h1,h3⟩:=h
 obtain ⟨ao,e,hnil⟩:=h1.shape
 have hle:=h1.le
 obtain ⟨sa,sn,sc⟩:=s
 simp only at e h1
 injection e with e1 e2 e3
 subst e1 e2 e3
 have hrd:=h1.rd nm.length
 rw[h3] at hrd
 refine ⟨hrd,rfl,⟨hle.1,by have:=hle.2;simp only[maxLen] at this;exact this⟩,hnil,fun x hx=>?_⟩
 have:x∈ys:=by rw[<- h3] at hx;exact List.mem_of_mem_take hx
 have:=h1.2 x this
 omega
def OwnN(B:Nat)(w:World)(v:Value)(nss:List (List ByteArray)):Prop:=
 ∃xs,OwnV B w 23 v nss.length xs/\∀i (hi:i<nss.length),∃s:Sl,xs[i]?=some (.slice s.a s.n s.c)/\Own1 B w s nss[i]
theorem OwnN.nil(B:Nat)(w:World):OwnN B w (.slice none 0 0) []:=⟨[],OwnV.nil B w 23,fun i hi=>absurd hi (by simp)⟩
theorem OwnN.keep{B:Nat}{w w':World}{v:Value}{nss:List (List ByteArray)}(h:OwnN B w v nss)(hb:∀j,B<=j->j<w.heap.size->w'.heap[j]?=w.heap[j]?):OwnN B w' v nss:=by
 obtain ⟨xs,h1,h2⟩:=h
 refine ⟨xs,h1.keep (fun j e hj=>hb j (h1.lt j e) hj),fun i hi=>?_⟩
 obtain ⟨s,e1,e2⟩:=h2 i hi
 exact ⟨s,e1,e2.keep (fun j h1 h2 _=>hb j h1 h2)⟩
theorem OwnN.rd{B:Nat}{w:World}{s:Sl}{nss:List (List ByteArray)}(h:OwnN B w (.slice s.a s.n s.c) nss):NRd w s nss:=by
 obtain ⟨a,n,c⟩:=s
 obtain ⟨xs,h1,h2⟩:=h
 rcases h1 with ⟨e,e0,rfl⟩|⟨g,e,hg,hblk,hn,hm⟩
 ·injection e with e1 e2 e3
  simp only at e1 e2 e3
  subst e1 e2 e3
  exact ⟨.inl (List.eq_nil_of_length_eq_zero e0),e0,⟨Nat.le_refl _,Nat.zero_le _⟩,fun _=>rfl⟩
 ·injection e with e1 e2 e3
  simp only at e1 e2 e3
  subst e1 e2 e3
  refine ⟨.inr ⟨g,0,rfl,hblk.lt,fun i hi=>?_⟩,rfl,⟨hn,by simp only[maxLen] at hm;exact hm⟩,by simp⟩
  obtain ⟨s,e1,e2⟩:=h2 i hi
  refine ⟨s,?_,e2.rd⟩
  rw[Nat.zero_add,hblk.cell i (by omega)]
  rw[List.getElem?_eq_getElem (by omega)] at e1
  exact e1
theorem tyNs:ElemTy Tryz.prog 44 23 (.slice none 0 0) 24:=⟨Tryz.underlying44,by kernel_rfl,rfl⟩
theorem wp_names{w:World}{ops:Array Oper}{rest:List Oper}{o:Oper}{a:Act}{Q:Exit->Act->World->Prop}(hgd:o.guard=none)(s x:Operand)
  (ho:o.op=.call { callee:=.builtin .append,args:=#[s,x],argTypes:=#[44,44] }) (B:Nat) (v:Value) (nss:List (List ByteArray)) (hs:a.eval s=v) (hown:OwnN B w v nss)
  (ao:Addr) (hx:a.eval x=.slice (some ao) 1 1) (t:Sl) (nm:List ByteArray) (hr:RdV w (some ao) [.slice t.a t.n t.c]) (ht:Own1 B w t nm) (hn:nss.length<=1000) (hB:B<=w.heap.size)
  (h:∀(t':Sl) w',Hid (OwnN B w' (.slice t'.a t'.n t'.c) (nss++[nm]))->Hid (w.grownBy w' v.ownBlock/\∀j,v.ownBlock=some j->B<=j)->wpList Tryz.prog ops Q rest (a.put o.dst (.slice t'.a t'.n t'.c)) w'):wpList Tryz.prog ops Q (o::rest) a w:=by
 obtain ⟨xs,h1,h2⟩:=hown
 refine wpList_append_row tyNs w hgd s x 44 ho B v nss.length xs hs h1 _ 1 [.slice t.a t.n t.c] hx (src_of Tryz.underlying44 hr rfl (by intro u hu;simp at hu;subst hu;rfl)) (by omega) (by simp only[maxLen];omega) hB ?_
 intro v' w' xs' q1 q2 q3 q4
 obtain ⟨ao',rfl,_⟩:=q1.out.shape
 have hle:=q1.out.le
 refine h ⟨ao',nss.length+1,xs'.length⟩ w' ⟨xs',by simpa using q1.out,fun i hi=>?_⟩ ⟨q3,h1.lt⟩
 have hkb:∀j,B<=j->j<w.heap.size->(∃zs,BlkV w j 9 zs)->w'.heap[j]?=w.heap[j]?:=by
  rintro j _ hj ⟨zs,hz⟩
  refine q3.block j hj (fun e=>?_)
  rcases h1 with ⟨e3,_⟩|⟨g,e3,_,hblk,_⟩
  ·rw[e3] at e;cases e
  ·rw[e3] at e
   have e2:g=j:=(Option.some.inj e).symm
   subst e2
   have hh:w.heap[g]?=some (.cells xs.toArray 23 (0,0)):=hblk
   have hh':w.heap[g]?=some (.cells zs.toArray 9 (0,0)):=hz
   rw[hh] at hh'
   injection hh' with hh'
   injection hh' with _ hh'
   exact absurd hh' (by decide)
 have hx':xs'.take (nss.length+1)=xs.take nss.length++[.slice t.a t.n t.c]:=q2.out
 have hl:(xs.take nss.length).length=nss.length:=by have:=h1.le.1;rw[List.length_take];omega
 rw[List.length_append,List.length_singleton] at hi
 by_cases hlt:i<nss.length
 ·obtain ⟨s',e1,e2⟩:=h2 i hlt
  refine ⟨s',?_,?_⟩
  ·have h3:(xs'.take (nss.length+1))[i]?=(xs.take nss.length++[.slice t.a t.n t.c])[i]?:=by rw[hx']
   rw[List.getElem?_take_of_lt (by omega),List.getElem?_append_left (by omega),List.getElem?_take_of_lt hlt,e1] at h3
   exact h3
  ·rw[List.getElem_append_left hlt]
   exact e2.keep hkb
 ·have hie:i=nss.length:=by omega
  subst hie
  refine ⟨t,?_,?_⟩
  ·have h3:(xs'.take (nss.length+1))[nss.length]?=(xs.take nss.length++[.slice t.a t.n t.c])[nss.length]?:=by rw[hx']
   rw[List.getElem?_take_of_lt (by omega),List.getElem?_append_right (by omega),hl] at h3
   simpa using h3
  ·rw[List.getElem_append_right (by omega)]
   simp
   exact ht.keep hkb
theorem rgo_le(l:List Int):∀(n p:Nat) (out o:List ByteArray) (q:Nat),l.length - p<=n->rgo l p out=some (o,q)->q<=l.length:=by
 intro n
 induction n with
 |zero=>
  intro p out o q hn h
  rw[rgo_end l p out (by omega)] at h
  cases h
 |succ n ih=>
  intro p out o q hn h
  by_cases h1:p<l.length/\l.getD p 0<=63
  ·by_cases h0:l.getD p 0=0
   ·rw[rgo_zero l p out h1 h0] at h
    cases h
    omega
   ·by_cases h2:(l.length:Int) - ((p:Int)+1)<l.getD p 0
    ·rw[rgo_short l p out h1 h0 h2] at h;cases h
    ·rw[rgo_step l p out h1 h0 h2] at h
     exact ih _ _ _ _ (by omega) h
  ·rw[rgo_end l p out h1] at h;cases h
theorem gName_le{zs:List Int}{p:Nat}{o:List ByteArray}{q:Nat}(h:gName zs p=some (o,q)):q<=zs.length/\nck o=0/\p<zs.length/\nread zs p=(o,(q:Int),0):=by
 unfold gName at h
 split at h
 ·rename_i hp
  split at h
  ·rename_i o' q' hr
   split at h
   ·rename_i hk
    cases h
    refine ⟨rgo_le zs _ _ _ _ _ (Nat.le_refl _) hr,hk,hp,?_⟩
    unfold nread
    rw[if_neg (by omega),Int.toNat_natCast,hr]
    simp[hk]
   ·cases h
  ·cases h
 ·cases h
abbrev nilDA:DA:=⟨⟨none,0,0⟩,⟨none,0,0⟩,⟨none,0,0⟩,⟨none,0,0⟩⟩
theorem DBlk.four{w:World}{R:Nat}{y:DA}(h:DBlk w R y)(x:DA):DBlk (((((w.setCell ⟨R,0,none⟩ (.slice x.p1.a x.p1.n x.p1.c)).setCell ⟨R,1,none⟩ (.slice x.p2.a x.p2.n x.p2.c)).setCell ⟨R,2,none⟩ (.slice x.p3.a x.p3.n x.p3.c)).setCell ⟨R,3,none⟩ (.slice x.p4.a x.p4.n x.p4.c)).drew) R x:=
 (heap_set (heap_set (heap_set (heap_set h 0 _) 1 _) 2 _) 3 _).trans (by simp)
theorem own_brd{B:Nat}{w:World}{s:Sl}{zs ys:List Int}(h:Own B w (.slice s.a s.n s.c) zs.length ys)(ht:ys.take zs.length=zs):BRd w s zs:=by
 obtain ⟨sa,sn,sc⟩:=s
 obtain ⟨ao,e,hoa⟩:=h.addr
 injection e with e1 e2 e3
 simp only at e1 e2 e3
 subst e1 e2 e3
 have hrd:=hoa.rdTake zs.length
 rw[ht] at hrd
 refine ⟨hrd,rfl,?_,?_⟩
 ·rcases h with ⟨_,h0,h1⟩|⟨g,_,_,_,h1,h2⟩
  ·subst h1;simp[h0]
  ·exact ⟨h1,by simp only[maxLen] at h2;exact h2⟩
 ·intro hn
  rcases h with ⟨_,_,h1⟩|⟨g,e,_⟩
  ·subst h1;rfl
  ·simp only at hn e;rw[hn] at e;cases e
def UOwn(B:Nat)(w:World)(s:Sl)(us:List Nat):Prop:=∃xs,OwnV B w 43 (.slice s.a s.n s.c) us.length xs/\xs.take us.length=uv us/\(∀u∈us,u<=4294967295)/\∀v∈xs,∃z:Int,v=.int .u32 z/\0<=z/\z<=4294967295
def BOwn(B:Nat)(w:World)(s:Sl)(zs:List Int):Prop:=∃ys,Own B w (.slice s.a s.n s.c) zs.length ys/\ys.take zs.length=zs
def DOwn(B:Nat)(w:World)(x:DA)(d:Dat):Prop:=OwnN B w (.slice x.p1.a x.p1.n x.p1.c) d.ns/\UOwn B w x.p2 d.us/\Own1 B w x.p3 d.ts/\BOwn B w x.p4 d.raw
theorem UOwn.keep{B:Nat}{w w':World}{s:Sl}{us:List Nat}(h:UOwn B w s us)(hb:∀j,B<=j->j<w.heap.size->w'.heap[j]?=w.heap[j]?):UOwn B w' s us:=by
 obtain ⟨xs,h1,h2⟩:=h
 exact ⟨xs,h1.keep (fun j e hj=>hb j (h1.lt j e) hj),h2⟩
theorem own_keep2{B:Nat}{w w':World}{v:Value}{n:Nat}{zs:List Int}(h:Own B w v n zs)(hb:∀j,B<=j->j<w.heap.size->w'.heap[j]?=w.heap[j]?):Own B w' v n zs:=by
 rcases h with h|⟨g,h1,h2,h3,h4⟩
 ·exact .inl h
 ·exact .inr ⟨g,h1,h2,h3.same (hb g h2 h3.lt),h4⟩
theorem BOwn.keep{B:Nat}{w w':World}{s:Sl}{zs:List Int}(h:BOwn B w s zs)(hb:∀j,B<=j->j<w.heap.size->w'.heap[j]?=w.heap[j]?):BOwn B w' s zs:=by
 obtain ⟨ys,h1,h2⟩:=h
 exact ⟨ys,own_keep2 h1 hb,h2⟩
theorem DOwn.keep{B:Nat}{w w':World}{x:DA}{d:Dat}(h:DOwn B w x d)(hb:∀j,B<=j->j<w.heap.size->w'.heap[j]?=w.heap[j]?):DOwn B w' x d:=
 ⟨h.1.keep hb,h.2.1.keep hb,h.2.2.1.keep (fun j h1 h2 _=>hb j h1 h2),h.2.2.2.keep hb⟩
theorem UOwn.rd{B:Nat}{w:World}{s:Sl}{us:List Nat}(h:UOwn B w s us):URd w s us:=by
 obtain ⟨xs,h1,h2,h3⟩:=h
 obtain ⟨sa,sn,sc⟩:=s
 obtain ⟨ao,e,hnil⟩:=h1.shape
 have hle:=h1.le
 injection e with e1 e2 e3
 simp only at e1 e2 e3
 subst e1 e2 e3
 have hrd:=h1.rd us.length
 rw[h2] at hrd
 exact ⟨hrd,rfl,⟨hle.1,by have:=hle.2;simp only[maxLen] at this;exact this⟩,hnil,h3.1⟩
theorem BOwn.rd{B:Nat}{w:World}{s:Sl}{zs:List Int}(h:BOwn B w s zs):BRd w s zs:=by
 obtain ⟨ys,h1,h2⟩:=h
 exact own_brd h1 h2
theorem DOwn.rd{B:Nat}{w:World}{x:DA}{d:Dat}(h:DOwn B w x d):DRd w x d:=⟨h.1.rd,h.2.1.rd,h.2.2.1.rd,h.2.2.2.rd⟩
theorem nil_uown(B:Nat)(w:World):UOwn B w ⟨none,0,0⟩ []:=⟨[],OwnV.nil B w 43,rfl,by simp,by simp⟩
theorem nil_own1(B:Nat)(w:World):Own1 B w ⟨none,0,0⟩ []:=⟨[],OwnT.nil B w _,rfl⟩
theorem step_append_row{P:Program}{t e:TypeId}{z:Value}{bt:Nat}(T:ElemTy P t e z bt){w:World}{ops:Array Oper}{o:Oper}{a:Act}{K:Act->World->Prop}{Q:Exit->Act->World->Prop}{E:Prop}(hgd:o.guard=none)(s x:Operand)(tx:TypeId)
  (ho:o.op=.call { callee:=.builtin .append,args:=#[s,x],argTypes:=#[t,tx] }) (B:Nat) (v:Value) (n:Nat) (xs:List Value) (hs:a.eval s=v) (hown:OwnV B w e v n xs)
  (xv:Value) (m:Nat) (news:List Value) (hx:a.eval x=xv) (hsrc:Src P 1 tx xv m news w) (hb:(n+m)*bt<=140737488355328) (h63:n+m<=maxLen) (hB:B<=w.heap.size)
  (h:∀v' w' xs',Hid (OwnV B w' e v' (n+m) xs')->Hid (xs'.take (n+m)=xs.take n++news)->Hid (w.grownBy w' v.ownBlock)->Hid (∀Q:Value->Prop,Q z->(∀u∈xs,Q u)->(∀u∈news,Q u)->∀u∈xs',Q u)->K (a.put o.dst v') w') :
  if Region.wanted o (yielded ops a.tmps)=true then Oper.wp P o a w K Q else E:=by
 have hw:Region.wanted o (yielded ops a.tmps)=true:=by simp[Region.wanted,hgd]
 rw[if_pos hw]
 obtain ⟨v',w',xs',hrun,h2,h3,h4,h5⟩:=run_append_row T w B tx o.type v n xs hown xv m news hsrc hb h63 hB
 unfold Oper.wp execOp
 simp only[ho,resolve,invoke,builtin,Sem.run_bind,Sem.run_pure,Result.andThen_ok,List.map_toArray,List.map_cons,List.map_nil,hs,hx,hrun]
 exact h v' w' xs' h2 h3 h4 h5.1
theorem tyU:ElemTy Tryz.prog 45 43 (.int .u32 0) 4:=⟨Tryz.underlying45,by kernel_rfl,rfl⟩
theorem one_u(w:World)(u:Int):RdV (w.alloc (.cells #[.int .u32 u] 43)) (some ⟨w.heap.size,0,none⟩) [.int .u32 u]:=by
 refine .inr ⟨w.heap.size,0,rfl,by simp,fun i hi=>?_⟩
 have:i=0:=by simp at hi;omega
 subst this
 unfold World.cell?
 rw[heap_alloc_new]
 rfl
theorem st_nums{w:World}{ops:Array Oper}{o:Oper}{a:Act}{K:Act->World->Prop}{Q:Exit->Act->World->Prop}{E:Prop}(hgd:o.guard=none)(s x:Operand)
  (ho:o.op=.call { callee:=.builtin .append,args:=#[s,x],argTypes:=#[45,45] }) (B:Nat) (s2:Sl) (us:List Nat) (hs:a.eval s=.slice s2.a s2.n s2.c) (hown:UOwn B w s2 us)
  (ao:Addr) (hx:a.eval x=.slice (some ao) 1 1) (u:Nat) (hr:RdV w (some ao) [.int .u32 (u:Int)]) (hu:u<=4294967295) (hn:us.length<=1000) (hB:B<=w.heap.size)
  (h:∀(t':Sl) w',Hid (UOwn B w' t' (us++[u]))->Hid (w.grownBy w' (Value.ownBlock (.slice s2.a s2.n s2.c))/\∀j,(Value.ownBlock (.slice s2.a s2.n s2.c))=some j->B<=j)->K (a.put o.dst (.slice t'.a t'.n t'.c)) w') :
  if Region.wanted o (yielded ops a.tmps)=true then Oper.wp Tryz.prog o a w K Q else E:=by
 obtain ⟨xs,h1,h2,h3⟩:=hown
 refine step_append_row tyU hgd s x 45 ho B _ us.length xs hs h1 _ 1 [.int .u32 (u:Int)] hx (src_of Tryz.underlying45 hr rfl (by intro v hv;simp at hv;subst hv;rfl)) (by omega) (by simp only[maxLen];omega) hB ?_
 intro v' w' xs' q1 q2 q3 q4
 obtain ⟨ao',rfl,_⟩:=q1.out.shape
 refine h ⟨ao',us.length+1,xs'.length⟩ w' ⟨xs',by simpa using q1.out,?_,?_,q4.out _ ⟨0,rfl,by omega,by omega⟩ h3.2 (by intro v hv;simp at hv;subst hv;exact ⟨u,rfl,by omega,by omega⟩)⟩ ⟨q3.out,h1.lt⟩
 ·have:=q2.out
  rw[h2] at this
  simpa [uv] using this
 ·intro v hv
  simp only[List.mem_append,List.mem_singleton] at hv
  rcases hv with hv|rfl
  ·exact h3.1 v hv
  ·exact hu
def pgo(l:List Int)(p:Nat)(out:List ByteArray):List ByteArray × Option Nat:=
 if h:p<l.length then
  if l.getD p 0<=0 then (out,some (p+1))
  else if (p:Int)+1+l.getD p 0<=l.length then pgo l (p+1+(l.getD p 0).toNat) (out++[lb ((l.drop (p+1)).take (l.getD p 0).toNat)])
  else (out++[lb []],none)
 else (out,none)
termination_by l.length - p
decreasing_by omega
def aft(l:List Int)(st:Option Nat)(z:Int)(out:List ByteArray):List ByteArray × Option Nat:=
 if z<=0 then (out,st) else match st with
  |none=>(out,none)
  |some p=>if (p:Int)+z<=l.length then pgo l (p+z.toNat) (out++[lb ((l.drop p).take z.toNat)]) else (out++[lb []],none)
theorem take_one(l:List Int)(p:Nat)(h:p<l.length):(l.drop p).take 1=[l.getD p 0]:=by
 rw[List.drop_eq_getElem_cons h,List.getD_eq_getElem?_getD,List.getElem?_eq_getElem h]
 rfl
theorem nb_in(l:List Int)(p:Nat)(h:p<l.length):tk l (some p) 1=[l.getD p 0]/\mv l.length (some p) 1=some (p+1)/\val (tk l (some p) 1)=l.getD p 0:=by
 have e:tk l (some p) 1=[l.getD p 0]:=by
  unfold tk
  simp only
  rw[if_pos ⟨by omega,by omega⟩]
  exact take_one l p h
 refine ⟨e,?_,by rw[e];simp[val]⟩
 unfold mv
 simp only
 rw[if_pos ⟨by omega,by omega⟩]
 rfl
theorem nb_out(l:List Int)(p:Nat)(h:¬ p<l.length):tk l (some p) 1=[]/\mv l.length (some p) 1=none/\val (tk l (some p) 1)=0:=by
 have e:tk l (some p) 1=[]:=by
  unfold tk
  simp only
  rw[if_neg (by omega)]
 refine ⟨e,?_,by rw[e];rfl⟩
 unfold mv
 simp only
 rw[if_neg (by omega)]
theorem pgo_aft(l:List Int)(p:Nat)(out:List ByteArray):pgo l p out=aft l (mv l.length (some p) 1) (val (tk l (some p) 1)) out:=by
 by_cases h:p<l.length
 ·obtain ⟨_,e2,e3⟩:=nb_in l p h
  rw[e2,e3,pgo,dif_pos h]
  unfold aft
  by_cases hz:l.getD p 0<=0
  ·rw[if_pos hz,if_pos hz]
  ·rw[if_neg hz,if_neg hz]
   simp only[Int.natCast_add,Int.natCast_one]
 ·obtain ⟨_,e2,e3⟩:=nb_out l p h
  rw[e2,e3,pgo,dif_neg h]
  rfl
theorem aft_step(l:List Int)(p:Nat)(z:Int)(out:List ByteArray)(hz:0<z):aft l (some p) z out=aft l (mv l.length (mv l.length (some p) z) 1) (val (tk l (mv l.length (some p) z) 1)) (out++[lb (tk l (some p) z)]):=by
 by_cases hf:(p:Int)+z<=l.length
 ·have e1:mv l.length (some p) z=some (p+z.toNat):=by unfold mv;simp only;rw[if_pos ⟨by omega,hf⟩]
  have e2:tk l (some p) z=(l.drop p).take z.toNat:=by unfold tk;simp only;rw[if_pos ⟨by omega,hf⟩]
  rw[e1,e2,<- pgo_aft]
  unfold aft
  rw[if_neg (by omega)]
  simp only
  rw[if_pos hf]
 ·have e1:mv l.length (some p) z=none:=by unfold mv;simp only;rw[if_neg (by omega)]
  have e2:tk l (some p) z=[]:=by unfold tk;simp only;rw[if_neg (by omega)]
  rw[e1,e2]
  unfold aft
  rw[if_neg (by omega)]
  simp only
  rw[if_neg hf]
  rfl
theorem nb_pos(l:List Int)(st:Option Nat)(h:0<val (tk l st 1)):∃p,st=some p/\mv l.length st 1=some (p+1)/\p<l.length:=by
 cases st with
 |none=>simp[tk,val] at h
 |some p=>
  by_cases hp:p<l.length
  ·exact ⟨p,rfl,(nb_in l p hp).2.1,hp⟩
  ·rw[(nb_out l p hp).2.2] at h;omega
theorem nb_bd(l:List Int)(hb:∀z∈l,0<=z/\z<=255)(st:Option Nat):0<=val (tk l st 1)/\val (tk l st 1)<=255:=by
 cases st with
 |none=>simp[tk,val]
 |some p=>
  by_cases hp:p<l.length
  ·rw[(nb_in l p hp).2.2];exact getD_bd l hb p
  ·rw[(nb_out l p hp).2.2];omega
theorem pgo_pre(l:List Int):∀(n p:Nat) (out:List ByteArray),l.length - p<=n->∃r,(pgo l p out).1=out++r
 |n,p,out,hn=>by
  rw[pgo]
  by_cases h:p<l.length
  ·rw[dif_pos h]
   by_cases hz:l.getD p 0<=0
   ·rw[if_pos hz];exact ⟨[],by simp⟩
   ·rw[if_neg hz]
    by_cases hf:(p:Int)+1+l.getD p 0<=l.length
    ·rw[if_pos hf]
     cases n with
     |zero=>omega
     |succ n=>
      obtain ⟨r,hr⟩:=pgo_pre l n (p+1+(l.getD p 0).toNat) (out++[lb ((l.drop (p+1)).take (l.getD p 0).toNat)]) (by omega)
      exact ⟨_::r,by rw[hr,List.append_assoc];rfl⟩
    ·rw[if_neg hf];exact ⟨_,rfl⟩
  ·rw[dif_neg h];exact ⟨[],by simp⟩
theorem rgo_pre(l:List Int):∀(n p:Nat) (out o:List ByteArray) (q:Nat),l.length - p<=n->rgo l p out=some (o,q)->∃r,o=out++r
 |n,p,out,o,q,hn,hr=>by
  by_cases h:p<l.length/\l.getD p 0<=63
  ·by_cases h0:l.getD p 0=0
   ·rw[rgo_zero l p out h h0] at hr
    cases hr
    exact ⟨[],by simp⟩
   ·by_cases h1:(l.length:Int) - ((p:Int)+1)<l.getD p 0
    ·rw[rgo_short l p out h h0 h1] at hr;cases hr
    ·rw[rgo_step l p out h h0 h1] at hr
     cases n with
     |zero=>omega
     |succ n=>
      obtain ⟨r,hr⟩:=rgo_pre l n _ _ o q (by omega) hr
      exact ⟨_::r,by rw[hr,List.append_assoc];rfl⟩
  ·rw[rgo_end l p out h] at hr;cases hr
def win(zs:List Int)(d:Nat):List Int:=(zs.drop d).take 255
theorem win_len(zs:List Int)(d:Nat):(win zs d).length=min 255 (zs.length - d):=by simp[win]
theorem win_at(zs:List Int)(d p:Nat)(h:p<(win zs d).length):(win zs d).getD p 0=zs.getD (d+p) 0:=by
 rw[win_len] at h
 simp only[win,List.getD_eq_getElem?_getD]
 rw[List.getElem?_take,if_pos (by omega),List.getElem?_drop]
theorem win_cut(zs:List Int)(d p n:Nat)(h:p+n<=(win zs d).length):((win zs d).drop p).take n=(zs.drop (d+p)).take n:=by
 rw[win_len] at h
 apply List.ext_getElem?
 intro i
 simp only[win,List.getElem?_take,List.getElem?_drop]
 by_cases hi:i<n
 ·rw[if_pos hi,if_pos hi,if_pos (by omega),Nat.add_assoc]
 ·rw[if_neg hi,if_neg hi]
theorem pgo_rgo(zs:List Int)(hb:∀z∈zs,0<=z/\z<=255)(d:Nat):∀(n p q:Nat) (out o:List ByteArray),(win zs d).length - p<=n->pgo (win zs d) p out=(o,some q)->nck o=0->rgo zs (d+p) out=some (o,d+q)
 |n,p,q,out,o,hn,hp,hk=>by
  rw[pgo] at hp
  by_cases h:p<(win zs d).length
  ·rw[dif_pos h,win_at zs d p h] at hp
   have hl:=win_len zs d
   have hbd:=getD_bd zs hb (d+p)
   by_cases hz:zs.getD (d+p) 0<=0
   ·rw[if_pos hz] at hp
    cases hp
    rw[rgo_zero zs (d+p) out ⟨by omega,by omega⟩ (by omega)]
    rfl
   ·rw[if_neg hz] at hp
    by_cases hf:(p:Int)+1+zs.getD (d+p) 0<=(win zs d).length
    ·rw[if_pos hf] at hp
     have hsz:(lb (((win zs d).drop (p+1)).take (zs.getD (d+p) 0).toNat)).size=(zs.getD (d+p) 0).toNat:=by
      rw[lb_size,List.length_take,List.length_drop];omega
     have hmem:lb (((win zs d).drop (p+1)).take (zs.getD (d+p) 0).toNat)∈o:=by
      obtain ⟨r,hr⟩:=pgo_pre (win zs d) (win zs d).length (p+1+(zs.getD (d+p) 0).toNat) (out++[lb (((win zs d).drop (p+1)).take (zs.getD (d+p) 0).toNat)]) (by omega)
      rw[hp] at hr
      simp only at hr
      rw[hr]
      simp
     have h63:=chk_ok ((nck_small hk).2 _ hmem)
     rw[hsz] at h63
     cases n with
     |zero=>omega
     |succ n=>
      have:=pgo_rgo zs hb d n _ q _ o (by omega) hp hk
      rw[rgo_step zs (d+p) out ⟨by omega,by omega⟩ (by omega) (by omega)]
      rw[win_cut zs d (p+1) _ (by omega),show d+(p+1+(zs.getD (d+p) 0).toNat)=d+p+1+(zs.getD (d+p) 0).toNat by omega,show d+(p+1)=d+p+1 by omega] at this
      exact this
    ·rw[if_neg hf] at hp
     cases hp
  ·rw[dif_neg h] at hp
   cases hp
theorem rgo_pgo(zs:List Int)(hb:∀z∈zs,0<=z/\z<=255)(d:Nat):∀(n p Q:Nat) (out o:List ByteArray),zs.length - (d+p)<=n->rgo zs (d+p) out=some (o,Q)->nck o=0->nsz out=p+1->∃q,pgo (win zs d) p out=(o,some q)/\Q=d+q
 |n,p,Q,out,o,hn,hr,hk,hs=>by
  have hl:=win_len zs d
  have hbd:=getD_bd zs hb (d+p)
  obtain ⟨r,hpre⟩:=rgo_pre zs zs.length (d+p) out o Q (by omega) hr
  have ho:=(nck_small hk).1
  have hle:nsz out<=nsz o:=by rw[hpre];have:=nsz_append out r;have:=nsz_len r;omega
  by_cases h:d+p<zs.length/\zs.getD (d+p) 0<=63
  ·have hw:p<(win zs d).length:=by omega
   by_cases h0:zs.getD (d+p) 0=0
   ·rw[rgo_zero zs (d+p) out h h0] at hr
    cases hr
    refine ⟨p+1,?_,rfl⟩
    rw[pgo,dif_pos hw,win_at zs d p hw,if_pos (by omega)]
   ·by_cases h1:(zs.length:Int) - (((d+p:Nat):Int)+1)<zs.getD (d+p) 0
    ·rw[rgo_short zs (d+p) out h h0 h1] at hr;cases hr
    ·rw[rgo_step zs (d+p) out h h0 h1] at hr
     have hsz:(lb ((zs.drop (d+p+1)).take (zs.getD (d+p) 0).toNat)).size=(zs.getD (d+p) 0).toNat:=by
      rw[lb_size,List.length_take,List.length_drop];omega
     have hs2:nsz (out++[lb ((zs.drop (d+p+1)).take (zs.getD (d+p) 0).toNat)])=(p+1+(zs.getD (d+p) 0).toNat)+1:=by
      rw[nsz_snoc,hsz,hs]
     obtain ⟨r2,hpre2⟩:=rgo_pre zs zs.length _ _ o Q (by omega) hr
     have hle2:nsz (out++[lb ((zs.drop (d+p+1)).take (zs.getD (d+p) 0).toNat)])<=nsz o:=by rw[hpre2];have:=nsz_append (out++[lb ((zs.drop (d+p+1)).take (zs.getD (d+p) 0).toNat)]) r2;have:=nsz_len r2;omega
     have hf:(p:Int)+1+zs.getD (d+p) 0<=(win zs d).length:=by omega
     cases n with
     |zero=>omega
     |succ n=>
      rw[show d+p+1+(zs.getD (d+p) 0).toNat=d+(p+1+(zs.getD (d+p) 0).toNat) by omega] at hr
      obtain ⟨q,hq,hQ⟩:=rgo_pgo zs hb d n (p+1+(zs.getD (d+p) 0).toNat) Q _ o (by omega) hr hk hs2
      refine ⟨q,?_,hQ⟩
      rw[pgo,dif_pos hw,win_at zs d p hw,if_neg (by omega),if_pos hf,win_cut zs d (p+1) _ (by omega),show d+(p+1)=d+p+1 by omega]
      exact hq
  ·rw[rgo_end zs (d+p) out h] at hr;cases hr
theorem nread_pgo(zs:List Int)(hb:∀z∈zs,0<=z/\z<=255)(d:Nat)(hd:d<zs.length):nread zs (d:Int)=match pgo (win zs d) 0 [] with
  |(_,none)=>([],0,8)
  |(out,some q)=>if nck out=0 then (out,((d+q:Nat):Int),0) else ([],0,8):=by
 unfold nread
 rw[if_neg (by omega),Int.toNat_natCast]
 cases hp:pgo (win zs d) 0 [] with
 |mk o st=>
  have back:∀(o2:List ByteArray) (Q:Nat),rgo zs d []=some (o2,Q)->nck o2=0->∃q,pgo (win zs d) 0 []=(o2,some q)/\Q=d+q:=fun o2 Q h hk=>rgo_pgo zs hb d zs.length 0 Q [] o2 (by omega) h hk (by simp[nsz])
  cases st with
  |none=>
   simp only
   cases hr:rgo zs d [] with
   |none=>rfl
   |some x=>
    obtain ⟨o2,Q⟩:=x
    simp only
    by_cases hk:nck o2=0
    ·obtain ⟨q,h1,_⟩:=back o2 Q hr hk
     rw[hp] at h1
     cases h1
    ·rw[if_neg hk]
  |some q=>
   simp only
   by_cases hk:nck o=0
   ·have:=pgo_rgo zs hb d (win zs d).length 0 q [] o (by omega) hp hk
    rw[Nat.add_zero] at this
    rw[this]
   ·rw[if_neg hk]
    cases hr:rgo zs d [] with
    |none=>rfl
    |some x=>
     obtain ⟨o2,Q⟩:=x
     simp only
     by_cases hk2:nck o2=0
     ·obtain ⟨q2,h1,_⟩:=back o2 Q hr hk2
      rw[hp] at h1
      cases h1
      exact absurd hk2 hk
     ·rw[if_neg hk2]
def NewPost(l:List Int)(w:World)(e:Ending)(w':World):Prop:=
 ∃gr a' ca,e=.returned (.pointer (some ⟨gr,0,none⟩))/\Hid (w.heap.size<=gr/\RBlk w' gr (.slice a' l.length ca) 0 false/\Rd w' a' l/\l.length<=ca/\(a'=none->ca=0)/\Off a' gr/\(∀y o,a'=some ⟨y,o,none⟩->w.heap.size<=y/\y<w'.heap.size)/\Below w.heap.size w w')
theorem grown_app{w1 wr w2 w':World}{gr:Nat}{v:Value}{o:Obj}(h1:w1.grownBy wr (some gr))(h2:wr.grownBy w2 (some gr))(h3:(w2.alloc o).grownBy w' v.ownBlock)(hv:∀g,v.ownBlock=some g->w1.heap.size<=g):w1.grownBy w' (some gr):=by
 have hz:w2.heap.size<=(w2.alloc o).heap.size:=by simp
 refine ⟨h3.os.trans (h2.os.trans h1.os),h3.tape.trans (h2.tape.trans h1.tape),h3.output.trans (h2.output.trans h1.output),Nat.le_trans h1.size (Nat.le_trans h2.size (Nat.le_trans hz h3.size)),fun k hk hne=>?_⟩
 have hk1:=Nat.lt_of_lt_of_le hk h1.size
 have hk2:=Nat.lt_of_lt_of_le hk1 h2.size
 refine (h3.block k (Nat.lt_of_lt_of_le hk2 hz) (fun e=>by have:=hv k e.symm;omega)).trans ?_
 exact (Below.heap_alloc w2 o k hk2).trans ((h2.block k hk1 hne).trans (h1.block k hk hne))
theorem same_app{w1 wr w2 w':World}{gr:Nat}{v:Value}{o:Obj}(hg:gr<w1.heap.size)(h1:w1.grownBy wr (some gr))(h2:wr.grownBy w2 (some gr))(h3:(w2.alloc o).grownBy w' v.ownBlock)(hv:∀g,v.ownBlock=some g->w1.heap.size<=g):w'.heap[gr]?=w2.heap[gr]?:=by
 have hz:w2.heap.size<=(w2.alloc o).heap.size:=by simp
 have hk2:=Nat.lt_of_lt_of_le (Nat.lt_of_lt_of_le hg h1.size) h2.size
 exact (h3.block gr (Nat.lt_of_lt_of_le hk2 hz) (fun e=>by have:=hv gr e.symm;omega)).trans (Below.heap_alloc w2 o gr hk2)
theorem OwnT.keepOff{B:Nat}{w w':World}{v:Value}{n:Nat}{ss:List ByteArray}{M gr:Nat}(h:OwnT B w v n ss M)(hg:w.grownBy w' (some gr))(hB:gr<B):OwnT B w' v n ss M:=
 ⟨h.1.keep fun g e hlt=>hg.block g hlt (fun e'=>by have:=h.1.lt g e;have:g=gr:=Option.some.inj e';omega),h.2⟩
theorem grown_two{w1 wr w2:World}{gr:Nat}(h1:w1.grownBy wr (some gr))(h2:wr.grownBy w2 (some gr)):w1.grownBy w2 (some gr):=
 ⟨h2.os.trans h1.os,h2.tape.trans h1.tape,h2.output.trans h1.output,Nat.le_trans h1.size h2.size,fun k hk hne=>(h2.block k (Nat.lt_of_lt_of_le hk h1.size) hne).trans (h1.block k hk hne)⟩
theorem below_off{B gr:Nat}{w w1 w2:World}(h:Below B w w1)(hg:w1.grownBy w2 (some gr))(hB:B<=gr)(h0:B<=w1.heap.size):Below B w w2:=h.grown hg h0 (fun k e=>by cases e;exact hB)
theorem pread_in(b o len cap p0 M:Nat)(zs:List Int)(w:World)(hr:Rd w (some ⟨b,o,none⟩) zs)(hl:zs.length=len)(hm:len<=140737488355328)(hc:len<=cap/\cap<=9223372036854775807)(hp0:p0<len)(hM:M=min (len - p0) 255) :
  Calls Tryz.prog 197 #[.slice (some ⟨b,o,none⟩) len cap,.int .i64 p0] w (RPost (nread zs p0) w):=by
 have HX:Hid (nread zs (p0:Int)=match pgo (win zs p0) 0 [] with
  |(_,none)=>([],0,8)
  |(out,some q)=>if nck out=0 then (out,((p0+q:Nat):Int),0) else ([],0,8)):=nread_pgo zs hr.2 p0 (by omega)
 have HWL:Hid ((win zs p0).length=M):=by show _=_;rw[win_len,hl,hM];omega
 have HWB:Hid (∀z∈win zs p0,0<=z/\z<=255):=fun z hz=>hr.2 z (List.mem_of_mem_drop (List.mem_of_mem_take hz))
 have KN:Hid (∀N,N=M->Calls Tryz.prog 179 #[.slice (some ⟨b,o+p0,none⟩) N (cap - p0)] w (NewPost (win zs p0) w)):=by
  intro N hN
  subst hN
  have hcut:Rd w (some ⟨b,o+p0,none⟩) (win zs p0):=by
   have:=hr.cut p0 N (by omega) (a':=some ⟨b,o+p0,none⟩) (fun _ b' o' e=>by cases e;rfl)
   have e:(zs.drop p0).take N=win zs p0:=by
    unfold win
    rw[hM,List.take_eq_take_iff,List.length_drop,hl]
    omega
   rw[e] at this
   exact this
  have:=new_any ⟨b,o+p0,none⟩ (cap - p0) (win zs p0) w hcut (by rw[HWL.out];omega)
  rw[HWL.out] at this
  unfold NewPost
  rw[HWL.out]
  exact this
 generalize win zs p0=l at*
 obtain ⟨R,hR⟩:∃R,nread zs (p0:Int)=R:=⟨_,rfl⟩
 rw[hR] at HX ⊢
 clear hr hl hR
 have h1:¬ (p0:Int)<0:=by omega
 have h2:¬ (len:Int)<=(p0:Int):=by omega
 have h3:(p0:Int)<=(len:Int):=by omega
 have h4:(p0:Int)<=(cap:Int):=by omega
 have h5:¬ cap=p0:=by omega
 go_enter Tryz.func197,Tryz.ntmps197
 go_wp2_with fail
 all_goals
  refine (KN.out _ ?_).mono ?_
  ·omega
  rintro e w1 ⟨gr,a',ca,rfl,H1⟩
  obtain ⟨q1,q2,q3,q4,q5,q6,q7,q8⟩:=H1.out
  rw[HWL.out] at q2 q4
  have HE:Hid (Rd w1 a' l/\M<=ca/\(a'=none->ca=0)/\Off a' gr/\gr<w1.heap.size/\w.heap.size<=gr/\Below w.heap.size w w1/\(∀y o,a'=some ⟨y,o,none⟩->y<w1.heap.size)):=⟨q3,q4,q5,q6,q2.lt,q1,q8,fun y o h=>(q7 y o h).2⟩
  have HS0:Hid (RSt w1 gr a' M ca (some 0)/\w1.grownBy w1 (some gr)):=⟨⟨q2,Nat.zero_le _⟩,World.grownBy.refl _ _⟩
  have hM2:M<=255:=by omega
  have KB:Hid (∀W st,RSt W gr a' M ca st->w1.grownBy W (some gr)->Calls Tryz.prog 201 #[.pointer (some ⟨gr,0,none⟩)] W fun e w'=>e=.returned (.int .i64 (val (tk l st 1)))/\Hid (RSt w' gr a' M ca (mv M st 1)/\W.grownBy w' (some gr))):=fun W st g1 g2=>rbyte_any gr a' M ca l st W g1 (HE.out.1.grown g2 HE.out.2.2.2.1) HWL.out HE.out.2.1 (by omega) HE.out.2.2.1 HE.out.2.2.2.1
  have KT:Hid (∀W st n,RSt W gr a' M ca st->w1.grownBy W (some gr)->Calls Tryz.prog 183 #[.pointer (some ⟨gr,0,none⟩),.int .i64 n] W fun e w'=>∃v ys,e=.returned v/\Hid (Own W.heap.size w' v (tk l st n).length ys/\ys.take (tk l st n).length=tk l st n/\RSt w' gr a' M ca (mv M st n)/\W.grownBy w' (some gr))):=fun W st n g1 g2=>rtake_any gr a' M ca l st n W g1 (HE.out.1.grown g2 HE.out.2.2.2.1) HWL.out HE.out.2.1 (by omega) HE.out.2.2.1 HE.out.2.2.2.1
  have KD:Hid (∀W st,RSt W gr a' M ca st->w1.grownBy W (some gr)->Calls Tryz.prog 185 #[.pointer (some ⟨gr,0,none⟩)] W fun e w'=>e=.returned (.bool st.isNone)/\Hid (RSt w' gr a' M ca st/\W.grownBy w' (some gr))):=fun W st g1 g2=>rbad_any gr a' M ca l st W g1 (HE.out.1.grown g2 HE.out.2.2.2.1) HWL.out HE.out.2.1 (by omega) HE.out.2.2.1 HE.out.2.2.2.1
  have KA:Hid (∀W st,RSt W gr a' M ca st->w1.grownBy W (some gr)->Calls Tryz.prog 198 #[.pointer (some ⟨gr,0,none⟩)] W fun e w'=>e=.returned (.int .i64 (pos st))/\Hid (RSt w' gr a' M ca st/\W.grownBy w' (some gr))):=fun W st g1 g2=>rat_any gr a' M ca l st W g1 (HE.out.1.grown g2 HE.out.2.2.2.1) HWL.out HE.out.2.1 (by omega) HE.out.2.2.1 HE.out.2.2.2.1
  clear H1 q1 q2 q3 q4 q5 q6 q7 q8 KN
  go_wp2_with fail
  refine (KB.out _ _ HS0.out.1 HS0.out.2).mono ?_
  rintro e w2 ⟨rfl,H2⟩
  have HI0:Hid (pgo l 0 []=aft l (mv M (some 0) 1) (val (tk l (some 0) 1)) []/\(0<val (tk l (some 0) 1)->∃p,mv M (some 0) 1=some p/\([]:List ByteArray).length<p/\p<=M)/\0<=val (tk l (some 0) 1)/\val (tk l (some 0) 1)<=255):=by
   refine ⟨?_,?_,nb_bd l HWB.out _⟩
   ·have:=pgo_aft l 0 []
    rw[HWL.out] at this
    exact this
   ·intro hz
    obtain ⟨p,e1,e2,e3⟩:=nb_pos l (some 0) hz
    rw[HWL.out] at e2 e3
    exact ⟨p+1,e2,by simp,by omega⟩
  generalize val (tk l (some 0) 1)=z0 at*
  generalize mv M (some 0) 1=st0 at*
  go_wp2_with fail
  go_loopw [9,10] (fun v x wr=>∃(z:Int) (st:Option Nat) (out:List ByteArray),x=.int .i64 z/\0<=z/\z<=255/\out.length<=256/\Hid (pgo l 0 []=aft l st z out)/\Hid (0<z->∃p,st=some p/\out.length<p/\p<=M)/\Hid (RSt wr gr a' M ca st/\w1.grownBy wr (some gr))/\Hid ((∃ys,OwnT w1.heap.size wr v out.length ys 1000000000000/\ys.take out.length=out)/\∀s∈out,s.size<=255)) (fun v _ _=>match v with | .slice _ n _=>300 - n|_=>0)
  case atStart=>exact ⟨z0,st0,[],rfl,HI0.out.2.2.1,HI0.out.2.2.2,by simp,HI0.out.1,HI0.out.2.1,H2,⟨[],OwnT.nil _ _ _,rfl⟩,by simp⟩
  case round=>
   clear HI0 H2 HS0
   obtain ⟨z,st,out,rfl,hz0,hz255,hol,HG,HP,HS,HW⟩:=hrel
   obtain ⟨ys,hO,hT⟩:=HW.out.1
   obtain ⟨ao,hv,hao⟩:=hO.shape
   subst hv
   have HO:Hid (OwnT w1.heap.size wr (.slice ao out.length ys.length) out.length ys 1000000000000/\ys.take out.length=out):=⟨hO,hT⟩
   clear hO hT hao
   generalize hyl:ys.length=yl at*
   clear hyl
   by_cases hz:0<z
   ·obtain ⟨p,rfl,hop,hpM⟩:=HP.out hz
    have HST:Hid (pgo l 0 []=aft l (mv M (mv M (some p) z) 1) (val (tk l (mv M (some p) z) 1)) (out++[lb (tk l (some p) z)])):=by
     have:=aft_step l p z out hz
     rw[HWL.out] at this
     show _=_
     rw[HG.out,this]
    have HNX:Hid ((0<val (tk l (mv M (some p) z) 1)->∃p2,mv M (mv M (some p) z) 1=some p2/\(out++[lb (tk l (some p) z)]).length<p2/\p2<=M)/\0<=val (tk l (mv M (some p) z) 1)/\val (tk l (mv M (some p) z) 1)<=255):=by
     refine ⟨?_,nb_bd l HWB.out _⟩
     intro h
     obtain ⟨p2,e1,e2,e3⟩:=nb_pos l _ h
     rw[HWL.out] at e2 e3
     refine ⟨p2+1,e2,?_,by omega⟩
     unfold mv at e1
     simp only at e1
     by_cases hf:0<=z/\(p:Int)+z<=M
     ·rw[if_pos hf] at e1
      have:p+z.toNat=p2:=by simpa using e1
      rw[List.length_append,List.length_singleton]
      omega
     ·rw[if_neg hf] at e1
      cases e1
    have hfs:(lb (tk l (some p) z)).size<=255:=by
     have:=tk_len l (some p) z.toNat
     rw[show ((z.toNat:Nat):Int)=z by omega] at this
     rw[lb_size]
     omega
    have KTz:Hid (Calls Tryz.prog 183 #[.pointer (some ⟨gr,0,none⟩),.int .i64 z] wr fun e w'=>∃v ys,e=.returned v/\Hid (Own wr.heap.size w' v (tk l (some p) z).length ys/\ys.take (tk l (some p) z).length=tk l (some p) z/\RSt w' gr a' M ca (mv M (some p) z)/\wr.grownBy w' (some gr))):=KT.out wr (some p) z HS.out.1 HS.out.2
    have HLB:Hid (∀W ao n c,Rd W ao (tk l (some p) z)->(tk l (some p) z).length=n->(convert 46 9 (.slice ao n c)).run Tryz.prog W=.ok (.string (lb (tk l (some p) z))) W):=fun W ao n c g1 g2=>conv_rd ao n c _ W g1 g2
    have KB2:Hid (∀W,RSt W gr a' M ca (mv M (some p) z)->w1.grownBy W (some gr)->Calls Tryz.prog 201 #[.pointer (some ⟨gr,0,none⟩)] W fun e w'=>e=.returned (.int .i64 (val (tk l (mv M (some p) z) 1)))/\Hid (RSt w' gr a' M ca (mv M (mv M (some p) z) 1)/\W.grownBy w' (some gr))):=fun W=>KB.out W _
    generalize val (tk l (mv M (some p) z) 1)=z2 at*
    generalize mv M (mv M (some p) z) 1=st2 at*
    generalize mv M (some p) z=stz at*
    generalize tk l (some p) z=tz at*
    generalize lb tz=f at*
    obtain ⟨n2,hn2⟩:∃n,tz.length=n:=⟨_,rfl⟩
    rw[hn2] at KTz
    clear KB KT KD KA HG HP
    go_wp2_with fail
    refine KTz.out.mono ?_
    rintro e w2 ⟨v2,zs2,rfl,H2⟩
    obtain ⟨ao2,hv2,hA2⟩:=H2.out.1.addr
    subst hv2
    have hcv:∀c,(convert 46 9 (.slice ao2 n2 c)).run Tryz.prog w2=.ok (.string f) w2:=fun c=>HLB.out w2 ao2 _ _ (by have:=hA2.rdTake n2;rw[H2.out.2.1] at this;exact this) hn2
    have HO2:Hid (OwnT w1.heap.size (w2.alloc (.cells #[.string f] 9)) (.slice ao out.length yl) out.length ys 1000000000000/\ys.take out.length=out):=⟨(HO.out.1.keepOff H2.out.2.2.2 HE.out.2.2.2.2.1).below ((Below.refl _ _).alloc (Nat.le_refl _) _),HO.out.2⟩
    have HZ2:Hid (w1.heap.size<=(w2.alloc (.cells #[.string f] 9)).heap.size):=by have:=HS.out.2.size;have:=H2.out.2.2.2.size;show _<=_;simp;omega
    clear KTz HLB hA2
    generalize zs2.length=c2 at*
    go_wp2_with (at_builtin;refine wpList_append_T tyN _ rfl _ _ 23 9 Tryz.underlying23 rfl w1.heap.size _ out.length ys 1000000000000 rfl HO2.out.1 (some ⟨w2.heap.size,0,none⟩) 1 1 [f] rfl (one_rdT w2 f) rfl (by intro s hs;simp at hs;subst hs;omega) (by omega) HZ2.out ?_;intro v' w' ys' hO' hT' hG';have HG2:Hid ((w2.alloc (.cells #[.string f] 9)).grownBy w' (Value.slice ao out.length yl).ownBlock):=hG';clear hG')
    have hown:=HO.out.1.1.lt
    have HR3:Hid (RSt w' gr a' M ca stz/\w1.grownBy w' (some gr)):=⟨H2.out.2.2.1.same (same_app HE.out.2.2.2.2.1 HS.out.2 H2.out.2.2.2 HG2.out hown),grown_app HS.out.2 H2.out.2.2.2 HG2.out hown⟩
    refine (KB2.out _ HR3.out.1 HR3.out.2).mono ?_
    rintro e w4 ⟨rfl,H4⟩
    obtain ⟨ao',hv',_⟩:=hO'.out.shape
    subst hv'
    go_wp2
    refine ⟨⟨z2,st2,out++[f],rfl,HNX.out.2.1,HNX.out.2.2,by rw[List.length_append,List.length_singleton];omega,HST,HNX.out.1,⟨H4.out.1,grown_two HR3.out.2 H4.out.2⟩,⟨ys',?_,?_⟩,?_⟩,?_⟩
    ·rw[List.length_append];exact hO'.out.keepOff H4.out.2 HE.out.2.2.2.2.1
    ·rw[List.length_append];exact hT'.out.trans (by rw[HO2.out.2])
    ·intro s hs
     rcases List.mem_append.1 hs with hs|hs
     ·exact HW.out.2 s hs
     ·simp at hs;subst hs;exact hfs
    ·simp;omega
   ·obtain rfl:z=0:=by omega
    have hR:pgo l 0 []=(out,st):=HG.out
    rw[hR] at HX
    clear hR HG HP KB KT
    cases st with
    |none=>
     have e:=HX.out
     simp only at e
     subst e
     have KDz:=KD.out wr none HS.out.1 HS.out.2
     have KD2:Hid (Calls Tryz.prog 185 #[.pointer (some ⟨gr,0,none⟩)] wr fun e w'=>e=.returned (.bool true)/\Hid (RSt w' gr a' M ca none/\wr.grownBy w' (some gr))):=KDz
     clear KDz HX KD KA
     go_wp2_with fail
     refine KD2.out.mono ?_
     rintro e w2 ⟨rfl,H2⟩
     go_wp2
     go_ret3
     exact rpost_none rfl (below_off (below_off HE.out.2.2.2.2.2.2.1 HS.out.2 HE.out.2.2.2.2.2.1 HE.out.2.2.2.2.2.2.1.size) H2.out.2 HE.out.2.2.2.2.2.1 (Nat.le_trans HE.out.2.2.2.2.2.2.1.size HS.out.2.size))
    |some q=>
     have hqM:q<=M:=HS.out.1.2
     have KD2:Hid (Calls Tryz.prog 185 #[.pointer (some ⟨gr,0,none⟩)] wr fun e w'=>e=.returned (.bool false)/\Hid (RSt w' gr a' M ca (some q)/\wr.grownBy w' (some gr))):=KD.out wr (some q) HS.out.1 HS.out.2
     have KA2:Hid (∀W,RSt W gr a' M ca (some q)->w1.grownBy W (some gr)->Calls Tryz.prog 198 #[.pointer (some ⟨gr,0,none⟩)] W fun e w'=>e=.returned (.int .i64 q)/\Hid (RSt w' gr a' M ca (some q)/\W.grownBy w' (some gr))):=fun W g1 g2=>KA.out W (some q) g1 g2
     have HZ:Hid (nsz out<=1000000000000):=by
      have:∀l:List ByteArray,(∀s∈l,s.size<=255)->nsz l<=256*l.length+1:=by
       intro l
       induction l with
       |nil=>intro _;simp[nsz]
       |cons x l ih=>intro h;have:=ih (fun s hs=>h s (by simp[hs]));have:=h x (by simp);simp only[nsz,List.length_cons];omega
      have:=this out HW.out.2
      show _<=_
      omega
     have e:=HX.out
     simp only at e
     have HXX:Hid (R=if nck out=0 then (out,((p0+q:Nat):Int),0) else ([],0,8)):=e
     clear e HX KD KA
     go_wp2_with fail
     refine KD2.out.mono ?_
     rintro e w2 ⟨rfl,H2⟩
     have hO2:=HO.out.1.keepOff H2.out.2 HE.out.2.2.2.2.1
     have hnm:Nm w2 ao out.length out:=⟨by have:=hO2.rd out.length;rw[HO.out.2] at this;exact this,rfl,HZ.out⟩
     have KC:Hid (Calls Tryz.prog 17 #[.slice ao out.length yl] w2 fun e w'=>e=.returned (.int .i64 (nck out))/\w'=w2):=pm_check yl hnm
     have HO3:Hid (OwnT w1.heap.size w2 (.slice ao out.length yl) out.length ys 1000000000000):=hO2
     have HG2:Hid (RSt w2 gr a' M ca (some q)/\w1.grownBy w2 (some gr)):=⟨H2.out.1,grown_two HS.out.2 H2.out.2⟩
     clear hO2 hnm KD2 H2
     by_cases hk:nck out=0
     ·rw[hk] at KC
      have e:=HXX.out
      rw[if_pos hk] at e
      subst e
      clear hk HXX
      have hadd:IntKind.i64.wrap ((p0:Int)+(q:Int))=((p0+q:Nat):Int):=by rw[IntKind.wrap_i64];omega
      go_wp2_with fail
      refine KC.out.mono ?_
      rintro e w3 ⟨rfl,rfl⟩
      go_wp2_with fail
      refine (KA2.out _ HG2.out.1 HG2.out.2).mono ?_
      rintro e w4 ⟨rfl,H4⟩
      go_wp2
      go_ret3
      refine ⟨_,ys,rfl,(HO3.out.keepOff H4.out.2 HE.out.2.2.2.2.1).mono HE.out.2.2.2.2.2.2.1.size,HO.out.2,below_off HE.out.2.2.2.2.2.2.1 (grown_two HG2.out.2 H4.out.2) HE.out.2.2.2.2.2.1 HE.out.2.2.2.2.2.2.1.size⟩
     ·have e:=HXX.out
      rw[if_neg hk] at e
      subst e
      clear HXX
      generalize nck out=kk at*
      have hq:(kk != 0)=true:=bne_iff_ne.2 hk
      clear hk
      go_wp2_with fail
      refine KC.out.mono ?_
      rintro e w3 ⟨rfl,rfl⟩
      go_wp2
      go_ret3
      exact rpost_none rfl (below_off HE.out.2.2.2.2.2.2.1 HG2.out.2 HE.out.2.2.2.2.2.1 HE.out.2.2.2.2.2.2.1.size)
theorem pread_any(a:Option Addr)(len cap:Nat)(zs:List Int)(d:Int)(w:World)(h:Rd w a zs)(hl:zs.length=len)(hm:len<=140737488355328)(hc:len<=cap/\cap<=9223372036854775807):Calls Tryz.prog 197 #[.slice a len cap,.int .i64 d] w (RPost (nread zs d) w):=by
 by_cases hd:d<0∨(len:Int)<=d
 ·have hp:nread zs d=([],0,2):=by unfold nread;rw[if_pos (by rw[hl];exact hd)]
  rw[hp]
  have hd':d<0∨(¬ d<0/\(len:Int)<=d):=by omega
  clear h hl hp hd
  rcases hd' with hd|⟨hd,hd2⟩
  all_goals
   go_enter Tryz.func197,Tryz.ntmps197
   go_wp2
   go_ret3
   exact rpost_none rfl (Below.refl _ _)
 ·obtain ⟨p,rfl⟩:∃p:Nat,d=(p:Int):=⟨d.toNat,by omega⟩
  rcases h.1 with h1|⟨b,o,rfl,_,_⟩
  ·subst h1;simp at hl;omega
  ·exact pread_in b o len cap p _ zs w h hl hm hc (by omega) rfl
structure RS(Wb W:World)(g:Nat)(a:Option Addr)(len cap:Nat)(zs:List Int)(st:Option Nat):Prop where
 rst:RSt W g a len cap st
 kp:Wb.grownBy W (some g)
 rd:Rd Wb a zs
 hl:zs.length=len
 hc:len<=cap
 hd:a=none->cap=0
 off:Off a g
 gl:g<Wb.heap.size
 hm:len<=65535
theorem grown2{w1 wr w2:World}{gr:Nat}(h1:w1.grownBy wr (some gr))(h2:wr.grownBy w2 (some gr)):w1.grownBy w2 (some gr):=
 ⟨h2.os.trans h1.os,h2.tape.trans h1.tape,h2.output.trans h1.output,Nat.le_trans h1.size h2.size,fun k hk hne=>(h2.block k (Nat.lt_of_lt_of_le hk h1.size) hne).trans (h1.block k hk hne)⟩
theorem RS.rdW{Wb W:World}{g:Nat}{a:Option Addr}{len cap:Nat}{zs:List Int}{st:Option Nat}(h:RS Wb W g a len cap zs st):Rd W a zs:=h.rd.grown h.kp h.off
theorem RS.to{Wb W W':World}{g:Nat}{a:Option Addr}{len cap:Nat}{zs:List Int}{st st':Option Nat}(h:RS Wb W g a len cap zs st)(h1:RSt W' g a len cap st')(h2:W.grownBy W' (some g)):RS Wb W' g a len cap zs st':=
 ⟨h1,grown2 h.kp h2,h.rd,h.hl,h.hc,h.hd,h.off,h.gl,h.hm⟩
theorem RS.app{Wb W W':World}{g:Nat}{a:Option Addr}{len cap:Nat}{zs:List Int}{st:Option Nat}{o:Option Nat}(h:RS Wb W g a len cap zs st)(h2:W.grownBy W' o)(ho:∀j,o=some j->Wb.heap.size<=j):RS Wb W' g a len cap zs st:=by
 have hgW:g<W.heap.size:=Nat.lt_of_lt_of_le h.gl h.kp.size
 refine ⟨h.rst.same (h2.block g hgW (fun e=>by have:=ho g e.symm;have:=h.gl;omega)),?_,h.rd,h.hl,h.hc,h.hd,h.off,h.gl,h.hm⟩
 exact ⟨h2.os.trans h.kp.os,h2.tape.trans h.kp.tape,h2.output.trans h.kp.output,Nat.le_trans h.kp.size h2.size,fun k hk hne=>(h2.block k (Nat.lt_of_lt_of_le hk h.kp.size) (fun e=>by have:=ho k e.symm;omega)).trans (h.kp.block k hk hne)⟩
theorem RS.below{Wb W W':World}{g:Nat}{a:Option Addr}{len cap:Nat}{zs:List Int}{st:Option Nat}(h:RS Wb W g a len cap zs st)(h2:Below W.heap.size W W'):RS Wb W' g a len cap zs st:=h.app (o:=none) (below_grown h2) (by rintro j ⟨⟩)
theorem UOwn.kept{B g:Nat}{w w':World}{s:Sl}{us:List Nat}(h:UOwn B w s us)(hg:w.grownBy w' (some g))(hB:g<B):UOwn B w' s us:=h.keep fun j h1 h2=>hg.block j h2 (fun e=>by cases e;omega)
theorem OwnN.kept{B g:Nat}{w w':World}{v:Value}{nss:List (List ByteArray)}(h:OwnN B w v nss)(hg:w.grownBy w' (some g))(hB:g<B):OwnN B w' v nss:=h.keep fun j h1 h2=>hg.block j h2 (fun e=>by cases e;omega)
theorem OwnN.stays{B:Nat}{w w':World}{v:Value}{nss:List (List ByteArray)}(h:OwnN B w v nss)(hb:Below w.heap.size w w'):OwnN B w' v nss:=h.keep fun j _ h2=>hb.block j h2
theorem UOwn.stays{B:Nat}{w w':World}{s:Sl}{us:List Nat}(h:UOwn B w s us)(hb:Below w.heap.size w w'):UOwn B w' s us:=h.keep fun j _ h2=>hb.block j h2
theorem Own1.stays{B:Nat}{w w':World}{s:Sl}{nm:List ByteArray}(h:Own1 B w s nm)(hb:Below w.heap.size w w'):Own1 B w' s nm:=h.keep fun j _ h2 _=>hb.block j h2
theorem Own1.kept{B g:Nat}{w w':World}{s:Sl}{nm:List ByteArray}(h:Own1 B w s nm)(hg:w.grownBy w' (some g))(hB:g<B):Own1 B w' s nm:=h.keep fun j h1 h2 _=>hg.block j h2 (fun e=>by cases e;omega)
def pnu(zs:List Int)(st:Option Nat)(wd:Nat):Nat:=(val (tk zs st (wd:Int))).toNat
theorem pnu_bd(zs:List Int)(hb:∀z∈zs,0<=z/\z<=255)(st:Option Nat)(wd:Nat)(hw:wd<=4):pnu zs st wd<=4294967295/\(pnu zs st wd:Int)=val (tk zs st (wd:Int)):=by
 have h1:=tk_len zs st wd
 have h2:=val_small4 (tk zs st (wd:Int)) (tk_bytes zs st wd hb) (by omega)
 unfold pnu
 omega
theorem takenum_any(Wb w:World)(g:Nat)(a:Option Addr)(len cap:Nat)(zs:List Int)(st:Option Nat)(wd:Nat)(hw:wd=1∨wd=2∨wd=4)(h:RS Wb w g a len cap zs st) :
  Calls Tryz.prog 200 #[.pointer (some ⟨g,0,none⟩),.int .i64 wd] w fun e w'=>e=.returned (.int .u32 (pnu zs st wd:Nat))/\Hid (RS Wb w' g a len cap zs (mv len st (wd:Int))/\w.grownBy w' (some g)):=by
 have HS:Hid (RS Wb w g a len cap zs st):=h
 have hm:len<=140737488355328:=by have:=h.hm;omega
 have hbd:=pnu_bd zs h.rd.2 st wd (by omega)
 rcases hw with rfl|rfl|rfl
 ·obtain ⟨N,hN⟩:∃N,pnu zs st 1=N:=⟨_,rfl⟩
  have K:Hid (Calls Tryz.prog 201 #[.pointer (some ⟨g,0,none⟩)] w fun e w'=>e=.returned (.int .i64 (N:Int))/\Hid (RSt w' g a len cap (mv len st 1)/\w.grownBy w' (some g))):=by
   have:=rbyte_any g a len cap zs st w h.rst h.rdW h.hl h.hc hm h.hd h.off
   rw[<- hN,hbd.2]
   exact this
  rw[hN] at hbd ⊢
  have hN4:=hbd.1
  have hNm:(N:Int) % 4294967296=(N:Int):=by omega
  clear h hbd hN hm
  go_enter Tryz.func200,Tryz.ntmps200
  go_wp2_with fail
  refine K.out.mono ?_
  rintro e w1 ⟨rfl,H1⟩
  go_wp2
  go_ret
  exact ⟨by first|rfl|simp,HS.out.to H1.out.1 H1.out.2,H1.out.2⟩
 ·obtain ⟨N,hN⟩:∃N,pnu zs st 2=N:=⟨_,rfl⟩
  have K:Hid (Calls Tryz.prog 215 #[.pointer (some ⟨g,0,none⟩)] w fun e w'=>e=.returned (.int .i64 (N:Int))/\Hid (RSt w' g a len cap (mv len st 2)/\w.grownBy w' (some g))):=by
   have:=ru16_any g a len cap zs st w h.rst h.rdW h.hl h.hc hm h.hd h.off
   rw[<- hN,hbd.2]
   exact this
  rw[hN] at hbd ⊢
  have hN4:=hbd.1
  have hNm:(N:Int) % 4294967296=(N:Int):=by omega
  clear h hbd hN hm
  go_enter Tryz.func200,Tryz.ntmps200
  go_wp2_with fail
  refine K.out.mono ?_
  rintro e w1 ⟨rfl,H1⟩
  go_wp2
  go_ret
  exact ⟨by first|rfl|simp,HS.out.to H1.out.1 H1.out.2,H1.out.2⟩
 ·obtain ⟨N,hN⟩:∃N,pnu zs st 4=N:=⟨_,rfl⟩
  have K:Hid (Calls Tryz.prog 216 #[.pointer (some ⟨g,0,none⟩)] w fun e w'=>e=.returned (.int .u32 (N:Int))/\Hid (RSt w' g a len cap (mv len st 4)/\w.grownBy w' (some g))):=by
   have:=ru32_any g a len cap zs st w h.rst h.rdW h.hl h.hc hm h.hd h.off
   rw[<- hN,hbd.2]
   exact this
  rw[hN]
  clear h hbd hN hm
  go_enter Tryz.func200,Tryz.ntmps200
  go_wp2_with fail
  refine K.out.mono ?_
  rintro e w1 ⟨rfl,H1⟩
  go_wp2
  go_ret
  exact ⟨by first|rfl|simp,HS.out.to H1.out.1 H1.out.2,H1.out.2⟩
def pnus(zs:List Int)(len:Nat):Option Nat->Nat->Nat->List Nat × Option Nat
 |st,_,0=>([],st)
 |st,wd,k+1=>let r:=pnus zs len st wd k;(r.1++[pnu zs r.2 wd],mv len r.2 (wd:Int))
theorem pnus_len(zs:List Int)(len:Nat)(st:Option Nat)(wd:Nat):∀k,(pnus zs len st wd k).1.length=k
 |0=>rfl
 |k+1=>by simp[pnus,pnus_len zs len st wd k]
theorem wp_nums{w:World}{ops:Array Oper}{rest:List Oper}{o:Oper}{a:Act}{Q:Exit->Act->World->Prop}(hgd:o.guard=none)(s x:Operand)
  (ho:o.op=.call { callee:=.builtin .append,args:=#[s,x],argTypes:=#[45,45] }) (B:Nat) (s2:Sl) (us:List Nat) (hs:a.eval s=.slice s2.a s2.n s2.c) (hown:UOwn B w s2 us)
  (ao:Addr) (hx:a.eval x=.slice (some ao) 1 1) (u:Nat) (hr:RdV w (some ao) [.int .u32 (u:Int)]) (hu:u<=4294967295) (hn:us.length<=1000) (hB:B<=w.heap.size)
  (h:∀(t':Sl) w',Hid (UOwn B w' t' (us++[u]))->Hid (w.grownBy w' (Value.ownBlock (.slice s2.a s2.n s2.c))/\∀j,(Value.ownBlock (.slice s2.a s2.n s2.c))=some j->B<=j)->wpList Tryz.prog ops Q rest (a.put o.dst (.slice t'.a t'.n t'.c)) w') :
  wpList Tryz.prog ops Q (o::rest) a w:=by
 obtain ⟨xs,h1,h2,h3⟩:=hown
 refine wpList_append_row tyU w hgd s x 45 ho B _ us.length xs hs h1 _ 1 [.int .u32 (u:Int)] hx (src_of Tryz.underlying45 hr rfl (by intro v hv;simp at hv;subst hv;rfl)) (by omega) (by simp only[maxLen];omega) hB ?_
 intro v' w' xs' q1 q2 q3 q4
 obtain ⟨ao',rfl,_⟩:=q1.out.shape
 refine h ⟨ao',us.length+1,xs'.length⟩ w' ⟨xs',by simpa using q1.out,?_,?_,q4.out.1 _ ⟨0,rfl,by omega,by omega⟩ h3.2 (by intro v hv;simp at hv;subst hv;exact ⟨u,rfl,by omega,by omega⟩)⟩ ⟨q3,h1.lt⟩
 ·have:=q2.out
  rw[h2] at this
  simpa [uv] using this
 ·intro v hv
  simp only[List.mem_append,List.mem_singleton] at hv
  rcases hv with hv|rfl
  ·exact h3.1 v hv
  ·exact hu
theorem takenums_any(Wb w:World)(g:Nat)(a:Option Addr)(len cap:Nat)(zs:List Int)(st:Option Nat)(n wd:Nat)(hw:n=0∨wd=1∨wd=2∨wd=4)(hn:n<=1000)(h:RS Wb w g a len cap zs st) :
  Calls Tryz.prog 181 #[.pointer (some ⟨g,0,none⟩),.int .i64 n,.int .i64 wd] w fun e w'=>∃s:Sl,e=.returned (.slice s.a s.n s.c)/\Hid (UOwn Wb.heap.size w' s (pnus zs len st wd n).1/\RS Wb w' g a len cap zs (pnus zs len st wd n).2):=by
 have HS:Hid (RS Wb w g a len cap zs st):=h
 have HBD:Hid (∀z∈zs,0<=z/\z<=255):=h.rd.2
 clear h
 go_enter Tryz.func181,Tryz.ntmps181
 go_wp2_with fail
 go_loopw [7,9] (fun v i wr=>∃(k:Nat) (s:Sl),k<=n/\i=.int .i64 (k:Int)/\v=.slice s.a s.n s.c/\Hid (UOwn Wb.heap.size wr s (pnus zs len st wd k).1/\RS Wb wr g a len cap zs (pnus zs len st wd k).2)) (fun _ i _=>n - (intOf i).toNat)
 case atStart=>exact ⟨0,⟨none,0,0⟩,Nat.zero_le _,rfl,rfl,nil_uown _ _,HS.out⟩
 case round=>
  obtain ⟨k,s,hk,rfl,rfl,HG⟩:=hrel
  by_cases hlt:k<n
  ·have hlt':(k:Int)<(n:Int):=by omega
   have hw':wd=1∨wd=2∨wd=4:=by omega
   have hE:(pnus zs len st wd (k+1)).1=(pnus zs len st wd k).1++[pnu zs (pnus zs len st wd k).2 wd]/\(pnus zs len st wd (k+1)).2=mv len (pnus zs len st wd k).2 (wd:Int):=⟨rfl,rfl⟩
   have HE:Hid ((pnus zs len st wd (k+1)).1=(pnus zs len st wd k).1++[pnu zs (pnus zs len st wd k).2 wd]/\(pnus zs len st wd (k+1)).2=mv len (pnus zs len st wd k).2 (wd:Int)):=hE
   have HLN:Hid ((pnus zs len st wd k).1.length<=1000):=by rw[pnus_len];show k<=1000;omega
   clear hE
   generalize pnus zs len st wd k=r0 at*
   have K:Hid (Calls Tryz.prog 200 #[.pointer (some ⟨g,0,none⟩),.int .i64 wd] wr fun e w'=>e=.returned (.int .u32 (pnu zs r0.2 wd:Nat))/\Hid (RS Wb w' g a len cap zs (mv len r0.2 (wd:Int))/\wr.grownBy w' (some g))):=takenum_any Wb wr g a len cap zs r0.2 wd hw' HG.out.2
   have hub:=(pnu_bd zs HBD.out r0.2 wd (by omega)).1
   generalize pnu zs r0.2 wd=u at*
   generalize mv len r0.2 (wd:Int)=st1 at*
   go_wp2_with fail
   refine K.out.mono ?_
   rintro e w1 ⟨rfl,H1⟩
   have HU5:Hid (UOwn Wb.heap.size (w1.alloc (.cells #[.int .u32 (u:Int)] 43)) s r0.1/\RS Wb (w1.alloc (.cells #[.int .u32 (u:Int)] 43)) g a len cap zs st1):=⟨(HG.out.1.kept H1.out.2 HG.out.2.gl).stays ((Below.refl _ _).alloc (Nat.le_refl _) _),H1.out.1.below ((Below.refl _ _).alloc (Nat.le_refl _) _)⟩
   have HO5:Hid (RdV (w1.alloc (.cells #[.int .u32 (u:Int)] 43)) (some ⟨w1.heap.size,0,none⟩) [.int .u32 (u:Int)]):=one_u w1 u
   go_wp2_with (at_builtin;refine wp_nums rfl _ _ rfl Wb.heap.size s r0.1 rfl HU5.out.1 ⟨w1.heap.size,0,none⟩ rfl u HO5.out hub HLN.out HU5.out.2.kp.size ?_;intro t6 W6 HG6 HX6)
   refine ⟨⟨k+1,t6,by omega,by go_num,rfl,?_⟩,by simp[intOf];omega⟩
   refine ⟨by rw[HE.out.1];exact HG6.out,by rw[HE.out.2];exact HU5.out.2.app HX6.out.1 HX6.out.2⟩
  ·have hge:¬ (k:Int)<(n:Int):=by omega
   have hkn:k=n:=by omega
   subst hkn
   go_wp2_with fail
   go_ret
   exact ⟨s,rfl,HG⟩
def pnm1(zs:List Int)(len:Nat)(st:Option Nat):List ByteArray × Option Nat:=((nread zs (pos st)).1,jm len st (if (nread zs (pos st)).2.2=0 then (nread zs (pos st)).2.1 else -1))
def pnms(zs:List Int)(len:Nat)(st:Option Nat):Nat->List (List ByteArray) × Option Nat
 |0=>([],st)
 |k+1=>((pnms zs len st k).1++[(pnm1 zs len (pnms zs len st k).2).1],(pnm1 zs len (pnms zs len st k).2).2)
theorem pnms_len(zs:List Int)(len:Nat)(st:Option Nat):∀k,(pnms zs len st k).1.length=k
 |0=>rfl
 |k+1=>by simp[pnms,pnms_len zs len st k]
theorem one_n(w:World)(s:Sl):RdV (w.alloc (.cells #[.slice s.a s.n s.c] 23)) (some ⟨w.heap.size,0,none⟩) [.slice s.a s.n s.c]:=by
 refine .inr ⟨w.heap.size,0,rfl,by simp,fun i hi=>?_⟩
 have:i=0:=by simp at hi;omega
 subst this
 unfold World.cell?
 rw[heap_alloc_new]
 rfl
def RP2(B:Nat)(r:List ByteArray × Int × Int)(w:World)(e:Ending)(w':World):Prop:=
 ∃s:Sl,e=.returned (.tuple #[.slice s.a s.n s.c,.int .i64 r.2.1,.int .i64 r.2.2])/\Hid (Own1 B w' s r.1/\Below w.heap.size w w')
theorem rp2{r:List ByteArray × Int × Int}{w:World}{e:Ending}{w':World}{B:Nat}(hB:B<=w.heap.size)(h:RPost r w e w'):RP2 B r w e w':=by
 obtain ⟨v,ys,rfl,H⟩:=h
 obtain ⟨h1,h2,h3⟩:=H.out
 obtain ⟨ao,rfl,_⟩:=h1.shape
 exact ⟨⟨ao,r.1.length,ys.length⟩,rfl,⟨ys,h1.mono hB,h2⟩,h3⟩
theorem takenames_any(Wb w:World)(g:Nat)(a:Option Addr)(len cap:Nat)(zs:List Int)(st:Option Nat)(n:Nat)(a0:Option Addr)(c0:Nat)(hn:n<=1000)(hr0:∀W,Wb.grownBy W (some g)->Rd W a0 zs)(hc0:len<=c0/\c0<=9223372036854775807)(h:RS Wb w g a len cap zs st) :
  Calls Tryz.prog 180 #[.pointer (some ⟨g,0,none⟩),.slice a0 len c0,.int .i64 n] w fun e w'=>∃s:Sl,e=.returned (.slice s.a s.n s.c)/\Hid (OwnN Wb.heap.size w' (.slice s.a s.n s.c) (pnms zs len st n).1/\RS Wb w' g a len cap zs (pnms zs len st n).2):=by
 have HS:Hid (RS Wb w g a len cap zs st):=h
 have HR0:Hid ((∀W,Wb.grownBy W (some g)->Rd W a0 zs)/\zs.length=len/\len<=65535/\len<=c0/\c0<=9223372036854775807):=⟨hr0,h.hl,h.hm,hc0⟩
 clear h hr0 hc0
 go_enter Tryz.func180,Tryz.ntmps180
 go_wp2_with fail
 go_loopw [7,12] (fun v i wr=>∃(k:Nat) (s:Sl),k<=n/\i=.int .i64 (k:Int)/\v=.slice s.a s.n s.c/\Hid (OwnN Wb.heap.size wr (.slice s.a s.n s.c) (pnms zs len st k).1/\RS Wb wr g a len cap zs (pnms zs len st k).2)) (fun _ i _=>n - (intOf i).toNat)
 case atStart=>exact ⟨0,⟨none,0,0⟩,Nat.zero_le _,rfl,rfl,OwnN.nil _ _,HS.out⟩
 case round=>
  obtain ⟨k,s,hk,rfl,rfl,HG⟩:=hrel
  by_cases hlt:k<n
  ·have hlt':(k:Int)<(n:Int):=by omega
   have HE:Hid ((pnms zs len st (k+1)).1=(pnms zs len st k).1++[(pnm1 zs len (pnms zs len st k).2).1]/\(pnms zs len st (k+1)).2=(pnm1 zs len (pnms zs len st k).2).2):=⟨rfl,rfl⟩
   have HLN:Hid ((pnms zs len st k).1.length<=1000):=by rw[pnms_len];show k<=1000;omega
   generalize pnms zs len st k=r0 at*
   have KA:Hid (Calls Tryz.prog 198 #[.pointer (some ⟨g,0,none⟩)] wr fun e w'=>e=.returned (.int .i64 (pos r0.2))/\Hid (RSt w' g a len cap r0.2/\wr.grownBy w' (some g))):=rat_any g a len cap zs r0.2 wr HG.out.2.rst HG.out.2.rdW HG.out.2.hl HG.out.2.hc (by have:=HG.out.2.hm;omega) HG.out.2.hd HG.out.2.off
   have KR:Hid (∀W,Wb.grownBy W (some g)->Calls Tryz.prog 197 #[.slice a0 len c0,.int .i64 (pos r0.2)] W (RP2 Wb.heap.size (nread zs (pos r0.2)) W)):=by
    intro W hW
    obtain ⟨q1,q3,q4,q5⟩:=HR0.out
    refine (pread_any a0 len c0 zs (pos r0.2) W (q1 W hW) q3 (by omega) q5).mono ?_
    intro e w' hh
    exact rp2 hW.size hh
   have KJ:Hid (∀W x,RS Wb W g a len cap zs r0.2->Calls Tryz.prog 199 #[.pointer (some ⟨g,0,none⟩),.int .i64 x] W fun e w'=>e=.returned (.tuple #[])/\Hid (RSt w' g a len cap (jm len r0.2 x)/\W.grownBy w' (some g))):=fun W x hW=>rjump_any g a len cap zs r0.2 x W hW.rst hW.rdW hW.hl hW.hc (by have:=hW.hm;omega) hW.hd hW.off
   have HX:Hid (pnm1 zs len r0.2=((nread zs (pos r0.2)).1,jm len r0.2 (if (nread zs (pos r0.2)).2.2=0 then (nread zs (pos r0.2)).2.1 else -1))):=(show _=_ from rfl)
   generalize nread zs (pos r0.2)=nr at*
   obtain ⟨nm,nx,er⟩:=nr
   generalize pos r0.2=pp at*
   simp only at KR HX
   go_wp2_with fail
   refine KA.out.mono ?_
   rintro e w1 ⟨rfl,H1⟩
   have HS1:Hid (RS Wb w1 g a len cap zs r0.2/\OwnN Wb.heap.size w1 (.slice s.a s.n s.c) r0.1):=⟨HG.out.2.to H1.out.1 H1.out.2,HG.out.1.kept H1.out.2 HG.out.2.gl⟩
   clear KA H1
   go_wp2_with fail
   refine (KR.out _ HS1.out.1.kp).mono ?_
   rintro e w2 ⟨s2,rfl,H2⟩
   simp only at H2
   have HS2:Hid (RS Wb w2 g a len cap zs r0.2/\OwnN Wb.heap.size w2 (.slice s.a s.n s.c) r0.1/\Own1 Wb.heap.size w2 s2 nm):=⟨HS1.out.1.below H2.out.2,HS1.out.2.stays H2.out.2,H2.out.1⟩
   clear KR HS1 H2
   obtain ⟨y,hy⟩:∃y,y=(if er=0 then nx else -1):=⟨_,rfl⟩
   have HY:Hid (pnm1 zs len r0.2=(nm,jm len r0.2 y)):=by show _=_;rw[hy];exact HX.out
   clear HX
   by_cases he:er=0
   ·have he':(er != 0)=false:=by simp[he]
    rw[if_pos he] at hy
    subst hy
    clear he
    go_wp2_with fail
    refine (KJ.out _ _ HS2.out.1).mono ?_
    rintro e w3 ⟨rfl,H3⟩
    have hnb:Below w3.heap.size w3 (w3.alloc (.cells #[.slice s2.a s2.n s2.c] 23)):=(Below.refl _ _).alloc (Nat.le_refl _) _
    have HU5:Hid (RS Wb (w3.alloc (.cells #[.slice s2.a s2.n s2.c] 23)) g a len cap zs (jm len r0.2 y)/\OwnN Wb.heap.size (w3.alloc (.cells #[.slice s2.a s2.n s2.c] 23)) (.slice s.a s.n s.c) r0.1/\Own1 Wb.heap.size (w3.alloc (.cells #[.slice s2.a s2.n s2.c] 23)) s2 nm):=⟨(HS2.out.1.to H3.out.1 H3.out.2).below hnb,(HS2.out.2.1.kept H3.out.2 HS2.out.1.gl).stays hnb,(HS2.out.2.2.kept H3.out.2 HS2.out.1.gl).stays hnb⟩
    have HO5:Hid (RdV (w3.alloc (.cells #[.slice s2.a s2.n s2.c] 23)) (some ⟨w3.heap.size,0,none⟩) [.slice s2.a s2.n s2.c]):=one_n w3 s2
    clear hnb H3 HS2
    go_wp2_with (at_builtin;refine wp_names rfl _ _ rfl Wb.heap.size (.slice s.a s.n s.c) r0.1 rfl HU5.out.2.1 ⟨w3.heap.size,0,none⟩ rfl s2 nm HO5.out HU5.out.2.2 HLN.out HU5.out.1.kp.size ?_;intro t6 W6 HG6 HX6)
    refine ⟨⟨k+1,t6,by omega,by go_num,rfl,?_⟩,by simp[intOf];omega⟩
    rw[HE.out.1,HE.out.2,HY.out]
    exact ⟨HG6.out,HU5.out.1.app HX6.out.1 HX6.out.2⟩
   ·have he':(er != 0)=true:=by simp[he]
    rw[if_neg he] at hy
    subst hy
    clear he
    go_wp2_with fail
    refine (KJ.out _ _ HS2.out.1).mono ?_
    rintro e w3 ⟨rfl,H3⟩
    have hnb:Below w3.heap.size w3 (w3.alloc (.cells #[.slice s2.a s2.n s2.c] 23)):=(Below.refl _ _).alloc (Nat.le_refl _) _
    have HU5:Hid (RS Wb (w3.alloc (.cells #[.slice s2.a s2.n s2.c] 23)) g a len cap zs (jm len r0.2 (-1))/\OwnN Wb.heap.size (w3.alloc (.cells #[.slice s2.a s2.n s2.c] 23)) (.slice s.a s.n s.c) r0.1/\Own1 Wb.heap.size (w3.alloc (.cells #[.slice s2.a s2.n s2.c] 23)) s2 nm):=⟨(HS2.out.1.to H3.out.1 H3.out.2).below hnb,(HS2.out.2.1.kept H3.out.2 HS2.out.1.gl).stays hnb,(HS2.out.2.2.kept H3.out.2 HS2.out.1.gl).stays hnb⟩
    have HO5:Hid (RdV (w3.alloc (.cells #[.slice s2.a s2.n s2.c] 23)) (some ⟨w3.heap.size,0,none⟩) [.slice s2.a s2.n s2.c]):=one_n w3 s2
    clear hnb H3 HS2
    go_wp2_with (at_builtin;refine wp_names rfl _ _ rfl Wb.heap.size (.slice s.a s.n s.c) r0.1 rfl HU5.out.2.1 ⟨w3.heap.size,0,none⟩ rfl s2 nm HO5.out HU5.out.2.2 HLN.out HU5.out.1.kp.size ?_;intro t6 W6 HG6 HX6)
    refine ⟨⟨k+1,t6,by omega,by go_num,rfl,?_⟩,by simp[intOf];omega⟩
    rw[HE.out.1,HE.out.2,HY.out]
    exact ⟨HG6.out,HU5.out.1.app HX6.out.1 HX6.out.2⟩
  ·have hge:¬ (k:Int)<(n:Int):=by omega
   have hkn:k=n:=by omega
   subst hkn
   go_wp2_with fail
   go_ret
   exact ⟨s,rfl,HG⟩
end Go.Proofs.YtjkljpdolhglcaaGreatDoor
