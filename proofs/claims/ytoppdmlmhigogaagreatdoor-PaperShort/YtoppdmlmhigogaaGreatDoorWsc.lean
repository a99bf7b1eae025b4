/- Texts laid together, in parts: Hf Oca Occ Ge Nxk Qa Ak Un Qj Eb Zca Pf Pg Ph Pq Pi Pj Pk Pl Pm. -/
import Derived.Test.YtoppdmlmhigogaaGreatDoorWsb
import Derived.LaidEqlPtr
import Derived.WalkSpells
import Derived.Deep.RegionHeld3
import Derived.Deep.RegionLaw
import Derived.Deep.QuietTactic
import Derived.BigQuiet
import Derived.Deep.CutBlock
import Derived.Lib.Bytealg
import Derived.WalkLawsBesides
import Derived.Lib.MakeNoZero
import Derived.Lib.Builder
import Derived.Lib.UnsafeStr
import Derived.WalkKit
set_option maxRecDepth 100000
set_option maxHeartbeats 8000000
set_option linter.unusedVariables false
set_option linter.unusedSimpArgs false
namespace Go.Proofs.YtoppdmlmhigogaaGreatDoor
open Go.ChangeShapes Go.WideShapes Go.ChangeAt Go.RowKit
theorem nsErr_drop'(l:List (List ByteArray))(k:Nat)(h:∀n∈l.take k,nck n=0):nsErr l=nsErr (l.drop k):=by
 induction l generalizing k with
 |nil=>simp
 |cons x l ih=>
  cases k with
  |zero=>simp
  |succ k=>
   have h0:nck x=0:=h x (by simp)
   simp only[nsErr,List.drop_succ_cons]
   rw[if_pos h0]
   exact ih k (fun n hn=>h n (by simp[hn]))
structure Bd(d:Dat):Prop where
 n:d.ns.length<=1000
 nl:∀x∈d.ns,x.length<=1000000
 u:d.us.length<=1000
 t:tsum d<=1000000000000
 r:d.raw.length<=1000000000000
theorem sum_le(l:List Nat)(m:Nat)(h:∀x∈l,x<=m):l.sum<=l.length*m:=by
 induction l with
 |nil=>simp
 |cons a l ih=>
  have h1:=h a (by simp)
  have h2:=ih (fun x hx=>h x (by simp[hx]))
  simp only[List.sum_cons,List.length_cons,Nat.succ_mul]
  omega
theorem nsz_labs(ss:List ByteArray)(h:labsOk ss):nsz ss<=64*ss.length+1:=by
 have h1:(nby ss).length<=64*ss.length:=by
  induction ss with
  |nil=>simp[nby]
  |cons a l ih=>
   have e:nby (a::l)=(a.size:Int)::(nums a++nby l):=by simp[nby]
   have h0:=h a (by simp)
   have h2:=ih (fun x hx=>h x (by simp[hx]))
   have h3:a.size<=63:=by unfold chk at h0;split at h0 <;> simp_all <;> omega
   rw[e]
   simp[nums_len]
   omega
 have:=nby_len ss
 omega
theorem nsErr_zero{l:List (List ByteArray)}(h:nsErr l=0):∀n∈l,nck n=0:=by
 induction l with
 |nil=>simp
 |cons a l ih=>
  simp only[nsErr] at h
  by_cases ha:nck a=0
  ·rw[if_pos ha] at h
   intro n hn
   rcases List.mem_cons.1 hn with rfl|hn
   ·exact ha
   ·exact ih h n hn
  ·rw[if_neg ha] at h;exact absurd h ha
theorem fs_wd(t:Nat):(fs t).wd=0∨(fs t).wd=1∨(fs t).wd=2∨(fs t).wd=4:=by
 rcases fs_cases t with ⟨_,e⟩|⟨_,e⟩|⟨_,e⟩|⟨_,e⟩|⟨_,e⟩|⟨_,e⟩|⟨_,e⟩|⟨_,e⟩|⟨_,e⟩ <;> rw[e] <;> simp
theorem fs_tl(t:Nat):(fs t).tl<=1:=by
 rcases fs_cases t with ⟨_,e⟩|⟨_,e⟩|⟨_,e⟩|⟨_,e⟩|⟨_,e⟩|⟨_,e⟩|⟨_,e⟩|⟨_,e⟩|⟨_,e⟩ <;> rw[e] <;> simp
theorem fs_tags(t:Nat)(d:Dat)(h:cntB (fs t) d=true):(fs t).tg<=d.ts.length/\(fs t).tl<=d.ts.length:=by
 unfold cntB at h
 simp only[Bool.and_eq_true] at h
 obtain ⟨⟨⟨_,_⟩,h⟩,_⟩:=h
 rcases fs_cases t with ⟨_,e⟩|⟨_,e⟩|⟨_,e⟩|⟨_,e⟩|⟨_,e⟩|⟨_,e⟩|⟨_,e⟩|⟨_,e⟩|⟨_,e⟩ <;> rw[e] at h ⊢ <;> simp
 simp only at h
 rw[fitB_ge _ _ (by omega)] at h
 simp at h
 omega
def PkSt(w W:World)(b g:Nat)(f:Fs)(x:DA)(d:Dat):Prop:=DBox W b x/\FBox W g f/\DRd W x d/\Below w.heap.size w W
theorem PkSt.go{w W W':World}{b g:Nat}{f:Fs}{x:DA}{d:Dat}(h:PkSt w W b g f x d)(hb:Below W.heap.size W W'):PkSt w W' b g f x d:=
 ⟨h.1.below hb,h.2.1.below hb,h.2.2.1.below hb,h.2.2.2.trans (hb.mono h.2.2.2.size)⟩
theorem PkSt.new{w W:World}{b:Nat}(f:Fs){x:DA}{d:Dat}(h1:DBox W b x)(h2:DRd W x d)(h3:Below w.heap.size w W):PkSt w (W.alloc (.cells #[.int .i64 f.nn,.int .i64 f.nf,.int .i64 f.nu,.int .i64 f.wd,.int .i64 f.nt,.int .i64 f.tg,.int .i64 f.tl,.int .i64 f.nr] 146)) b W.heap.size f x d:=by
 have hb:Below W.heap.size W (W.alloc (.cells #[.int .i64 f.nn,.int .i64 f.nf,.int .i64 f.nu,.int .i64 f.wd,.int .i64 f.nt,.int .i64 f.tg,.int .i64 f.tl,.int .i64 f.nr] 146)):=(Below.refl _ _).alloc (Nat.le_refl _) _
 exact ⟨h1.below hb,FBox.new W f,h2.below hb,h3.trans (hb.mono h3.size)⟩
theorem check_any(t:Nat)(x:DA)(d:Dat)(w:World)(h:DRd w x d)(hB:Bd d) :
  Calls Tryz.prog 63 #[.int .u16 t,.agg #[.slice x.p1.a x.p1.n x.p1.c,.slice x.p2.a x.p2.n x.p2.c,.slice x.p3.a x.p3.n x.p3.c,.slice x.p4.a x.p4.n x.p4.c]] w fun e w'=>e=.returned (.int .i64 (checkF t d))/\Hid (Below w.heap.size w w'):=by
 have hb0:Below w.heap.size w (w.alloc (.cells #[.slice x.p1.a x.p1.n x.p1.c,.slice x.p2.a x.p2.n x.p2.c,.slice x.p3.a x.p3.n x.p3.c,.slice x.p4.a x.p4.n x.p4.c] 41)):=(Below.refl _ _).alloc (Nat.le_refl _) _
 have H:Hid (DBox (w.alloc (.cells #[.slice x.p1.a x.p1.n x.p1.c,.slice x.p2.a x.p2.n x.p2.c,.slice x.p3.a x.p3.n x.p3.c,.slice x.p4.a x.p4.n x.p4.c] 41)) w.heap.size x/\DRd (w.alloc (.cells #[.slice x.p1.a x.p1.n x.p1.c,.slice x.p2.a x.p2.n x.p2.c,.slice x.p3.a x.p3.n x.p3.c,.slice x.p4.a x.p4.n x.p4.c] 41)) x d/\Below w.heap.size w (w.alloc (.cells #[.slice x.p1.a x.p1.n x.p1.c,.slice x.p2.a x.p2.n x.p2.c,.slice x.p3.a x.p3.n x.p3.c,.slice x.p4.a x.p4.n x.p4.c] 41))):=⟨DBox.new w x,h.below hb0,hb0⟩
 have KC:Hid (∀W,DRd W x d->Calls Tryz.prog 101 #[.agg #[.int .i64 (fs t).nn,.int .i64 (fs t).nf,.int .i64 (fs t).nu,.int .i64 (fs t).wd,.int .i64 (fs t).nt,.int .i64 (fs t).tg,.int .i64 (fs t).tl,.int .i64 (fs t).nr],.agg #[.slice x.p1.a x.p1.n x.p1.c,.slice x.p2.a x.p2.n x.p2.c,.slice x.p3.a x.p3.n x.p3.c,.slice x.p4.a x.p4.n x.p4.c]] W fun e w'=>e=.returned (.bool (cntB (fs t) d))/\Hid (Below W.heap.size W w')):=fun W hd=>counted_any (fs t) x d W hd
 have KW:Hid (cntB (fs t) d=true->∀W,DRd W x d->Calls Tryz.prog 102 #[.agg #[.int .i64 (fs t).nn,.int .i64 (fs t).nf,.int .i64 (fs t).nu,.int .i64 (fs t).wd,.int .i64 (fs t).nt,.int .i64 (fs t).tg,.int .i64 (fs t).tl,.int .i64 (fs t).nr],.agg #[.slice x.p1.a x.p1.n x.p1.c,.slice x.p2.a x.p2.n x.p2.c,.slice x.p3.a x.p3.n x.p3.c,.slice x.p4.a x.p4.n x.p4.c]] W fun e w'=>e=.returned (.bool (wthB (fs t) d))/\Hid (Below W.heap.size W w')):=fun hc W hd=>within_any (fs t) x d W hd (fs_wd t) (fs_tags t d hc).1 (fs_tags t d hc).2
 have KZ:Hid (cntB (fs t) d=true->wthB (fs t) d=true->nsErr d.ns=0->∀W,DRd W x d->Calls Tryz.prog 103 #[.agg #[.int .i64 (fs t).nn,.int .i64 (fs t).nf,.int .i64 (fs t).nu,.int .i64 (fs t).wd,.int .i64 (fs t).nt,.int .i64 (fs t).tg,.int .i64 (fs t).tl,.int .i64 (fs t).nr],.agg #[.slice x.p1.a x.p1.n x.p1.c,.slice x.p2.a x.p2.n x.p2.c,.slice x.p3.a x.p3.n x.p3.c,.slice x.p4.a x.p4.n x.p4.c]] W fun e w'=>e=.returned (.int .i64 (sizesF t d:Nat))/\Hid (Below W.heap.size W w')):=by
  intro h1 h2 h3 W hd
  have h4:fitsB t d=true:=by rw[<- fit_eq,h1,h2];rfl
  rw[<- psz_eq t d h4]
  refine psize5_any (fs t) x d W hd (fs_tl t) ?_
  have h5:nsum d<=1000*255:=by
   have:=sum_le (d.ns.map nsz) 255 (by
    intro y hy
    obtain ⟨n,hn,rfl⟩:=List.mem_map.1 hy
    exact (nck_small (nsErr_zero h3 n hn)).1)
   rw[List.length_map] at this
   have h6:d.ns.length*255<=1000*255:=Nat.mul_le_mul_right _ hB.n
   unfold nsum
   omega
  have h7:(fs t).wd*d.us.length<=4*1000:=Nat.mul_le_mul (by have:=fs_wd t;omega) hB.u
  have h8:=hB.t
  have h9:=hB.r
  omega
 have KO:Hid (∀W,Calls Tryz.prog 100 #[.int .u16 t] W fun e w'=>e=.returned (.agg #[.int .i64 (fs t).nn,.int .i64 (fs t).nf,.int .i64 (fs t).nu,.int .i64 (fs t).wd,.int .i64 (fs t).nt,.int .i64 (fs t).tg,.int .i64 (fs t).tl,.int .i64 (fs t).nr])/\Hid (Below W.heap.size W w')):=fun W=>fieldsof_any t W
 have hc1:x.p1.n<=9223372036854775807:=Nat.le_trans h.h1.cap.1 h.h1.cap.2
 have HL:Hid (d.ns.length=x.p1.n):=h.h1.len
 have HNB:Hid (∀n∈d.ns,labsOk n->nsz n<=1000000000000000):=by
  intro n hn hl
  have h1:=nsz_labs n hl
  have h2:=hB.nl n hn
  omega
 have HQ:Hid (checkF t d=if mayT t then (if (cntB (fs t) d && wthB (fs t) d) then (if nsErr d.ns=0 then (if 65535<sizesF t d then 3 else 0) else nsErr d.ns) else 7) else 6):=by
  show _=_
  rw[fit_eq]
  rfl
 obtain ⟨C,hC⟩:∃C,checkF t d=C:=⟨_,rfl⟩
 rw[hC] at HQ ⊢
 have KH:Hid (∀W,Calls Tryz.prog 99 #[.int .u16 t] W fun e w'=>e=.returned (.bool (mayT t))/\w'=W):=fun W=>hasdata_any t W
 clear hC h hb0 hB
 generalize hmay:mayT t=mt at*
 generalize hcnt:cntB (fs t) d=ct at*
 generalize hwth:wthB (fs t) d=wt at*
 generalize (fs t)=f at*
 generalize hsz:sizesF t d=sz at*
 clear hmay hcnt hwth hsz
 obtain ⟨nn,nf,nu,wd,nt,tg,tl,nr⟩:=f
 obtain ⟨⟨a1,n1,k1⟩,⟨a2,n2,k2⟩,⟨a3,n3,k3⟩,⟨a4,n4,k4⟩⟩:=x
 simp only at H KC KW KZ KO hc1 HL ⊢
 go_enter Tryz.func63,Tryz.ntmps63
 go_wp2_with fail
 generalize (w.alloc (.cells #[.slice a1 n1 k1,.slice a2 n2 k2,.slice a3 n3 k3,.slice a4 n4 k4] 41))=W1 at*
 obtain ⟨b,hb⟩:∃b,b=w.heap.size:=⟨_,rfl⟩
 rw[<- hb] at H ⊢
 have Hb:Hid (b=w.heap.size):=hb
 clear hb
 refine (KH.out W1).mono ?_
 rintro e W1 ⟨rfl,rfl⟩
 clear KH
 cases mt with
 |false=>
  have HE:Hid (C=6):=by show C=6;have:=HQ.out;simpa using this
  clear HQ KC KW KZ KO
  go_wp2_with fail
  go_ret
  exact ⟨by rw[HE.out];rfl,by have:=H.out.2.2;rw[Hb.out] at this;exact this⟩
 |true=>
 go_wp2_with fail
 refine (KO.out W1).mono ?_
 rintro e W2 ⟨rfl,H2⟩
 have H3:Hid (PkSt w (W2.alloc (.cells #[.int .i64 nn,.int .i64 nf,.int .i64 nu,.int .i64 wd,.int .i64 nt,.int .i64 tg,.int .i64 tl,.int .i64 nr] 146)) b W2.heap.size ⟨nn,nf,nu,wd,nt,tg,tl,nr⟩ ⟨⟨a1,n1,k1⟩,⟨a2,n2,k2⟩,⟨a3,n3,k3⟩,⟨a4,n4,k4⟩⟩ d):=PkSt.new ⟨nn,nf,nu,wd,nt,tg,tl,nr⟩ (H.out.1.below H2.out) (H.out.2.1.below H2.out) (by have:=H.out.2.2;rw[Hb.out] at this;exact this.trans (H2.out.mono this.size))
 clear H H2 KO
 go_upto_region 4 with fail
 generalize (W2.alloc (.cells #[.int .i64 nn,.int .i64 nf,.int .i64 nu,.int .i64 wd,.int .i64 nt,.int .i64 tg,.int .i64 tl,.int .i64 nr] 146))=W3 at*
 generalize W2.heap.size=g at*
 obtain ⟨s0,s1,s2,s3,s4,s5,s6,s7,_⟩:=H3.out.2.1
 have c0:=H3.out.1.1
 have c1:=H3.out.1.2.1
 have c2:=H3.out.1.2.2.1
 have c3:=H3.out.1.2.2.2.1
 simp only at s0 s1 s2 s3 s4 s5 s6 s7 c0 c1 c2 c3
 go_wp2_with fail
 refine (KC.out W3 H3.out.2.2.1).mono ?_
 rintro e W4 ⟨rfl,H4⟩
 have H5:Hid (PkSt w W4 b g ⟨nn,nf,nu,wd,nt,tg,tl,nr⟩ ⟨⟨a1,n1,k1⟩,⟨a2,n2,k2⟩,⟨a3,n3,k3⟩,⟨a4,n4,k4⟩⟩ d):=H3.out.go H4.out
 clear H3 H4 KC s0 s1 s2 s3 s4 s5 s6 s7 c0 c1 c2 c3
 cases ct with
 |false=>
  have HE:Hid (C=7):=by show C=7;have:=HQ.out;simpa using this
  clear HQ KZ KW
  go_wp2_with fail
  go_ret
  exact ⟨by rw[HE.out];rfl,H5.out.2.2.2⟩
 |true=>
 obtain ⟨s0,s1,s2,s3,s4,s5,s6,s7,_⟩:=H5.out.2.1
 have c0:=H5.out.1.1
 have c1:=H5.out.1.2.1
 have c2:=H5.out.1.2.2.1
 have c3:=H5.out.1.2.2.2.1
 simp only at s0 s1 s2 s3 s4 s5 s6 s7 c0 c1 c2 c3
 go_wp2_with fail
 refine (KW.out (by trivial) W4 H5.out.2.2.1).mono ?_
 rintro e W5 ⟨rfl,H4⟩
 have H6:Hid (PkSt w W5 b g ⟨nn,nf,nu,wd,nt,tg,tl,nr⟩ ⟨⟨a1,n1,k1⟩,⟨a2,n2,k2⟩,⟨a3,n3,k3⟩,⟨a4,n4,k4⟩⟩ d):=H5.out.go H4.out
 clear H5 H4 KW s0 s1 s2 s3 s4 s5 s6 s7 c0 c1 c2 c3
 cases wt with
 |false=>
  have HE:Hid (C=7):=by show C=7;have:=HQ.out;simpa using this
  clear HQ KZ
  go_wp2_with fail
  go_ret
  exact ⟨by rw[HE.out];rfl,H6.out.2.2.2⟩
 |true=>
 have HQ2:Hid (C=if nsErr d.ns=0 then (if 65535<sz then 3 else 0) else nsErr d.ns):=by show C=_;have:=HQ.out;simpa using this
 clear HQ
 have c0:=H6.out.1.1
 simp only at c0
 go_wp2_with fail
 go_loopw [27] (fun i wr=>wr=W5/\∃k:Nat,k<=n1/\i=.int .i64 (k:Int)/\Hid (∀n∈d.ns.take k,nck n=0)) (fun i _=>n1 - (intOf i).toNat)
 case atStart=>exact ⟨rfl,0,Nat.zero_le _,rfl,by intro n hn;simp at hn⟩
 case round=>
  obtain ⟨hwr,k,hk,rfl,HA⟩:=hrel
  subst hwr
  by_cases hlt:k<n1
  ·have hlt':(k:Int)<(n1:Int):=by omega
   have hki:k<d.ns.length:=by rw[HL.out];exact hlt
   obtain ⟨B1,o1,ha1,hl1,z1,hz1,hr1⟩:=H6.out.2.2.1.h1.at k hki
   simp only at ha1
   subst ha1
   have HD:Hid (nsErr d.ns=if nck d.ns[k]=0 then nsErr (d.ns.drop (k+1)) else nck d.ns[k]):=by
    show _=_
    rw[nsErr_drop' d.ns k HA.out,List.drop_eq_getElem_cons hki]
    rfl
   have HA2:Hid (nck d.ns[k]=0->∀n∈d.ns.take (k+1),nck n=0):=by
    intro h0 n hn
    rw[List.take_succ_eq_append_getElem hki] at hn
    simp only[List.mem_append,List.mem_singleton] at hn
    rcases hn with hn|rfl
    ·exact HA.out n hn
    ·exact h0
   have KC:Hid (∀W,W=wr->Calls Tryz.prog 19 #[.slice z1.a z1.n z1.c] W fun e w'=>e=.returned (.int .i64 (nck d.ns[k]))/\w'=W):=by
    intro W e
    subst e
    exact pcheck_wide z1.a z1.n z1.c d.ns[k] W hr1.rd hr1.len (HNB.out _ (List.getElem_mem _)) (Nat.le_trans hr1.cap.1 hr1.cap.2) hr1.z63
   clear hr1 HA
   generalize nck d.ns[k]=q at*
   generalize z1.a=za at*
   generalize z1.n=zn at*
   generalize z1.c=zc at*
   by_cases hq:q=0
   ·have hq':(q != 0)=false:=by simp[hq]
    have HA3:=HA2.out hq
    have HA4:Hid (∀n∈d.ns.take (k+1),nck n=0):=HA3
    clear HA3 HA2 HD hq
    go_wp2_with fail
    refine (KC.out _ rfl).mono ?_
    rintro e Wx ⟨rfl,rfl⟩
    go_wp2_with fail
    refine ⟨⟨by first|rfl|trivial,k+1,by omega,by go_num,HA4⟩,?_⟩
    simp[intOf];omega
   ·have hq':(q != 0)=true:=by simp[hq]
    have HE:Hid (C=q):=by
     have h1:=HQ2.out
     have h2:=HD.out
     rw[if_neg hq] at h2
     rw[h2,if_neg hq] at h1
     exact h1
    clear HA2 HD hq HQ2
    go_wp2_with fail
    refine (KC.out _ rfl).mono ?_
    rintro e Wx ⟨rfl,rfl⟩
    go_wp2_with fail
    go_ret
    exact ⟨by rw[HE.out];rfl,H6.out.2.2.2⟩
  ·have hge:¬ (k:Int)<(n1:Int):=by omega
   have HN:Hid (nsErr d.ns=0):=by
    have h1:=HA.out
    rw[List.take_of_length_le (by rw[HL.out];show n1<=k;omega)] at h1
    have:=nsErr_drop' d.ns d.ns.length (by rw[List.take_of_length_le (Nat.le_refl _)];exact h1)
    rw[List.drop_length] at this
    exact this
   have HE:Hid (C=if 65535<sz then 3 else 0):=by
    have h1:=HQ2.out
    rw[if_pos HN.out] at h1
    exact h1
   have KZ2:Hid (∀W,DRd W ⟨⟨a1,n1,k1⟩,⟨a2,n2,k2⟩,⟨a3,n3,k3⟩,⟨a4,n4,k4⟩⟩ d->Calls Tryz.prog 103 #[.agg #[.int .i64 nn,.int .i64 nf,.int .i64 nu,.int .i64 wd,.int .i64 nt,.int .i64 tg,.int .i64 tl,.int .i64 nr],.agg #[.slice a1 n1 k1,.slice a2 n2 k2,.slice a3 n3 k3,.slice a4 n4 k4]] W fun e w'=>e=.returned (.int .i64 (sz:Nat))/\Hid (Below W.heap.size W w')):=KZ.out (by trivial) (by trivial) HN.out
   clear HA HN KZ HQ2
   obtain ⟨s0,s1,s2,s3,s4,s5,s6,s7,_⟩:=H6.out.2.1
   have c1:=H6.out.1.2.1
   have c2:=H6.out.1.2.2.1
   have c3:=H6.out.1.2.2.2.1
   simp only at s0 s1 s2 s3 s4 s5 s6 s7 c1 c2 c3
   go_wp2_with fail
   refine (KZ2.out _ H6.out.2.2.1).mono ?_
   rintro e W7 ⟨rfl,H7⟩
   have HB:Hid (Below w.heap.size w W7):=H6.out.2.2.2.trans (H7.out.mono H6.out.2.2.2.size)
   clear H7 H6 s0 s1 s2 s3 s4 s5 s6 s7 c0 c1 c2 c3 KZ2
   by_cases hs:65535<sz
   ·have hs':(65535:Int)<(sz:Int):=by omega
    have HE2:Hid (C=3):=by have:=HE.out;rw[if_pos hs] at this;exact this
    clear HE
    go_wp2_with fail
    go_ret
    exact ⟨by rw[HE2.out];rfl,HB.out⟩
   ·have hs':¬ (65535:Int)<(sz:Int):=by omega
    have HE2:Hid (C=0):=by have:=HE.out;rw[if_neg hs] at this;exact this
    clear HE
    go_wp2_with fail
    go_ret
    exact ⟨by rw[HE2.out];rfl,HB.out⟩
theorem view0(a b c d:Value)(w:World):(Instr.field 312 (.agg #[a,b,c,d]) 0).run Tryz.prog w=.ok a w:=by kernel_rfl
theorem view1(a b c d:Value)(w:World):(Instr.field 312 (.agg #[a,b,c,d]) 1).run Tryz.prog w=.ok b w:=by kernel_rfl
theorem view2(a b c d:Value)(w:World):(Instr.field 312 (.agg #[a,b,c,d]) 2).run Tryz.prog w=.ok c w:=by kernel_rfl
theorem view3(a b c d:Value)(w:World):(Instr.field 312 (.agg #[a,b,c,d]) 3).run Tryz.prog w=.ok d w:=by kernel_rfl
theorem slice_is_nil(a:Option Addr)(n c:Nat)(w:World):(binOp .eql 39 (.slice a n c) (.slice none 0 0)).run Tryz.prog w=.ok (.bool a.isNone) w:=Lib.run_eql_slice_nil w _ _ _ _ _ _ _ Tryz.underlying39
attribute [local go_sem] view0 view1 view2 view3 slice_is_nil
attribute [local go_sem] view0 view1 view2 view3 slice_is_nil
end Go.Proofs.YtoppdmlmhigogaaGreatDoor
namespace Go.Proofs.YtoppdmlmhigogaaGreatDoor
open Go.ChangeShapes Go.WideShapes Go.ChangeAt Go.RowKit
attribute [local go_sem] view0 view1 view2 view3 slice_is_nil
theorem new_below(w:World)(o:Obj):Below w.heap.size w (w.alloc o):=(Below.refl _ _).alloc (Nat.le_refl _) _
attribute [local go_sem] view0 view1 view2 view3
attribute [local go_sem] view0 view1 view2 view3 slice_is_nil
attribute [local go_sem] view0 view1 view2 view3
end Go.Proofs.YtoppdmlmhigogaaGreatDoor
namespace Go.Proofs.YtoppdmlmhigogaaGreatDoor
open Go.ChangeShapes Go.WideShapes Go.ChangeAt Go.RowKit
theorem step_append_row{P:Program}{t e:TypeId}{z:Value}{bt:Nat}(T:ElemTy P t e z bt){w:World}{ops:Array Oper}{o:Oper}{a:Act}{K:Act->World->Prop}{Q:Exit->Act->World->Prop}{E:Prop}(hgd:o.guard=none)(s x:Operand)(tx:TypeId)
  (ho:o.op=.call { callee:=.builtin .append,args:=#[s,x],argTypes:=#[t,tx] }) (B:Nat) (v:Value) (n:Nat) (xs:List Value) (hs:a.eval s=v) (hown:OwnV B w e v n xs)
  (xv:Value) (m:Nat) (news:List Value) (hx:a.eval x=xv) (hsrc:Src P 1 tx xv m news w) (hb:(n+m)*bt<=140737488355328) (h63:n+m<=maxLen) (hB:B<=w.heap.size)
  (h:∀v' w' xs',Hid (OwnV B w' e v' (n+m) xs')->Hid (xs'.take (n+m)=xs.take n++news)->Hid (w.grownBy w' v.ownBlock)->Hid (∀Q:Value->Prop,Q z->(∀u∈xs,Q u)->(∀u∈news,Q u)->∀u∈xs',Q u)->K (a.put o.dst v') w') :
  if Region.wanted o (yielded ops a.tmps)=true then Oper.wp P o a w K Q else E:=by
 have hw:Region.wanted o (yielded ops a.tmps)=true:=by simp[Region.wanted,hgd]
 rw[if_pos hw]
 obtain ⟨v',w',xs',hrun,h2,h3,h4,h5⟩:=run_append_row T w B tx o.type v n xs hown xv m news hsrc hb h63 hB
 unfold Oper.wp execOp
 simp only[ho,resolve,invoke,builtin,Sem.run_bind,Sem.run_pure,Result.andThen_ok,List.map_toArray,List.map_cons,List.map_nil,hs,hx,hrun]
 exact h v' w' xs' h2 h3 h4 h5.1
theorem plab_nsz(s:ByteArray)(hs:s.size<=1000000000):nsz (plab s).1<=1000000000000:=by
 unfold plab
 by_cases hd:s.toList=[46]
 ·rw[if_pos hd];decide
 ·rw[if_neg hd];exact lgo_nsz s hs
def nmay(l:List ByteArray):List ByteArray × Int:=(if nck l=0 then l else [],nck l)
theorem nparse_plab(s:ByteArray):nparse s=if (plab s).2.2=0 then (if (plab s).2.1 then nmay (plab s).1 else ([],5)) else ([],(plab s).2.2):=by
 unfold nparse plab nmay
 by_cases hd:s.toList=[46]
 ·rw[if_pos hd,if_pos hd]
  have:nck []=0:=by decide
  simp[this]
 ·rw[if_neg hd,if_neg hd]
  by_cases h0:(lgo (nums s) []).2.2=0
  ·rw[if_pos h0,if_pos h0]
   cases (lgo (nums s) []).2.1 with
   |false=>rfl
   |true=>
    simp only[if_true]
    by_cases hk:nck (lgo (nums s) []).1=0
    ·rw[if_pos hk,if_pos hk,hk]
    ·rw[if_neg hk,if_neg hk]
  ·rw[if_neg h0,if_neg h0]
theorem nrel_plab(s:ByteArray)(og:List ByteArray)(hk:nck og=0)(h1:¬ s.toList=[64]):nrel s og=if (plab s).2.2=0 then (if (plab s).2.1 then nmay (plab s).1 else njoin (plab s).1 og) else ([],(plab s).2.2):=by
 unfold nrel
 rw[if_pos hk,if_neg h1]
 by_cases hd:s.toList=[46]
 ·rw[if_pos hd]
  unfold plab nmay
  rw[if_pos hd]
  have:nck []=0:=by decide
  simp[this]
 ·rw[if_neg hd]
  have hp:=nparse_plab s
  have e:plab s=lgo (nums s) []:=by unfold plab;rw[if_neg hd]
  rw[e] at hp ⊢
  by_cases h0:(lgo (nums s) []).2.2=0
  ·rw[if_pos h0,if_pos h0]
   rw[if_pos h0] at hp
   cases hb:(lgo (nums s) []).2.1 with
   |false=>rfl
   |true=>rw[hb] at hp;simpa using hp
  ·rw[if_neg h0,if_neg h0]
theorem prel_any(s:ByteArray)(a:Option Addr)(n c:Nat)(og:List ByteArray)(w:World)(h:s.size<=1000000000)(h':Nm w a n og):Calls Tryz.prog 23 #[.string s,.slice a n c] w (NPost (nrel s og).1 (nrel s og).2 w):=by
 have KC:Hid (Calls Tryz.prog 19 #[.slice a n c] w fun e w'=>e=.returned (.int .i64 (nck og))/\w'=w):=pm_check c h'
 have HN:Hid (Nm w a n og):=h'
 by_cases hk:nck og=0
 ·rw[hk] at KC
  by_cases h1:s.toList=[64]
  ·have hp:nrel s og=(og,0):=by unfold nrel;rw[if_pos hk,if_pos h1]
   rw[hp]
   have h1t:(s.toList == [64])=true:=by simpa using h1
   clear hp h h' hk h1
   go_enter Tryz.func23,Tryz.ntmps23
   go_wp2_with fail
   refine KC.out.mono ?_
   rintro e w1 ⟨rfl,rfl⟩
   go_wp2_with fail
   refine (pm_copy c HN.out).mono ?_
   rintro e w2 ⟨v,ys,rfl,H2⟩
   go_wp2
   go_ret2
   exact ⟨v,ys,rfl,H2⟩
  have h1f:(s.toList == [64])=false:=by simpa using h1
  have KL:Hid (Calls Tryz.prog 54 #[.string s] w (LPost (plab s) w)):=plabels_any s w h
  have HZ:Hid (nsz (plab s).1<=1000000000000):=plab_nsz s h
  have HP:Hid (nrel s og=if (plab s).2.2=0 then (if (plab s).2.1 then nmay (plab s).1 else njoin (plab s).1 og) else ([],(plab s).2.2)):=nrel_plab s og hk h1
  obtain ⟨R,hR⟩:∃R,nrel s og=R:=⟨_,rfl⟩
  rw[hR] at HP ⊢
  clear hR h h' hk h1
  generalize plab s=r at*
  obtain ⟨l,b,k⟩:=r
  simp only at HP HZ
  by_cases hk:k=0
  ·rw[if_pos hk] at HP
   subst hk
   cases b with
   |true=>
    rw[if_pos rfl] at HP
    have e:=HP.out
    subst e
    clear HP
    go_enter Tryz.func23,Tryz.ntmps23
    go_wp2_with fail
    refine KC.out.mono ?_
    rintro e w1 ⟨rfl,rfl⟩
    go_wp2_with fail
    refine KL.out.mono ?_
    rintro e w2 ⟨v,ys,rfl,H2⟩
    obtain ⟨ao,hv,hao⟩:=H2.out.1.shape
    subst hv
    have KM:Hid (Calls Tryz.prog 55 #[.slice ao l.length ys.length] w2 fun e w'=>NPost (nmay l).1 (nmay l).2 w1 e w'):=may_own w1.heap.size w1 ao l.length ys.length l ys w2 rfl H2.out.1 H2.out.2.1 HZ.out H2.out.2.2 rfl
    generalize nmay l=R at*
    clear H2 KL KC
    go_wp2_with fail
    refine KM.out.mono ?_
    rintro e w3 ⟨v3,ys3,rfl,H3⟩
    go_wp2
    go_ret2
    exact ⟨v3,ys3,rfl,H3⟩
   |false=>
    rw[if_neg (by decide)] at HP
    go_enter Tryz.func23,Tryz.ntmps23
    go_wp2_with fail
    refine KC.out.mono ?_
    rintro e w1 ⟨rfl,rfl⟩
    go_wp2_with fail
    refine KL.out.mono ?_
    rintro e w2 ⟨v,ys,rfl,H2⟩
    obtain ⟨ao,hv,hao⟩:=H2.out.1.shape
    subst hv
    have hnm:Nm w2 ao l.length l:=⟨by have:=H2.out.1.rd l.length;rw[H2.out.2.1] at this;exact this,rfl,HZ.out⟩
    have KJ:Hid (Calls Tryz.prog 56 #[.slice ao l.length ys.length,.slice a n c] w2 (NPost (njoin l og).1 (njoin l og).2 w2)):=pjoin_any ao a l.length n ys.length c l og w2 hnm (HN.out.below H2.out.2.2)
    clear hnm
    have e:=HP.out
    subst e
    clear HP
    generalize njoin l og=jj at*
    go_wp2_with fail
    refine KJ.out.mono ?_
    rintro e w3 ⟨v3,ys3,rfl,H3⟩
    go_wp2
    go_ret2
    exact ⟨v3,ys3,rfl,H3.out.1.mono H2.out.2.2.size,H3.out.2.1,H2.out.2.2.trans (H3.out.2.2.mono H2.out.2.2.size)⟩
  ·rw[if_neg hk] at HP
   have e:=HP.out
   subst e
   have hq:(k != 0)=true:=bne_iff_ne.2 hk
   clear HP hk
   go_enter Tryz.func23,Tryz.ntmps23
   go_wp2_with fail
   refine KC.out.mono ?_
   rintro e w1 ⟨rfl,rfl⟩
   go_wp2_with fail
   refine KL.out.mono ?_
   rintro e w2 ⟨v,ys,rfl,H2⟩
   go_wp2
   go_ret2
   exact npost_none rfl H2.out.2.2
 ·have hp:nrel s og=([],nck og):=by unfold nrel;rw[if_neg hk]
  rw[hp]
  generalize nck og=q at*
  have hq:(q != 0)=true:=bne_iff_ne.2 hk
  clear h h' hk hp
  go_enter Tryz.func23,Tryz.ntmps23
  go_wp2_with fail
  refine KC.out.mono ?_
  rintro e w1 ⟨rfl,rfl⟩
  go_wp2
  go_ret2
  exact npost_none rfl (Below.refl _ _)
abbrev Wd:=ByteArray × Bool
theorem rdv_new(w:World)(xs:List Value)(t:TypeId):RdV (w.alloc (.cells xs.toArray t)) (some ⟨w.heap.size,0,none⟩) xs:=by
 refine .inr ⟨w.heap.size,0,rfl,by simp,fun i hi=>?_⟩
 rw[Nat.zero_add]
 exact (show BlkV (w.alloc (.cells xs.toArray t)) w.heap.size t xs from heap_alloc_new _ _).cell i hi
theorem new_t(w:World)(ss:List ByteArray)(n:Nat)(hn:ss.length=n)(hm:n<=1000)(hb:∀x∈ss,x.size<=9223372036854775807):TRd (w.alloc (.cells (tv ss).toArray 9)) ⟨some ⟨w.heap.size,0,none⟩,n,n⟩ ss:=
 ⟨rdv_new w (tv ss) 9,hn,⟨Nat.le_refl _,by simp only;omega⟩,by simp,hb⟩
theorem new_b(w:World)(zs:List Int)(n:Nat)(hn:zs.length=n)(hm:n<=1000)(hb:∀z∈zs,0<=z/\z<=255):BRd (w.alloc (.cells (zs.map (Value.int .u8)).toArray 5)) ⟨some ⟨w.heap.size,0,none⟩,n,n⟩ zs:=by
 refine ⟨⟨?_,hb⟩,hn,⟨Nat.le_refl _,by simp only;omega⟩,by simp⟩
 have hblk:Blk (w.alloc (.cells (zs.map (Value.int .u8)).toArray 5)) w.heap.size zs:=⟨heap_alloc_new _ _,hb⟩
 exact .inr ⟨w.heap.size,0,rfl,hblk.lt,fun i hi=>by rw[Nat.zero_add];exact hblk.cell i hi⟩
def wv(c:Int):Int:=
 if Lib.indexByte [48,49,50,51,52,53,54,55,56,57,97,98,99,100,101,102] c.toNat.toUInt8<Lib.indexByte [48,49,50,51,52,53,54,55,56,57,65,66,67,68,69,70] c.toNat.toUInt8
 then Lib.indexByte [48,49,50,51,52,53,54,55,56,57,65,66,67,68,69,70] c.toNat.toUInt8 else Lib.indexByte [48,49,50,51,52,53,54,55,56,57,97,98,99,100,101,102] c.toNat.toUInt8
def dg(d:Int):Int:=if d<10 then 48+d else 87+d
theorem dg_bd(d:Int)(h:0<=d/\d<16):48<=dg d/\dg d<=102:=by unfold dg;split <;> omega
def okp(l:List Int)(k:Nat):Prop:=0<=wv (l.getD (2*k) 0)/\0<=wv (l.getD (2*k+1) 0)
theorem call206(n:Nat)(w:World)(hn:n<=281474976710656):∃cs:Array Value,(callFunc 206 #[.int .i64 n]).run Tryz.prog w=.ok (.value (.slice (some ⟨w.heap.size,0,none⟩) n cs.size)) (w.drew.drew.alloc (.cells cs 5))/\n<=cs.size/\cs.size<=maxLen:=by
 obtain ⟨cs,h1,h2,h3⟩:=Lib.run_makeNoZero (P:=Tryz.prog) w #[3] 39 5 Tryz.underlying39 n hn
 refine ⟨cs,?_,h2,h3 (by simp only[maxLen];omega)⟩
 rw[run_callFunc_extern (e:=Extern.BytealgMakeNoZero.makeNoZero #[3] #[39]) Tryz.func206 (by kernel_rfl) (by kernel_rfl) (by kernel_rfl) (by kernel_rfl) _ w,h1]
 rfl
theorem grown_end{w:World}{b:Nat}{p:Value}(h:BB w b p (.slice none 0 0))(cs:Array Value) :
  BB ((w.setCell ⟨b,1,none⟩ (.slice (some ⟨w.heap.size,0,none⟩) 0 cs.size)).alloc (.cells cs 5)) b p (.slice (some ⟨w.heap.size,0,none⟩) 0 cs.size)/\((w.setCell ⟨b,1,none⟩ (.slice (some ⟨w.heap.size,0,none⟩) 0 cs.size)).alloc (.cells cs 5)).heap[w.heap.size]?=some (.cells cs 5 (0,0))/\
  w.grownBy ((w.setCell ⟨b,1,none⟩ (.slice (some ⟨w.heap.size,0,none⟩) 0 cs.size)).alloc (.cells cs 5)).drew.drew.drew (some b):=by
 have hsz:(w.setCell ⟨b,1,none⟩ (.slice (some ⟨w.heap.size,0,none⟩) 0 cs.size)).heap.size=w.heap.size:=by simp[World.setCell]
 have hold:∀j,j<w.heap.size->((w.setCell ⟨b,1,none⟩ (.slice (some ⟨w.heap.size,0,none⟩) 0 cs.size)).alloc (.cells cs 5)).heap[j]?=(w.setCell ⟨b,1,none⟩ (.slice (some ⟨w.heap.size,0,none⟩) 0 cs.size)).heap[j]?:=fun j hj=>Below.heap_alloc _ _ j (by rw[hsz];exact hj)
 refine ⟨BB.same (heap_set h 1 _) (hold b h.lt),?_,⟨rfl,rfl,rfl,by simp[hsz],fun j hj hne=>?_⟩⟩
 ·have:=heap_alloc_new (w.setCell ⟨b,1,none⟩ (.slice (some ⟨w.heap.size,0,none⟩) 0 cs.size)) (.cells cs 5)
  rw[hsz] at this
  exact this
 ·exact (hold j hj).trans (Below.heap_setCell _ _ _ j (fun e=>hne (by rw[e])))
theorem grow_nil(b n:Nat)(p:Value)(w:World)(h:BB w b p (.slice none 0 0))(hn:n<=281474976710656) :
  Calls Tryz.prog 188 #[.pointer (some ⟨b,0,none⟩),.int .i64 n] w fun e w'=>e=.returned (.tuple #[])/\Hid (∃cs:Array Value,BB w' b p (.slice (some ⟨w.heap.size,0,none⟩) 0 cs.size)/\w'.heap[w.heap.size]?=some (.cells cs 5 (0,0))/\n<=cs.size/\cs.size<=maxLen/\w.grownBy w' (some b)):=by
 have HB:Hid (BB w b p (.slice none 0 0)):=h
 have hb:=h.lt
 have c1:=h.c1
 have f1:=h.fz 1
 obtain ⟨cs,hcall,hc1,hc2⟩:=call206 n w.drew hn
 have hw:IntKind.i64.wrap (n:Int)=(n:Int):=by rw[IntKind.wrap_i64];omega
 have hw0:IntKind.i64.wrap 0=0:=by rfl
 have hcp:∀(W:World) (a:Option Addr) (c:Nat),(Builtin.copy_ #[39,39] 3 #[.slice a 0 c,.slice none 0 0]).run Tryz.prog W=.ok (.int .i64 0) W:=fun W a c=>
  run_copy_none (P:=Tryz.prog) W 39 39 3 5 a none 0 c 0 0 Tryz.underlying39 (by kernel_rfl) (by simp)
 clear h
 go_enter Tryz.func188,Tryz.ntmps188
 go_wp2_with fail
 go_region_held3 (fun W=>W.cell? ⟨b,1,none⟩=some (.slice none 0 0)) (go_keep) (fail)
 clear hcall
 go_wp2
 go_end0
 have hM:=grown_end HB.out cs
 exact ⟨rfl,cs,hM.1,hM.2.1,hc1,hc2,hM.2.2⟩
theorem bgrow(B b n:Nat)(w:World)(h:BB w b (.pointer none) (.slice none 0 0))(hn:n<=281474976710656)(hB:B<=b) :
  Calls Tryz.prog 153 #[.pointer (some ⟨b,0,none⟩),.int .i64 n] w fun e w'=>e=.returned (.tuple #[])/\Hid (BSt B w' b n []/\Below B w w'):=by
 have HB:Hid (BB w b (.pointer none) (.slice none 0 0)):=h
 have H2:Hid (BB (w.setCell ⟨b,0,none⟩ (.pointer (some ⟨b,0,none⟩))) b (.pointer (some ⟨b,0,none⟩)) (.slice none 0 0)/\Below B w (w.setCell ⟨b,0,none⟩ (.pointer (some ⟨b,0,none⟩)))):=⟨heap_set h 0 _,(Below.refl _ _).setCell hB _⟩
 clear h
 go_enter Tryz.func153,Tryz.ntmps153
 go_wp2_with fail
 refine (check_fresh b _ _ HB.out).mono ?_
 rintro e w1 ⟨rfl,hw1⟩
 have H3:Hid (BB w1 b (.pointer (some ⟨b,0,none⟩)) (.slice none 0 0)/\Below B w w1):=by rw[hw1];exact H2.out
 clear hw1 H2 HB
 have c1:=H3.out.1.c1
 have hw0:IntKind.i64.wrap 0=0:=by rfl
 by_cases h0:n=0
 ·have hd:decide ((0:Int)<(n:Int))=false:=by simp;omega
  go_wp2_with fail
  go_quiet (fail)
  go_wp2
  go_end0
  exact ⟨rfl,.inl ⟨h0,rfl,H3.out.1⟩,H3.out.2.trans ⟨rfl,rfl,rfl,Nat.le_refl _,fun _ _=>rfl⟩⟩
 ·have hd:decide ((0:Int)<(n:Int))=true:=by simp;omega
  go_wp2_with fail
  go_quiet (fail)
  have H4:Hid (BB (w1.drewN nq) b (.pointer (some ⟨b,0,none⟩)) (.slice none 0 0)/\Below B w (w1.drewN nq)):=⟨H3.out.1,H3.out.2.trans ⟨rfl,rfl,rfl,Nat.le_refl _,fun _ _=>rfl⟩⟩
  clear c1
  generalize w1.drewN nq=W2 at*
  go_wp2_with fail
  refine (grow_nil b n _ _ H4.out.1 hn).mono ?_
  rintro e w3 ⟨rfl,H5⟩
  go_wp2
  go_end0
  obtain ⟨cs,q1,q2,q3,q4,q5⟩:=H5.out
  have hlt:=H4.out.1.lt
  have hsz:=q5.size
  have hlt3:W2.heap.size<w3.heap.size:=(Array.getElem?_eq_some_iff.1 q2).1
  refine ⟨rfl,.inr ⟨W2.heap.size,cs.size,q1,⟨rfl,.inr ⟨W2.heap.size,cs.size,cs,rfl,?_,q2,Nat.zero_le _,q4,by simp,by simp⟩⟩,q3,by omega,hlt3,by omega⟩,?_⟩
  ·have:=H4.out.2.size;omega
  ·exact below_row H4.out.2 hlt q5 hB
theorem dig_at(d:Int)(h0:0<=d)(h1:d<16)(w:World):(Instr.index 9 (.string ⟨#[48,49,50,51,52,53,54,55,56,57,97,98,99,100,101,102]⟩) (.int .u8 d)).run Tryz.prog w=.ok (.int .u8 (dg d)) w:=by
 have:d=0∨d=1∨d=2∨d=3∨d=4∨d=5∨d=6∨d=7∨d=8∨d=9∨d=10∨d=11∨d=12∨d=13∨d=14∨d=15:=by omega
 rcases this with rfl|rfl|rfl|rfl|rfl|rfl|rfl|rfl|rfl|rfl|rfl|rfl|rfl|rfl|rfl|rfl <;> (clear h0 h1;show Sem.run _ _ _=Result.ok _ _;kernel_rfl)
theorem and15(c:Int)(h:0<=c/\c<=255):bits .and .u8 c 15=c % 16:=by
 obtain ⟨n,rfl⟩:=Int.eq_ofNat_of_zero_le h.1
 have:∀m:Nat,m<256->bits .and .u8 (m:Int) 15=(m:Int) % 16:=by decide +kernel
 exact this n (by omega)
def ub(z:Int):UInt8:=UInt8.ofNat z.toNat
theorem ub_nat(z:Int)(h:0<=z/\z<=255):((ub z).toNat:Int)=z:=by simp[ub];omega
def hexl(zs:List Int):List UInt8:=zs.flatMap fun z=>[ub (dg (z / 16)),ub (dg (z % 16))]
theorem hexl_snoc(zs:List Int)(z:Int):hexl (zs++[z])=hexl zs++[ub (dg (z / 16)),ub (dg (z % 16))]:=by simp[hexl]
theorem hexl_len(zs:List Int):(hexl zs).length=2*zs.length:=by
 induction zs with
 |nil=>rfl
 |cons z zs ih=>simp only[hexl,List.flatMap_cons,List.length_append,List.length_cons,List.length_nil] at ih ⊢;omega
theorem cells_snoc(zs:List Int)(z:Int)(h:0<=z/\z<=255):Lib.byteCells (hexl (zs++[z]))=Lib.byteCells (hexl zs)++[.int .u8 (dg (z / 16))]++[.int .u8 (dg (z % 16))]:=by
 have d1:=dg_bd (z / 16) (by omega)
 have d2:=dg_bd (z % 16) (by omega)
 rw[hexl_snoc,Lib.byteCells_append]
 simp[Lib.byteCells,ub_nat _ (show 0<=dg (z / 16)/\dg (z / 16)<=255 by omega),ub_nat _ (show 0<=dg (z % 16)/\dg (z % 16)<=255 by omega)]
theorem hex_any(a:Option Addr)(len cap:Nat)(zs:List Int)(w:World)(hr:Rd w a zs)(hl:zs.length=len)(hm:len<=140737488351232) :
  Calls Tryz.prog 205 #[.slice a len cap] w fun e w'=>e=.returned (.string ⟨(hexl zs).toArray⟩)/\Hid (Below w.heap.size w w'):=by
 have HR:Hid (Rd w a zs):=hr
 have HL:Hid (zs.length=len):=hl
 have H0:Hid (BB (w.alloc (.cells #[.pointer none,.slice none 0 0] 65)) w.heap.size (.pointer none) (.slice none 0 0)/\Below w.heap.size w (w.alloc (.cells #[.pointer none,.slice none 0 0] 65))):=⟨heap_alloc_new _ _,(Below.refl _ _).alloc (Nat.le_refl _) _⟩
 have HG:Hid (∀W,BB W w.heap.size (.pointer none) (.slice none 0 0)->Calls Tryz.prog 153 #[.pointer (some ⟨w.heap.size,0,none⟩),.int .i64 (2*(len:Int))] W fun e w'=>e=.returned (.tuple #[])/\Hid (BSt w.heap.size w' w.heap.size (2*len) []/\Below w.heap.size W w')):=by
  intro W hW
  have:=bgrow w.heap.size w.heap.size (2*len) W hW (by omega) (Nat.le_refl _)
  rw[show ((2*len:Nat):Int)=2*(len:Int) by omega] at this
  exact this
 clear hr hl
 go_enter Tryz.func205,Tryz.ntmps205
 go_wp2_with fail
 refine (HG.out _ H0.out.1).mono ?_
 rintro e w1 ⟨rfl,H1⟩
 have HS:Hid (BSt w.heap.size w1 w.heap.size (2*len) (Lib.byteCells (hexl (zs.take 0)))/\Below w.heap.size w w1):=⟨H1.out.1,H0.out.2.trans H1.out.2⟩
 clear H0 H1 HG
 go_wp2_with fail
 go_loopw [12] (fun x wr=>∃k:Nat,k<=len/\x=.int .i64 k/\Hid (BSt w.heap.size wr w.heap.size (2*len) (Lib.byteCells (hexl (zs.take k)))/\Below w.heap.size w wr)) (fun x _=>len - (intOf x).toNat)
 case atStart=>exact ⟨0,Nat.zero_le _,rfl,HS⟩
 case round=>
  obtain ⟨k,hk,rfl,HW⟩:=hrel
  clear HS
  by_cases hlt:k<len
  ·have hlt':(k:Int)<(len:Int):=by omega
   have HRw:Hid (Rd wr a zs):=HR.out.below HW.out.2
   rcases HRw.out.1 with e1|⟨b,o,rfl,e1,e2⟩
   ·have:=HL.out;subst e1;simp at this;omega
   have hc:=e2 k (by rw[HL.out];exact hlt)
   have hb:=HRw.out.bd k
   clear e2
   have hzk:zs.take (k+1)=zs.take k++[zs.getD k 0]:=take_snoc zs k (by rw[HL.out];exact hlt)
   rw[List.getD_eq_getElem?_getD] at hb hc hzk
   have HZ:Hid (zs.take (k+1)=zs.take k++[zs[k]?.getD 0]/\(zs.take k).length=k):=⟨hzk,by rw[List.length_take,HL.out];omega⟩
   clear hzk
   generalize zs[k]?.getD 0=c at*
   have ha:=and15 c hb
   have g1:=dig_at (c / 16) (by omega) (by omega)
   have g2:=dig_at (c % 16) (by omega) (by omega)
   have HC:Hid (Lib.byteCells (hexl (zs.take (k+1)))=Lib.byteCells (hexl (zs.take k))++[.int .u8 (dg (c / 16))]++[.int .u8 (dg (c % 16))]/\(Lib.byteCells (hexl (zs.take k))).length=2*k):=by
    refine ⟨by rw[HZ.out.1];exact cells_snoc _ _ hb,?_⟩
    rw[Lib.byteCells_length,hexl_len,HZ.out.2]
   go_wp2_with fail
   refine (bwrite w.heap.size w.heap.size (2*len) _ (dg (c / 16)) _ HW.out.1 (by rw[HC.out.2];omega) (Nat.le_refl _)).mono ?_
   rintro e w2 ⟨rfl,H2⟩
   go_wp2_with fail
   refine (bwrite w.heap.size w.heap.size (2*len) _ (dg (c % 16)) _ H2.out.1 (by rw[List.length_append,HC.out.2,List.length_singleton];omega) (Nat.le_refl _)).mono ?_
   rintro e w3 ⟨rfl,H3⟩
   clear g1 g2 ha hc
   go_wp2
   refine ⟨⟨k+1,by omega,by go_num,?_,?_⟩,by simp[intOf];omega⟩
   ·rw[HC.out.1];exact H3.out.1
   ·exact (HW.out.2.trans H2.out.2).trans H3.out.2
  ·have HB:Hid (BSt w.heap.size wr w.heap.size (2*len) (Lib.byteCells (hexl zs))/\(hexl zs).length=2*len):=by
    have e:zs.take k=zs:=List.take_of_length_le (by rw[HL.out];omega)
    have:=HW.out.1
    rw[e] at this
    exact ⟨this,by rw[hexl_len,HL.out]⟩
   have hge:(len:Int)<=(k:Int):=by omega
   generalize hLL:hexl zs=L at*
   have HLL:Hid (hexl zs=L):=hLL
   clear hLL
   go_wp2_with fail
   refine (bstring w.heap.size w.heap.size (2*len) L _ HB.out.1 HB.out.2 (by have:=HB.out.2;omega)).mono ?_
   rintro e w2 ⟨rfl,H2⟩
   go_wp2
   go_ret
   exact ⟨by rw[HLL.out];rfl,HW.out.2.trans H2.out⟩
def GW(B:Nat)(w:World)(b:Nat)(bs:List Value):Prop:=
 ∃v,BB w b (.pointer (some ⟨b,0,none⟩)) v/\w.ownsRow B 5 1 v bs.length bs/\v.ownBlock≠some b/\(bs=[]->v=.slice none 0 0)
def G2(B:Nat)(w:World)(b:Nat)(bs:List Value):Prop:=(BB w b (.pointer none) (.slice none 0 0)/\bs=[])∨GW B w b bs
theorem wstringU(B b:Nat)(l:List UInt8)(w:World)(h:G2 B w b (Lib.byteCells l))(hl:l.length<=9223372036854775807) :
  Calls Tryz.prog 31 #[.pointer (some ⟨b,0,none⟩)] w fun e w'=>e=.returned (.string ⟨l.toArray⟩)/\Hid (Below B w w'):=by
 rcases h with h|⟨v,h1,h2,h4,h5⟩
 ·exact wstring B b l w (.inl h) hl
 ·have hlen:=Lib.byteCells_length l
  rcases h2.2 with ⟨hv,h0⟩|⟨g,cap,cur,rfl,hBg,hg,hn,hm,hs,hx⟩
  ·have hl0:l=[]:=List.eq_nil_of_length_eq_zero (by omega)
   subst hl0
   subst hv
   have c1:=h1.c1
   have s1:∀(W:World) (ts:Array TypeId) (ty:TypeId),(Builtin.unsafeSliceData_ ts ty #[.slice none 0 0]).run Tryz.prog W=.ok (.pointer none) W:=fun W ts ty=>Lib.run_unsafeSliceData_nil W ts ty 0 0
   have s2:∀(W:World) (ty:TypeId),(Builtin.unsafeString_ #[106,3] ty #[.pointer none,.int .i64 0]).run Tryz.prog W=.ok (.string .empty) W:=fun W ty=>Lib.run_unsafeString_none W 106 3 ty none
   clear h1 h0 h2
   go_enter Tryz.func31,Tryz.ntmps31
   go_wp2_with fail
   go_region_held3 (fun W=>W.cell? ⟨b,1,none⟩=some (.slice none 0 0)) (go_keep) (fail)
   go_wp2
   go_ret
   exact ⟨rfl,(Below.refl _ _).drew⟩
  ·have hne:0<(Lib.byteCells l).length:=by
    apply List.length_pos_iff.2
    intro e
    have:=h5 e
    simp at this
   exact bstring B b l.length l w (.inr ⟨g,cap,h1,h2,by omega,fun e=>h4 (by rw[e];rfl),(h2.lt g rfl).2,by omega⟩) rfl hl
def OffB(b:Nat)(w w':World):Prop:=∀k cs t z,w.heap[k]?=some (.cells cs t z)->t≠5->k≠b->w'.heap[k]?=some (.cells cs t z)
theorem lt_block{W:World}{b:Nat}{o:Obj}(h:W.heap[b]?=some o):b<W.heap.size:=(Array.getElem?_eq_some_iff.1 h).1
theorem OffB.refl(b:Nat)(w:World):OffB b w w:=fun _ _ _ _ h _ _=>h
theorem OffB.trans{b:Nat}{w w1 w2:World}(h:OffB b w w1)(h':OffB b w1 w2):OffB b w w2:=fun k cs t z hk ht hb=>h' k cs t z (h k cs t z hk ht hb) ht hb
theorem OffB.of{b:Nat}{w w':World}(h:Below w.heap.size w w'):OffB b w w':=fun k cs t z hk _ _=>(h.block k (lt_block hk)).trans hk
theorem off_grown{b B n:Nat}{w w2:World}{v:Value}{bs:List Value}(hown:w.ownsRow B 5 1 v n bs)(hg:w.grownBy w2 v.ownBlock):OffB b w w2:=by
 intro k cs t z hk ht hkb
 have hne:some k≠v.ownBlock:=by
  intro e
  obtain ⟨_,hc|⟨g,cap,cur,hv,_,hg',_⟩⟩:=hown
  ·rw[hc.1] at e;simp[Value.ownBlock] at e
  ·rw[hv] at e
   have e2:k=g:=by simpa [Value.ownBlock] using e
   subst e2
   rw[hg'] at hk
   injection hk with hk
   injection hk with _ hk _
   exact ht hk.symm
 exact (hg.block k (lt_block hk) hne).trans hk
theorem off_set{b i:Nat}{w:World}{x:Value}:OffB b w (w.setCell ⟨b,i,none⟩ x):=fun k cs t z hk _ hb=>(Below.heap_setCell _ _ _ _ hb).trans hk
theorem own_stays{B e k n:Nat}{v:Value}{xs:List Value}{w w':World}(h:w.ownsRow B e k v n xs)(hb:Below w.heap.size w w'):w'.ownsRow B e k v n xs:=
 h.kept (row:=none) ⟨hb.os,hb.tape,hb.output,hb.size,fun j hj _=>hb.block j hj⟩ (by cases v.ownBlock with|none=>exact .inl rfl|some j=>exact .inr (by simp))
theorem G2.go{B b:Nat}{bs:List Value}{w w':World}(h:G2 B w b bs)(hb:Below w.heap.size w w'):G2 B w' b bs:=by
 rcases h with ⟨h,e⟩|⟨v,g1,g2,g3,g4⟩
 ·exact .inl ⟨h.same (hb.block _ h.lt),e⟩
 ·exact .inr ⟨v,g1.same (hb.block _ g1.lt),own_stays g2 hb,g3,g4⟩
theorem G2.at{B b:Nat}{bs:List Value}{w:World}(h:G2 B w b bs):∃p v,w.heap[b]?=some (.cells #[p,v] 65 (0,0)):=by
 rcases h with ⟨h,e⟩|⟨v,g1,g2,g3,g4⟩
 ·exact ⟨_,_,h⟩
 ·exact ⟨_,_,g1⟩
theorem bcheckX(B b:Nat)(bs:List Value)(w:World)(h:G2 B w b bs)(hB:B<=b) :
  Calls Tryz.prog 93 #[.pointer (some ⟨b,0,none⟩)] w fun e w'=>e=.returned (.tuple #[])/\Hid (GW B w' b bs/\Below B w w'/\OffB b w w'):=by
 rcases h with ⟨h1,rfl⟩|⟨v,h1,h3,h4⟩
 ·refine (check_fresh b _ w h1).mono ?_
  rintro e w' ⟨rfl,rfl⟩
  refine ⟨rfl,⟨.slice none 0 0,?_,World.ownsRow_nil _ _ _ _,by simp[Value.ownBlock],fun _=>rfl⟩,(Below.refl _ _).setCell hB _,off_set⟩
  have:=heap_set h1 0 (.pointer (some ⟨b,0,none⟩))
  simpa [BB] using this
 ·refine (check_used b v w h1).mono ?_
  rintro e w' ⟨rfl,rfl⟩
  exact ⟨rfl,⟨v,h1,h3,h4⟩,Below.refl _ _,OffB.refl _ _⟩
theorem wstrX(B b:Nat)(bs:List Value)(s:ByteArray)(w:World)(h:G2 B w b bs)(hB:B<=b)(hl:bs.length+s.size<=140737488355328) :
  Calls Tryz.prog 57 #[.pointer (some ⟨b,0,none⟩),.string s] w fun e w'=>e=.returned (.tuple #[.int .i64 s.size,.nilIface])/\Hid (GW B w' b (bs++Lib.byteCells s.data.toList)/\Below B w w'/\OffB b w w'):=by
 have HG:Hid (G2 B w b bs):=h
 have hcl:(Lib.byteCells s.data.toList).length=s.size:=by rw[Lib.byteCells_length];rfl
 have HCL:Hid ((Lib.byteCells s.data.toList).length=s.size):=hcl
 clear h hcl
 go_enter Tryz.func57,Tryz.ntmps57
 go_wp2_with fail
 refine (bcheckX B b bs _ HG.out hB).mono ?_
 rintro e w1 ⟨rfl,H1⟩
 obtain ⟨v,h1,h2,h4,h5⟩:=H1.out.1
 have HV:Hid (bs=[]->v=.slice none 0 0):=h5
 clear h5
 have HB1:Hid (Below B w w1/\OffB b w w1):=H1.out.2
 have HB:Hid (BB w1 b (.pointer (some ⟨b,0,none⟩)) v/\w1.ownsRow B 5 1 v bs.length bs):=⟨h1,h2⟩
 have c1:=h1.c1
 have hlt:=h1.lt
 clear h1 h2 H1 HG
 obtain ⟨i5,hi,hz0,hz1,hz2⟩:=info_parts Tryz.info5
 have HI:Hid (Tryz.prog.info? 5=some i5/\i5.zero=some (.int .u8 0)/\i5.size=1/\i5.bytes=1):=⟨hi,hz0,hz1,hz2⟩
 clear hi hz0 hz1 hz2
 go_wp2_with (at_builtin;refine Lib.wpList_append_own_string _ rfl _ _ 39 9 rfl B 5 i5 Tryz.underlying39 Tryz.underlying9 HI.out.1 HI.out.2.1 HI.out.2.2.1 HI.out.2.2.2 v bs.length bs rfl HB.out.2 s rfl (by simp only[maxLen];omega) (by omega) (by omega) ?_;intro v' w2 hown2 hgr2 hnil;obtain ⟨ao,cc,rfl⟩:=row_shape hown2;have hbk:Hid (w2.heap[b]?=w1.heap[b]?):=(hgr2.block b hlt (fun e=>h4 e.symm));have d1:=(HB.out.1.same hbk.out).c1;have d2:=(HB.out.1.same hbk.out).fz 1;have HG2:Hid (w1.grownBy w2 v.ownBlock/\w2.ownsRow B 5 1 (.slice ao (bs.length+s.size) cc) (bs.length+s.size) (bs++Lib.byteCells s.data.toList)):=⟨hgr2,by rw[<- strCells_eq];exact hown2⟩;have HNIL:Hid (Value.slice ao (bs.length+s.size) cc=.slice none 0 0↔v=.slice none 0 0/\s.size=0):=hnil;clear hown2 hgr2 hnil)
 go_ret2
 have hb2:=HB.out.1.same hbk.out
 have hrow:∀g,v.ownBlock=some g->B<=g:=fun g hg=>(HB.out.2.lt g hg).1
 have hbel:Below B w1 w2:=(Below.refl B w1).grown HG2.out.1 (by omega) hrow
 have hne:(Value.slice ao (bs.length+s.size) cc).ownBlock≠some b:=by
  intro e
  obtain ⟨_,hc|⟨g,cap,cur,hv,_,hg,_⟩⟩:=HG2.out.2
  ·rw[hc.1] at e;simp[Value.ownBlock] at e
  ·rw[hv] at e
   have e2:g=b:=by simpa [Value.ownBlock] using e
   rw[e2] at hg
   have hb3:w2.heap[b]?=_:=hb2
   rw[hb3] at hg
   injection hg with hg
   injection hg with _ hg _
   exact absurd hg (by decide)
 refine ⟨rfl,⟨.slice ao (bs.length+s.size) cc,?_,?_,hne,fun e=>HNIL.out.2 ⟨HV.out (List.append_eq_nil_iff.1 e).1,by have:=HCL.out;rw[(List.append_eq_nil_iff.1 e).2] at this;exact this.symm⟩⟩,HB1.out.1.trans (hbel.setCell hB _),HB1.out.2.trans ((off_grown HB.out.2 HG2.out.1).trans off_set)⟩
 ·have:=heap_set hb2 1 (.slice ao (bs.length+s.size) cc)
  simpa [BB] using this
 ·have:=row_set HG2.out.2 hne 1 (.slice ao (bs.length+s.size) cc)
  rw[List.length_append,HCL.out]
  exact this
def catP(ss:List ByteArray):List UInt8:=ss.flatMap fun s=>s.data.toList
theorem catP_snoc(ss:List ByteArray)(k:Nat)(h:k<ss.length):catP (ss.take (k+1))=catP (ss.take k)++ss[k].data.toList:=by
 unfold catP
 rw[List.take_succ_eq_append_getElem h,List.flatMap_append]
 simp
theorem catP_le(ss:List ByteArray)(k:Nat):(catP (ss.take k)).length<=(catP ss).length:=by
 have e:catP ss=catP (ss.take k)++catP (ss.drop k):=by
  unfold catP
  rw[<- List.flatMap_append,List.take_append_drop]
 rw[e,List.length_append]
 omega
theorem bcells_app(a b:List UInt8):Lib.byteCells (a++b)=Lib.byteCells a++Lib.byteCells b:=by simp[Lib.byteCells]
def PcT(w:World)(P o:Nat)(ss:List ByteArray):Prop:=∃cs z,w.heap[P]?=some (.cells cs 9 z)/\∀i (h:i<ss.length),w.cell? ⟨P,o+i,none⟩=some (.string ss[i])
theorem PcT.off{w w':World}{P o b:Nat}{ss:List ByteArray}(h:PcT w P o ss)(ho:OffB b w w')(hP:P≠b):PcT w' P o ss:=by
 obtain ⟨cs,z,h1,h2⟩:=h
 have h3:=ho P cs 9 z h1 (by decide) hP
 refine ⟨cs,z,h3,fun i hi=>?_⟩
 rw[<- h2 i hi]
 unfold World.cell?
 rw[h1,h3]
theorem PcT.new(w:World)(ss:List ByteArray):PcT (w.alloc (.cells (tv ss).toArray 9)) w.heap.size 0 ss:=by
 refine ⟨_,_,heap_alloc_new _ _,fun i hi=>?_⟩
 unfold World.cell?
 rw[heap_alloc_new]
 simp[tv,hi]
theorem PcT.lt{w:World}{P o:Nat}{ss:List ByteArray}(h:PcT w P o ss):P<w.heap.size:=by
 obtain ⟨cs,z,h1,_⟩:=h
 exact lt_block h1
theorem put64_any(B b P o n:Nat)(l:List UInt8)(ss:List ByteArray)(w:World)(h:G2 B w b (Lib.byteCells l))(hB:B<=b)(hP:PcT w P o ss)(hn:ss.length=n)(hn2:n<=1000)(hl:l.length+(catP ss).length<=140737488355328) :
  Calls Tryz.prog 64 #[.pointer (some ⟨b,0,none⟩),.slice (some ⟨P,o,none⟩) n n] w fun e w'=>e=.returned (.tuple #[])/\Hid (G2 B w' b (Lib.byteCells (l++catP ss))/\Below B w w'/\OffB b w w'):=by
 have hPb:P≠b:=by
  rintro rfl
  obtain ⟨p,v,hb⟩:=h.at
  obtain ⟨cs,z,h1,_⟩:=hP
  rw[h1] at hb
  injection hb with hb
  injection hb with _ hb _
  exact absurd hb (by decide)
 have HH:Hid (G2 B w b (Lib.byteCells l)/\PcT w P o ss/\ss.length=n/\P≠b):=⟨h,hP,hn,hPb⟩
 have HZ:Hid (∀k,l.length+(catP (ss.take k)).length<=140737488355328):=fun k=>by have:=catP_le ss k;omega
 obtain ⟨C,hC⟩:∃C,catP ss=C:=⟨_,rfl⟩
 have HC:Hid (catP ss=C):=hC
 rw[hC]
 clear h hP hn hPb hl hC
 go_enter Tryz.func64,Tryz.ntmps64
 go_wp2_with fail
 go_loopw [8] (fun x wr=>∃k:Nat,k<=n/\x=.int .i64 k/\Hid (G2 B wr b (Lib.byteCells (l++catP (ss.take k)))/\Below B w wr/\OffB b w wr)) (fun x _=>n - (intOf x).toNat)
 case atStart=>exact ⟨0,Nat.zero_le _,rfl,by simpa [catP] using HH.out.1,Below.refl _ _,OffB.refl _ _⟩
 case round=>
  obtain ⟨k,hk,rfl,HI⟩:=hrel
  by_cases hlt:k<n
  ·have hlt':(k:Int)<(n:Int):=by omega
   have hks:k<ss.length:=by rw[HH.out.2.2.1];exact hlt
   have hpc:=HH.out.2.1.off HI.out.2.2 HH.out.2.2.2
   have hpl:=hpc.lt
   obtain ⟨cs,z,p1,p2⟩:=hpc
   have c1:=p2 k hks
   have HS:Hid (catP (ss.take (k+1))=catP (ss.take k)++ss[k].data.toList):=catP_snoc ss k hks
   have KW:=Lib.hid (fun W (hW:G2 B W b (Lib.byteCells (l++catP (ss.take k))))=>wstrX B b (Lib.byteCells (l++catP (ss.take k))) ss[k] W hW hB (by
    have h1:=HZ.out (k+1)
    rw[HS.out] at h1
    rw[Lib.byteCells_length,List.length_append]
    have e:ss[k].data.toList.length=ss[k].size:=rfl
    simp only[List.length_append] at h1
    omega))
   rw[<- bcells_app,List.append_assoc,<- HS.out] at KW
   clear p1 p2 HS
   generalize ss[k]=s at*
   go_wp2_with fail
   refine (KW.out _ HI.out.1).mono ?_
   rintro e w3 ⟨rfl,H3⟩
   go_wp2_with fail
   exact ⟨⟨k+1,by omega,by go_num,.inr H3.out.1,HI.out.2.1.trans H3.out.2.1,HI.out.2.2.trans H3.out.2.2⟩,by simp[intOf];omega⟩
  ·have hge:¬ (k:Int)<(n:Int):=by omega
   have e:catP (ss.take k)=C:=by rw[<- HC.out,List.take_of_length_le (by rw[HH.out.2.2.1];omega)]
   rw[e] at HI
   clear e
   go_wp2_with fail
   go_end0
   exact ⟨rfl,HI.out⟩
end Go.Proofs.YtoppdmlmhigogaaGreatDoor
namespace Go.Proofs.YtoppdmlmhigogaaGreatDoor
abbrev WdZ:=ByteArray × Bool
structure En where
 line:Int
 blank:Bool
 ws:List WdZ
def isB(c:UInt8):Bool:=c == 32 || c == 9 || c == 13
def endsW(c:UInt8):Bool:=isB c || c == 10 || c == 59 || c == 40 || c == 41
structure Cf where
 st:Nat
 line:Nat
 op:Nat
 cur:List UInt8
 el:Int
 bl:Bool
 ws:List WdZ
 es:List En
def headB(r:List UInt8):Bool:=match r with|[]=>false|c::_=>isB c
def q0(s:List UInt8):Cf:=⟨0,1,0,[],0,headB s,[],[]⟩
def bwS:Bool->List UInt8->Bool
 |e,[]=>!e
 |true,c::r=>c != 10 && bwS false r
 |false,c::r=>if c=92 then bwS true r else !endsW c && c != 34 && bwS false r
end Go.Proofs.YtoppdmlmhigogaaGreatDoor
namespace Go.Proofs.YtoppdmlmhigogaaGreatDoor
open Go.ChangeShapes Go.WideShapes Go.ChangeAt Go.RowKit Go.Sort
theorem lb_bi(l:List UInt8):lb (bi l)=⟨l.toArray⟩:=by
 unfold lb txt bi
 congr 1
 rw[List.map_map]
 congr 1
 conv=>rhs;rw[<- List.map_id l]
 apply List.map_congr_left
 intro b _
 simp
theorem dec_lb(n:Nat):(⟨(Lib.decDigits n).toArray⟩:ByteArray)=lb (xdec n):=by rw[<- bi_dec,lb_bi]
theorem nums_xdec(n:Nat):nums (lb (xdec n))=xdec n:=xnw_nums n
theorem xhex_by(n:Nat):∀c∈xhex n,0<=c/\c<=255:=fun c hc=>by have:=xhex_ok n c hc;unfold xok at this;omega
theorem nums_xhex(n:Nat):nums (lb (xhex n))=xhex n:=nums_lb _ (xhex_by n)
theorem xjoin_len(c:Int)(ps:List (List Int))(M:Nat)(h:∀p∈ps,p.length<=M):(xjoin c ps).length<=ps.length*(M+1):=by
 induction ps with
 |nil=>simp[xjoin]
 |cons p ps ih=>
  have h1:=h p (by simp)
  have h2:=ih (fun q hq=>h q (List.mem_cons_of_mem _ hq))
  cases ps with
  |nil=>simp[xjoin];omega
  |cons q ps=>
   simp only[xjoin,List.length_append,List.length_cons] at h2 ⊢
   rw[Nat.add_mul (ps.length+1) 1 (M+1)]
   omega
theorem xdec_le(n:Nat)(h:n<256):(xdec n).length<=3:=by
 by_cases h1:n<10
 ·rw[xdec_small h1];simp
 ·rw[xdec_big h1]
  by_cases h2:n / 10<10
  ·rw[xdec_small h2];simp
  ·rw[xdec_big h2,xdec_small (by omega)];simp
def sht(zs:List Int):List ByteArray:=zs.map fun z=>lb (xdec z.toNat)
theorem sht_snoc(zs:List Int)(z:Int):sht (zs++[z])=sht zs++[lb (xdec z.toNat)]:=by simp[sht]
theorem sht_nums(zs:List Int):(sht zs).map nums=zs.map fun z=>xdec z.toNat:=by
 unfold sht
 rw[List.map_map]
 apply List.map_congr_left
 intro z _
 exact nums_xdec _
def u16s(l:List Nat):List Value:=l.map fun (n:Nat)=>Value.int .u16 (n:Int)
def hxt(l:List Nat):List ByteArray:=l.map fun n=>lb (xhex n)
theorem hxt_snoc(l:List Nat)(n:Nat):hxt (l++[n])=hxt l++[lb (xhex n)]:=by simp[hxt]
theorem hxt_nums(l:List Nat):(hxt l).map nums=l.map xhex:=by
 unfold hxt
 rw[List.map_map]
 apply List.map_congr_left
 intro z _
 exact nums_xhex _
theorem take_snocN(l:List Nat)(k:Nat)(h:k<l.length):l.take (k+1)=l.take k++[l[k]]:=by rw[List.take_add_one,List.getElem?_eq_getElem h];rfl
theorem join_any(sep:UInt8)(ao:Option Addr)(n c:Nat)(ss:List ByteArray)(w:World)(hr:RdT w ao ss)(hl:ss.length=n)(hc:n<=c)(hn:n<=1000000000)(hz:(xjoin sep.toNat (ss.map nums)).length<=140737488355328) :
  Calls Tryz.prog 113 #[.slice ao n c,.string ⟨#[sep]⟩] w fun e w'=>e=.returned (.string (lb (xjoin sep.toNat (ss.map nums))))/\Hid (Below w.heap.size w w'):=by
 have hj:bi (Lib.join (ss.map (·.data.toList)) [sep])=xjoin sep.toNat (ss.map nums):=by
  rw[join_x,List.map_map];rfl
 subst hl
 cases ss with
 |nil=>
  refine (Tryz.strings_Join_none ao c ⟨#[sep]⟩ w).mono ?_
  rintro e w' ⟨rfl,rfl⟩
  exact ⟨rfl,Below.refl _ _⟩
 |cons s ss=>
  obtain ⟨b,o,rfl,hb,_⟩:=hr.at 0 (by simp)
  refine (Tryz.strings_Join b o c (s::ss) ⟨#[sep]⟩ w (fun j x hx=>?_) hb (by omega) hc (by rw[<- bi_len];show (bi (Lib.join _ [sep])).length<=_;rw[hj];exact hz)).mono ?_
  ·obtain ⟨hj1,hj2⟩:=List.getElem?_eq_some_iff.1 hx
   obtain ⟨b',o',e,_,hcell⟩:=hr.at j hj1
   injection e with e
   injection e with e1 e2
   subst e1;subst e2
   rw[hcell,hj2]
  ·rintro e w' ⟨rfl,hbel⟩
   refine ⟨?_,hbel⟩
   rw[<- hj,lb_bi]
theorem stext_any(a:Option Addr)(n c:Nat)(zs:List Int)(w:World)(hr:Rd w a zs)(hl:zs.length=n)(hn:n<=1000)(hL:LayT w) :
  Calls Tryz.prog 203 #[.slice a n c] w fun e w'=>e=.returned (.string (lb (xjoin 46 (zs.map fun z=>xdec z.toNat))))/\Hid (Below w.heap.size w w'):=by
 have HR:Hid (Rd w a zs):=hr
 have HLn:Hid (zs.length=n):=hl
 have HL:Hid (LayT w):=hL
 clear hr hl hL
 go_enter Tryz.func203,Tryz.ntmps203
 go_wp2_with fail
 go_loopw [3,8] (fun v x wr=>∃k:Nat,k<=n/\x=.int .i64 k/\Hid (∃ys,OwnT w.heap.size wr v k ys 1000/\ys.take k=sht (zs.take k))/\Hid (Below w.heap.size w wr)) (fun _ x _=>n - (intOf x).toNat)
 case atStart=>exact ⟨0,Nat.zero_le _,rfl,⟨[],OwnT.nil _ _ _,rfl⟩,Below.refl _ _⟩
 case round=>
  obtain ⟨k,hk,rfl,HW,HB⟩:=hrel
  by_cases hlt:k<n
  ·have hlt':(k:Int)<(n:Int):=by omega
   have hkz:k<zs.length:=by rw[HLn.out];exact hlt
   have hbd:=HR.out.bd k
   have HT:Hid (sht (zs.take (k+1))=sht (zs.take k)++[lb (xdec (zs.getD k 0).toNat)]):=by show _=_;rw[take_snoc zs k hkz,sht_snoc]
   obtain ⟨b,o,rfl,hb,hc⟩:∃b o,a=some ⟨b,o,none⟩/\b<wr.heap.size/\wr.cell? ⟨b,o+k,none⟩=some (.int .u8 (zs.getD k 0)):=by
    rcases (HR.out.below HB.out).1 with h1|⟨b,o,h1,h2,h3⟩
    ·rw[h1] at hkz;simp at hkz
    ·exact ⟨b,o,h1,h2,h3 k hkz⟩
   obtain ⟨u,hu⟩:∃u:Nat,zs.getD k 0=(u:Int):=⟨(zs.getD k 0).toNat,by omega⟩
   rw[hu] at hc HT hbd
   simp only[Int.toNat_natCast] at HT
   clear hu
   have hsz:(lb (xdec u)).size<=1000:=by have:=xdec_le u (by omega);rw[<- nums_len,nums_xdec];omega
   have K:=Lib.hid (fun W hW=>itoa_nat u (by omega) W hW)
   rw[dec_lb u] at K
   generalize lb (xdec u)=f at*
   go_wp2_with fail
   refine (K.out _ (HL.out.below HB.out)).mono ?_
   rintro e w2 ⟨rfl,H2⟩
   obtain ⟨ys,hO,hT⟩:=HW.out
   have hnb:Below w2.heap.size w2 (w2.alloc (.cells #[.string f] 9)):=(Below.refl _ _).alloc (Nat.le_refl _) _
   have HO2:Hid (OwnT w.heap.size (w2.alloc (.cells #[.string f] 9)) u3 k ys 1000/\ys.take k=sht (zs.take k)):=⟨(hO.below H2.out).below hnb,hT⟩
   have HNB:Hid (Below w2.heap.size w2 (w2.alloc (.cells #[.string f] 9))):=hnb
   have HB3:Hid (Below w.heap.size w w2):=HB.out.trans (H2.out.mono HB.out.size)
   clear hO hT hnb HW H2 HB
   go_wp2_with (at_builtin;refine wpList_append_T tyT _ rfl _ _ 22 9 Tryz.underlying22 rfl w.heap.size _ k ys 1000 rfl HO2.out.1 (some ⟨w2.heap.size,0,none⟩) 1 1 [f] rfl (one_rdT w2 f) rfl (by intro s hs;simp at hs;subst hs;exact hsz) (by omega) (Nat.le_trans HB3.out.size HNB.out.size) ?_;intro v' w' ys' hO' hT' hG')
   have hrow:=HO2.out.1.1.lt
   refine ⟨⟨k+1,by omega,by go_num,⟨ys',hO'.out,?_⟩,?_⟩,by simp[intOf];omega⟩
   ·rw[hT'.out,HO2.out.2,HT.out]
   ·exact (HB3.out.trans (HNB.out.mono HB3.out.size)).grown hG' (Nat.le_trans HB3.out.size HNB.out.size) hrow
  ·have hge:¬ (k:Int)<(n:Int):=by omega
   have hkn:k=n:=by omega
   subst hkn
   obtain ⟨ys,hO,hT⟩:=HW.out
   obtain ⟨ao,rfl,hnil⟩:=hO.shape
   have hle:=hO.le
   have HJ:Hid (Calls Tryz.prog 113 #[.slice ao k ys.length,.string ⟨#[46]⟩] wr fun e w'=>e=.returned (.string (lb (xjoin 46 (zs.map fun z=>xdec z.toNat))))/\Hid (Below wr.heap.size wr w')):=by
    have ht:zs.take k=zs:=List.take_of_length_le (by rw[HLn.out];exact Nat.le_refl _)
    have hr:=hO.rd k
    rw[hT,ht] at hr
    have hlen:(sht zs).length=k:=by unfold sht;rw[List.length_map,HLn.out]
    have hm:=xjoin_len 46 ((sht zs).map nums) 3 (by
     rw[sht_nums]
     intro p hp
     obtain ⟨z,hz,rfl⟩:=List.mem_map.1 hp
     have:=HR.out.2 z hz
     exact xdec_le _ (by omega))
    rw[List.length_map,hlen] at hm
    have:=join_any 46 ao k ys.length (sht zs) wr hr hlen hle.1 (by omega) (by show (xjoin 46 _).length<=_;omega)
    rw[sht_nums] at this
    exact this
   clear hO hT HW hnil hle
   generalize ys.length=yl at*
   obtain ⟨R,hR⟩:∃R,lb (xjoin 46 (zs.map fun z=>xdec z.toNat))=R:=⟨_,rfl⟩
   have HRR:Hid (lb (xjoin 46 (zs.map fun z=>xdec z.toNat))=R):=hR
   rw[hR] at HJ
   clear hR
   go_wp2_with fail
   refine HJ.out.mono ?_
   rintro e w2 ⟨rfl,H2⟩
   have HB3:Hid (Below w.heap.size w w2):=HB.out.trans (H2.out.mono HB.out.size)
   go_wp2_with fail
   go_ret
   exact ⟨by rw[HRR.out];rfl,HB3.out⟩
theorem joined_any(a:Option Addr)(n c:Nat)(l:List Nat)(w:World)(hr:RdV w a (u16s l))(hl:l.length=n)(hn:n<=8)(hb:∀x∈l,x<65536)(hL:LayT w) :
  Calls Tryz.prog 219 #[.slice a n c] w fun e w'=>e=.returned (.string (lb (xcol l)))/\Hid (Below w.heap.size w w'):=by
 have HR:Hid (RdV w a (u16s l)):=hr
 have HLn:Hid (l.length=n/\∀x∈l,x<65536):=⟨hl,hb⟩
 have HL:Hid (LayT w):=hL
 clear hr hl hL hb
 go_enter Tryz.func219,Tryz.ntmps219
 go_wp2_with fail
 go_loopw [3,8] (fun v x wr=>∃k:Nat,k<=n/\x=.int .i64 k/\Hid (∃ys,OwnT w.heap.size wr v k ys 1000/\ys.take k=hxt (l.take k))/\Hid (Below w.heap.size w wr)) (fun _ x _=>n - (intOf x).toNat)
 case atStart=>exact ⟨0,Nat.zero_le _,rfl,⟨[],OwnT.nil _ _ _,rfl⟩,Below.refl _ _⟩
 case round=>
  obtain ⟨k,hk,rfl,HW,HB⟩:=hrel
  by_cases hlt:k<n
  ·have hlt':(k:Int)<(n:Int):=by omega
   have hkz:k<l.length:=by rw[HLn.out.1];exact hlt
   have hu:l[k]<65536:=HLn.out.2 _ (List.getElem_mem hkz)
   have HT:Hid (hxt (l.take (k+1))=hxt (l.take k)++[lb (xhex l[k])]):=by show _=_;rw[take_snocN l k hkz,hxt_snoc]
   obtain ⟨b,o,rfl,hb,hc⟩:∃b o,a=some ⟨b,o,none⟩/\b<wr.heap.size/\wr.cell? ⟨b,o+k,none⟩=some (.int .u16 (l[k]:Int)):=by
    rcases HR.out.below HB.out with h1|⟨b,o,h1,h2,h3⟩
    ·have h9:(u16s l).length=0:=by rw[h1];rfl
     simp only[u16s,List.length_map] at h9
     omega
    ·refine ⟨b,o,h1,h2,?_⟩
     have:=h3 k (by simp[u16s];exact hkz)
     rw[this];simp[u16s]
   generalize l[k]=u at*
   have hsz:(lb (xhex u)).size<=1000:=by have:=xhex_len u hu;rw[<- nums_len,nums_xhex];omega
   have K:=Lib.hid (fun W hW=>fmt16 u hu W hW)
   generalize lb (xhex u)=f at*
   have hu':(u:Int)<65536:=by omega
   go_wp2_with fail
   refine (K.out _ (HL.out.below HB.out)).mono ?_
   rintro e w2 ⟨rfl,H2⟩
   obtain ⟨ys,hO,hT⟩:=HW.out
   have hnb:Below w2.heap.size w2 (w2.alloc (.cells #[.string f] 9)):=(Below.refl _ _).alloc (Nat.le_refl _) _
   have HO2:Hid (OwnT w.heap.size (w2.alloc (.cells #[.string f] 9)) u3 k ys 1000/\ys.take k=hxt (l.take k)):=⟨(hO.below H2.out).below hnb,hT⟩
   have HNB:Hid (Below w2.heap.size w2 (w2.alloc (.cells #[.string f] 9))):=hnb
   have HB3:Hid (Below w.heap.size w w2):=HB.out.trans (H2.out.mono HB.out.size)
   clear hO hT hnb HW H2 HB
   go_wp2_with (at_builtin;refine wpList_append_T tyT _ rfl _ _ 22 9 Tryz.underlying22 rfl w.heap.size _ k ys 1000 rfl HO2.out.1 (some ⟨w2.heap.size,0,none⟩) 1 1 [f] rfl (one_rdT w2 f) rfl (by intro s hs;simp at hs;subst hs;exact hsz) (by omega) (Nat.le_trans HB3.out.size HNB.out.size) ?_;intro v' w' ys' hO' hT' hG')
   have hrow:=HO2.out.1.1.lt
   refine ⟨⟨k+1,by omega,by go_num,⟨ys',hO'.out,?_⟩,?_⟩,by simp[intOf];omega⟩
   ·rw[hT'.out,HO2.out.2,HT.out]
   ·exact (HB3.out.trans (HNB.out.mono HB3.out.size)).grown hG' (Nat.le_trans HB3.out.size HNB.out.size) hrow
  ·have hge:¬ (k:Int)<(n:Int):=by omega
   have hkn:k=n:=by omega
   subst hkn
   obtain ⟨ys,hO,hT⟩:=HW.out
   obtain ⟨ao,rfl,hnil⟩:=hO.shape
   have hle:=hO.le
   have HJ:Hid (Calls Tryz.prog 113 #[.slice ao k ys.length,.string ⟨#[58]⟩] wr fun e w'=>e=.returned (.string (lb (xcol l)))/\Hid (Below wr.heap.size wr w')):=by
    have ht:l.take k=l:=List.take_of_length_le (by rw[HLn.out.1];exact Nat.le_refl _)
    have hr:=hO.rd k
    rw[hT,ht] at hr
    have hlen:(hxt l).length=k:=by unfold hxt;rw[List.length_map,HLn.out.1]
    have hm:=xjoin_len 58 ((hxt l).map nums) 4 (by
     rw[hxt_nums]
     intro p hp
     obtain ⟨z,hz,rfl⟩:=List.mem_map.1 hp
     exact (xhex_len _ (HLn.out.2 z hz)).2)
    rw[List.length_map,hlen] at hm
    have:=join_any 58 ao k ys.length (hxt l) wr hr hlen hle.1 (by omega) (by show (xjoin 58 _).length<=_;omega)
    rw[hxt_nums] at this
    exact this
   clear hO hT HW hnil hle
   generalize ys.length=yl at*
   obtain ⟨R,hR⟩:∃R,lb (xcol l)=R:=⟨_,rfl⟩
   have HRR:Hid (lb (xcol l)=R):=hR
   rw[hR] at HJ
   clear hR
   go_wp2_with fail
   refine HJ.out.mono ?_
   rintro e w2 ⟨rfl,H2⟩
   have HB3:Hid (Below w.heap.size w w2):=HB.out.trans (H2.out.mono HB.out.size)
   go_wp2_with fail
   go_ret
   exact ⟨by rw[HRR.out];rfl,HB3.out⟩
theorem run_any(l:List Nat)(h8:l.length=8)(w:World) :
  Calls Tryz.prog 218 #[.agg (u16s l).toArray] w fun e w'=>e=.returned (.tuple #[.int .i64 ((lrunK l 8).1:Int),.int .i64 ((lrunK l 8).2.1:Int)])/\Hid (Below w.heap.size w w'):=by
 match l,h8 with
 |[a0,a1,a2,a3,a4,a5,a6,a7],_=>
  obtain ⟨L,hL⟩:∃L,L=[a0,a1,a2,a3,a4,a5,a6,a7]:=⟨_,rfl⟩
  have H8:Hid (L.length=8):=by show _=_;rw[hL];rfl
  have HV:Hid (BlkV (w.alloc (.cells #[.int .u16 (a0:Int),.int .u16 (a1:Int),.int .u16 (a2:Int),.int .u16 (a3:Int),.int .u16 (a4:Int),.int .u16 (a5:Int),.int .u16 (a6:Int),.int .u16 (a7:Int)] 249)) w.heap.size 249 (u16s L)/\Below w.heap.size w (w.alloc (.cells #[.int .u16 (a0:Int),.int .u16 (a1:Int),.int .u16 (a2:Int),.int .u16 (a3:Int),.int .u16 (a4:Int),.int .u16 (a5:Int),.int .u16 (a6:Int),.int .u16 (a7:Int)] 249))):=by
   refine ⟨?_,(Below.refl _ _).alloc (Nat.le_refl _) _⟩
   rw[hL]
   exact heap_alloc_new _ _
  rw[<- hL]
  have HLL:=Lib.hid hL
  clear hL
  have e0:(u16s L).toArray=#[.int .u16 (a0:Int),.int .u16 (a1:Int),.int .u16 (a2:Int),.int .u16 (a3:Int),.int .u16 (a4:Int),.int .u16 (a5:Int),.int .u16 (a6:Int),.int .u16 (a7:Int)]:=by rw[HLL.out];rfl
  rw[e0]
  clear e0
  go_enter Tryz.func218,Tryz.ntmps218
  go_wp2_with fail
  generalize (w.alloc (.cells #[.int .u16 (a0:Int),.int .u16 (a1:Int),.int .u16 (a2:Int),.int .u16 (a3:Int),.int .u16 (a4:Int),.int .u16 (a5:Int),.int .u16 (a6:Int),.int .u16 (a7:Int)] 249))=wa at*
  go_loopw [4,5,6,7] (fun x y z v wr=>∃(k f t m:Nat),k<=8/\x=.int .i64 (f:Int)/\y=.int .i64 (t:Int)/\z=.int .i64 (m:Int)/\v=.int .i64 (k:Int)/\Hid (lrunK L k=(f,t,m))/\Hid (BlkV wr w.heap.size 249 (u16s L)/\Below w.heap.size w wr)) (fun _ _ _ v _=>8 - (intOf v).toNat)
  case atStart=>exact ⟨0,0,0,0,by omega,rfl,rfl,rfl,rfl,rfl,HV⟩
  case round=>
   obtain ⟨k,f,t,m,hk,rfl,rfl,rfl,rfl,HR,HW⟩:=hrel
   have hok:=lrunK_ok L k
   rw[HR.out] at hok
   simp only at hok
   obtain ⟨o1,o2,o3⟩:=hok
   by_cases hlt:k<8
   ·have hlt':(k:Int)<8:=by omega
    have hkl:k<L.length:=by rw[H8.out];exact hlt
    have hc:=HW.out.1.cell k (by simp[u16s];exact hkl)
    have hcv:(u16s L)[k]'(by simp[u16s];exact hkl)=.int .u16 ((L[k]:Nat):Int):=by simp[u16s]
    rw[hcv] at hc
    clear hcv
    have HS:Hid (lrunK L (k+1)=lstep L (f,t,m) k):=by show _=_;rw[lrunK_succ,HR.out]
    have hgd:L.getD k 0=L[k]:=by rw[List.getD_eq_getElem?_getD,List.getElem?_eq_getElem hkl];rfl
    have HS2:Hid (lrunK L (k+1)=if max 1 (t - f)<k+1 - (if L[k]≠0 then k+1 else m) then ((if L[k]≠0 then k+1 else m),k+1,(if L[k]≠0 then k+1 else m)) else (f,t,(if L[k]≠0 then k+1 else m))):=by
     show _=_
     rw[HS.out]
     unfold lstep
     rw[hgd]
    clear HS hgd
    generalize L[k]=q at*
    by_cases hq:q=0
    ·subst hq
     simp only[ne_eq,not_true,if_false] at HS2
     by_cases hm:1<=t - f
     ·have hmx:max (1:Nat) (t - f)=t - f:=Nat.max_eq_right hm
      rw[hmx] at HS2
      have hm':(1:Int)<=(t:Int) - (f:Int):=by omega
      by_cases hg:t - f<k+1 - m
      ·rw[if_pos hg] at HS2
       have hg':(t:Int) - (f:Int)<(k:Int)+1 - (m:Int):=by omega
       go_wp2_with fail
       all_goals first
        |exact ⟨⟨k+1,m,k+1,m,by omega,rfl,by go_num,rfl,by go_num,HS2,HW⟩,by simp[intOf];omega⟩
        |(exfalso;omega)
      ·rw[if_neg hg] at HS2
       have hg':¬ (t:Int) - (f:Int)<(k:Int)+1 - (m:Int):=by omega
       go_wp2_with fail
       all_goals first
        |exact ⟨⟨k+1,f,t,m,by omega,rfl,rfl,rfl,by go_num,HS2,HW⟩,by simp[intOf];omega⟩
        |(exfalso;omega)
     ·have hmx:max (1:Nat) (t - f)=1:=Nat.max_eq_left (by omega)
      rw[hmx] at HS2
      have hm':(t:Int) - (f:Int)<1:=by omega
      by_cases hg:1<k+1 - m
      ·rw[if_pos hg] at HS2
       have hg':(1:Int)<(k:Int)+1 - (m:Int):=by omega
       go_wp2_with fail
       all_goals first
        |exact ⟨⟨k+1,m,k+1,m,by omega,rfl,by go_num,rfl,by go_num,HS2,HW⟩,by simp[intOf];omega⟩
        |(exfalso;omega)
      ·rw[if_neg hg] at HS2
       have hg':¬ (1:Int)<(k:Int)+1 - (m:Int):=by omega
       go_wp2_with fail
       all_goals first
        |exact ⟨⟨k+1,f,t,m,by omega,rfl,rfl,rfl,by go_num,HS2,HW⟩,by simp[intOf];omega⟩
        |(exfalso;omega)
    ·have hq':¬ (q:Int)=0:=by omega
     have hq2:((q:Int) != 0)=true:=by simp;omega
     simp only[ne_eq,hq,not_false_eq_true,if_true,Nat.sub_self] at HS2
     rw[if_neg (by omega)] at HS2
     go_wp2_with fail
     all_goals first
      |exact ⟨⟨k+1,f,t,k+1,by omega,rfl,rfl,by go_num,by go_num,HS2,HW⟩,by simp[intOf];omega⟩
      |(exfalso;omega)
   ·have hge:¬ (k:Int)<8:=by omega
    have hk8:k=8:=by omega
    subst hk8
    go_wp2_with fail
    go_ret2
    exact ⟨by rw[HR.out];rfl,HW.out.2⟩
theorem or8(x y:Int)(hx:0<=x/\x<=255)(hy:0<=y/\y<=255):bits .or .u16 (x*256) y=x*256+y:=by
 obtain ⟨a,rfl⟩:∃a:Nat,x=(a:Int):=⟨x.toNat,by omega⟩
 obtain ⟨b,rfl⟩:∃b:Nat,y=(b:Int):=⟨y.toNat,by omega⟩
 have h:=u16_or ((a:Int)*256) (b:Int) (by omega) (by omega) (by omega) (by omega)
 rw[h]
 have e1:((a:Int)*256).toNat=a <<< 8:=by rw[Nat.shiftLeft_eq];omega
 have e2:((b:Int)).toNat=b:=by omega
 rw[e1,e2,<- Nat.shiftLeft_add_eq_or_of_lt (show b<2 ^ 8 by omega),Nat.shiftLeft_eq]
 omega
theorem xprs_at:∀(k:Nat) (zs:List Int),2*k+1<zs.length->(xprs zs)[k]?=some (256*(zs.getD (2*k) 0).toNat+(zs.getD (2*k+1) 0).toNat)
 |0,a::b::l,_=>by simp[xprs]
 |k+1,a::b::l,h=>by
  have:=xprs_at k l (by simp at h;omega)
  simp only[xprs,List.getElem?_cons_succ,this]
  rw[show 2*(k+1)=2*k+1+1 by omega,show 2*k+1+1+1=(2*k+1)+1+1 by omega]
  rfl
 |0,[],h=>by simp at h
 |0,[a],h=>by simp at h
 |k+1,[],h=>by simp at h
 |k+1,[a],h=>by simp at h
def fill(l:List Nat)(k:Nat):List Nat:=l.take k++List.replicate (8 - k) 0
theorem fill_len(l:List Nat)(k:Nat)(h8:l.length=8)(hk:k<=8):(fill l k).length=8:=by simp[fill];omega
theorem fill_set(l:List Nat)(k:Nat)(h8:l.length=8)(hk:k<8):(u16s (fill l k)).set k (.int .u16 ((l[k]'(by omega):Nat):Int))=u16s (fill l (k+1)):=by
 unfold u16s
 have e:(fill l k).set k (l[k]'(by omega))=fill l (k+1):=by
  unfold fill
  rw[List.set_append_right _ _ (by simp;omega)]
  rw[show 8 - k=(8 - (k+1))+1 by omega,List.replicate_succ]
  simp only[List.length_take]
  rw[show k - min k l.length=0 by omega,List.set_cons_zero,take_snocN l k (by omega),List.append_assoc]
  rfl
 rw[<- e,List.map_set]
theorem sl8h(g k:Nat)(hk:k<=8)(W:World):(Instr.sliceAt 249 (.pointer (some ⟨g,0,none⟩)) none (some (.int .i64 (k:Int))) none).run Tryz.prog W=.ok (.slice (some ⟨g,0,none⟩) k 8) W:=by
 have hal:Tryz.prog.arrayLen 249=8:=by kernel_rfl
 rw[run_sliceAt_array_h W 249 ⟨g,0,none⟩ (by simp[Program.arrayLen,Program.elem,Tryz.underlying249]) .i64 (k:Int) (by omega) (by rw[hal];omega)]
 go_simp
theorem sl8l(g k:Nat)(hk:k<=8):∃ta,(∀W,(Instr.sliceAt 249 (.pointer (some ⟨g,0,none⟩)) (some (.int .i64 (k:Int))) none none).run Tryz.prog W=.ok (.slice ta (8 - k) (8 - k)) W)/\((ta=some ⟨g,k,none⟩/\k<8)∨(ta=some ⟨g,0,none⟩/\k=8)):=by
 have hal:Tryz.prog.arrayLen 249=8:=by kernel_rfl
 by_cases h8:k=8
 ·subst h8
  refine ⟨_,fun W=>?_,.inr ⟨rfl,rfl⟩⟩
  rw[run_sliceAt_array_l W 249 ⟨g,0,none⟩ (by simp[Program.arrayLen,Program.elem,Tryz.underlying249]) .i64 ((8:Nat):Int) (by omega) (by rw[hal];omega)]
  go_simp
 ·refine ⟨_,fun W=>?_,.inl ⟨rfl,by omega⟩⟩
  rw[run_sliceAt_array_l W 249 ⟨g,0,none⟩ (by simp[Program.arrayLen,Program.elem,Tryz.underlying249]) .i64 (k:Int) (by omega) (by rw[hal];omega)]
  go_simp
  omega
theorem ltext_any(a:Option Addr)(c:Nat)(zs:List Int)(w:World)(hr:Rd w a zs)(hl:zs.length=16)(hL:LayT w) :
  Calls Tryz.prog 204 #[.slice a 16 c] w fun e w'=>e=.returned (.string (lb (xa6 (xprs zs))))/\Hid (Below w.heap.size w w'):=by
 have HR:Hid (Rd w a zs):=hr
 have HLn:Hid (zs.length=16):=hl
 have HL:Hid (LayT w):=hL
 have hbz:=hr.2
 obtain ⟨i1,i2,i3⟩:=xprs_by zs 8 (by omega) hbz
 have HX:Hid ((xprs zs).length=8/\(∀n∈xprs zs,n<65536)/\∀k,k<8->(xprs zs)[k]?=some (256*(zs.getD (2*k) 0).toNat+(zs.getD (2*k+1) 0).toNat)):=⟨i1,i3,fun k hk=>xprs_at k zs (by omega)⟩
 clear i1 i2 i3 hbz hr hl hL
 obtain ⟨b,o,rfl,hb⟩:∃b o,a=some ⟨b,o,none⟩/\b<w.heap.size:=by
  rcases HR.out.1 with h1|⟨b,o,h1,h2,h3⟩
  ·have:=HLn.out;rw[h1] at this;simp at this
  ·exact ⟨b,o,h1,h2⟩
 generalize xprs zs=L at*
 have H0:Hid (BlkV (w.alloc (.cells #[.int .u16 0,.int .u16 0,.int .u16 0,.int .u16 0,.int .u16 0,.int .u16 0,.int .u16 0,.int .u16 0] 249)) w.heap.size 249 (u16s (fill L 0))/\Below w.heap.size w (w.alloc (.cells #[.int .u16 0,.int .u16 0,.int .u16 0,.int .u16 0,.int .u16 0,.int .u16 0,.int .u16 0,.int .u16 0] 249))):=⟨by
  have e:u16s (fill L 0)=#[.int .u16 0,.int .u16 0,.int .u16 0,.int .u16 0,.int .u16 0,.int .u16 0,.int .u16 0,.int .u16 0].toList:=by simp[fill,u16s,List.replicate]
  unfold BlkV
  rw[e]
  exact heap_alloc_new _ _,(Below.refl _ _).alloc (Nat.le_refl _) _⟩
 go_enter Tryz.func204,Tryz.ntmps204
 go_wp2_with fail
 generalize (w.alloc (.cells #[.int .u16 0,.int .u16 0,.int .u16 0,.int .u16 0,.int .u16 0,.int .u16 0,.int .u16 0,.int .u16 0] 249))=wa at*
 go_loopw [7] (fun x wr=>∃k:Nat,k<=8/\x=.int .i64 k/\Hid (BlkV wr w.heap.size 249 (u16s (fill L k))/\Below w.heap.size w wr)) (fun x _=>8 - (intOf x).toNat)
 case atStart=>exact ⟨0,by omega,rfl,H0⟩
 case round=>
  obtain ⟨k,hk,rfl,HW⟩:=hrel
  clear H0
  by_cases hlt:k<8
  ·have hlt':(k:Int)<8:=by omega
   have hR:=HR.out.below HW.out.2
   have hrd:∀i,i<16->wr.cell? ⟨b,o+i,none⟩=some (.int .u8 (zs.getD i 0)):=by
    intro i hi
    rcases hR.1 with h1|⟨b',o',h1,h2,h3⟩
    ·have:=HLn.out;rw[h1] at this;simp at this
    ·injection h1 with h1
     injection h1 with e1 e2
     subst e1;subst e2
     exact h3 i (by rw[HLn.out];exact hi)
   have hc1:=hrd (2*k) (by omega)
   have hc2:=hrd (2*k+1) (by omega)
   have hb1:=hR.bd (2*k)
   have hb2:=hR.bd (2*k+1)
   have hkl:k<L.length:=by rw[HX.out.1];exact hlt
   have hv:((L[k]:Nat):Int)=zs.getD (2*k) 0*256+zs.getD (2*k+1) 0:=by
    have:=HX.out.2.2 k hlt
    rw[List.getElem?_eq_getElem hkl] at this
    injection this with this
    rw[this];omega
   have HST:Hid ((u16s (fill L k)).set k (.int .u16 (zs.getD (2*k) 0*256+zs.getD (2*k+1) 0))=u16s (fill L (k+1))):=by
    show _=_
    rw[<- hv]
    exact fill_set L k HX.out.1 hlt
   have hlen:k<(u16s (fill L k)).length:=by unfold u16s;rw[List.length_map,fill_len L k HX.out.1 (by omega)];exact hlt
   have hc3:=HW.out.1.cell k hlen
   have hf3:=HW.out.1.frozen k
   generalize (u16s (fill L k))[k]=c0 at hc3
   clear hrd hR hv
   generalize zs.getD (2*k) 0=x at*
   generalize zs.getD (2*k+1) 0=y at*
   have hor:=or8 x y hb1 hb2
   have hw1:IntKind.u16.wrap (x*256)=x*256:=by rw[IntKind.wrap_u16];omega
   go_wp2_with fail
   go_region
   go_wp2
   refine ⟨⟨k+1,by omega,by go_num,?_,?_⟩,by simp[intOf];omega⟩
   ·have:=HW.out.1.stored k (.int .u16 (x*256+y))
    rw[HST.out] at this
    exact this
   ·exact (HW.out.2.setCell (show w.heap.size<=(⟨w.heap.size,k,none⟩:Addr).block from Nat.le_refl _) _).drew
  ·have hge:¬ (k:Int)<8:=by omega
   have hk8:k=8:=by omega
   subst hk8
   obtain ⟨a0,a1,a2,a3,a4,a5,a6,a7,rfl⟩:∃a0 a1 a2 a3 a4 a5 a6 a7,L=[a0,a1,a2,a3,a4,a5,a6,a7]:=by
    have:=HX.out.1
    match L,this with
    |[a0,a1,a2,a3,a4,a5,a6,a7],_=>exact ⟨a0,a1,a2,a3,a4,a5,a6,a7,rfl⟩
   have HV:Hid (BlkV wr w.heap.size 249 (u16s [a0,a1,a2,a3,a4,a5,a6,a7])):=HW.out.1
   have HB:Hid (Below w.heap.size w wr):=HW.out.2
   have d0:wr.cell? ⟨w.heap.size,0,none⟩=some (.int .u16 (a0:Int)):=HV.out.cell 0 (by simp[u16s])
   have d1:wr.cell? ⟨w.heap.size,1,none⟩=some (.int .u16 (a1:Int)):=HV.out.cell 1 (by simp[u16s])
   have d2:wr.cell? ⟨w.heap.size,2,none⟩=some (.int .u16 (a2:Int)):=HV.out.cell 2 (by simp[u16s])
   have d3:wr.cell? ⟨w.heap.size,3,none⟩=some (.int .u16 (a3:Int)):=HV.out.cell 3 (by simp[u16s])
   have d4:wr.cell? ⟨w.heap.size,4,none⟩=some (.int .u16 (a4:Int)):=HV.out.cell 4 (by simp[u16s])
   have d5:wr.cell? ⟨w.heap.size,5,none⟩=some (.int .u16 (a5:Int)):=HV.out.cell 5 (by simp[u16s])
   have d6:wr.cell? ⟨w.heap.size,6,none⟩=some (.int .u16 (a6:Int)):=HV.out.cell 6 (by simp[u16s])
   have d7:wr.cell? ⟨w.heap.size,7,none⟩=some (.int .u16 (a7:Int)):=HV.out.cell 7 (by simp[u16s])
   have K:=Lib.hid (show Calls Tryz.prog 218 #[.agg #[.int .u16 (a0:Int),.int .u16 (a1:Int),.int .u16 (a2:Int),.int .u16 (a3:Int),.int .u16 (a4:Int),.int .u16 (a5:Int),.int .u16 (a6:Int),.int .u16 (a7:Int)]] wr _ from run_any [a0,a1,a2,a3,a4,a5,a6,a7] rfl wr)
   have hok:=lrunK_ok [a0,a1,a2,a3,a4,a5,a6,a7] 8
   have HA6:=Lib.hid (xa6_run [a0,a1,a2,a3,a4,a5,a6,a7] rfl)
   have HBD:=Lib.hid HX.out.2.1
   obtain ⟨f,hf⟩:∃f,(lrunK [a0,a1,a2,a3,a4,a5,a6,a7] 8).1=f:=⟨_,rfl⟩
   obtain ⟨t,ht⟩:∃t,(lrunK [a0,a1,a2,a3,a4,a5,a6,a7] 8).2.1=t:=⟨_,rfl⟩
   rw[hf,ht] at K HA6 hok
   obtain ⟨o1,o2,-⟩:=hok
   clear hf ht HW HX HR HLn
   obtain ⟨M,hM⟩:∃M,M=[a0,a1,a2,a3,a4,a5,a6,a7]:=⟨_,rfl⟩
   rw[<- hM] at HA6 HBD HV
   have HM:Hid (M.length=8/\M=[a0,a1,a2,a3,a4,a5,a6,a7]):=⟨by rw[hM];rfl,hM⟩
   clear hM
   go_wp2_with fail
   refine K.out.mono ?_
   rintro e w1 ⟨rfl,H1⟩
   have HV1:=Lib.hid (HV.out.below H1.out)
   have HB1:=Lib.hid (HB.out.trans (H1.out.mono HB.out.size))
   have HL1:=Lib.hid (HL.out.below HB1.out)
   clear d0 d1 d2 d3 d4 d5 d6 d7 K HV H1 HB HL
   by_cases hft:f=t
   ·subst hft
    have KJ:=Lib.hid (joined_any (some ⟨w.heap.size,0,none⟩) 8 8 M w1 (by have:=HV1.out.rd 8;rw[List.take_of_length_le (by simp[u16s,HM.out.1])] at this;exact this) HM.out.1 (by omega) HBD.out HL1.out)
    have HE:Hid (xa6 [a0,a1,a2,a3,a4,a5,a6,a7]=xcol M):=by rw[<- HM.out.2];exact HA6.out.1 rfl
    clear HV1 HL1 HA6 HBD
    go_wp2_with fail
    refine KJ.out.mono ?_
    rintro e w2 ⟨rfl,H2⟩
    have HB2:=Lib.hid (HB1.out.trans (H2.out.mono HB1.out.size))
    go_wp2_with fail
    go_ret
    exact ⟨by rw[HE.out];rfl,HB2.out⟩
   ·have hft':¬ (f:Int)=(t:Int):=by omega
    have hft2:((f:Int) == (t:Int))=false:=by rw[beq_eq_false_iff_ne];exact hft'
    have HE:Hid (xa6 [a0,a1,a2,a3,a4,a5,a6,a7]=xcol (M.take f)++58::58::xcol (M.drop t)):=by rw[<- HM.out.2];exact HA6.out.2 hft
    clear HA6
    have f8:(f:Int)<=8:=by omega
    have t8:(t:Int)<=8:=by omega
    have hcl:∀l:List Nat,(∀n∈l,n<65536)->l.length<=8->(lb (xcol l)).size<=100:=by
     intro l h1 h2
     have h3:(xcol l).length<=l.length*5:=by
      have:=xjoin_len 58 (l.map xhex) 4 (by
       intro p hp
       obtain ⟨z,hz,rfl⟩:=List.mem_map.1 hp
       exact (xhex_len _ (h1 z hz)).2)
      rw[List.length_map] at this
      exact this
     have:(lb (xcol l)).size=(xcol l).length:=by rw[<- nums_len,nums_lb _ (fun c hc=>by have:=xcol_ok l c hc;unfold xok at this;omega)]
     omega
    have hM8:=HM.out.1
    obtain ⟨r1,hr1⟩:∃r,lb (xcol (M.take f))=r:=⟨_,rfl⟩
    obtain ⟨r2,hr2⟩:∃r,lb (xcol (M.drop t))=r:=⟨_,rfl⟩
    have z1:r1.size<=100:=by rw[<- hr1];exact hcl _ (fun n hn=>HBD.out n (List.mem_of_mem_take hn)) (by simp;omega)
    have z2:r2.size<=100:=by rw[<- hr2];exact hcl _ (fun n hn=>HBD.out n (List.mem_of_mem_drop hn)) (by simp;omega)
    have HRR:Hid (lb (xcol (M.take f))=r1/\lb (xcol (M.drop t))=r2):=⟨hr1,hr2⟩
    have hal:Tryz.prog.arrayLen 249=8:=by kernel_rfl
    have hs1:∀W,(Instr.sliceAt 249 (.pointer (some ⟨w.heap.size,0,none⟩)) none (some (.int .i64 (f:Int))) none).run Tryz.prog W=.ok (.slice (some ⟨w.heap.size,0,none⟩) f 8) W:=sl8h w.heap.size f (by omega)
    obtain ⟨ta,hs2,hta⟩:=sl8l w.heap.size t (by omega)
    have hkey:∀W,BlkV W w.heap.size 249 (u16s M)->RdV W ta (u16s (M.drop t)):=by
     intro W hW
     rcases hta with ⟨rfl,_⟩|⟨rfl,ht8⟩
     ·have:=hW.rd 8
      have h2:=this.cut t (8 - t) (a':=some ⟨w.heap.size,t,none⟩) (fun _ b o e=>by injection e with e;injection e with e1 e2;subst e1;subst e2;simp)
      have e3:(((u16s M).take 8).drop t).take (8 - t)=u16s (M.drop t):=by
       rw[List.take_of_length_le (by simp[u16s,hM8]),List.take_of_length_le (by simp[u16s,hM8])]
       simp[u16s]
      rw[e3] at h2
      exact h2
     ·have:u16s (M.drop t)=[]:=by rw[List.drop_eq_nil_of_le (by omega)];rfl
      rw[this];exact .inl rfl
    have K:Hid (∀W v r,Hid (LayT W/\BlkV W w.heap.size 249 (u16s M)/\Below w.heap.size w W)->((v=.slice (some ⟨w.heap.size,0,none⟩) f 8/\r=r1)∨(v=.slice ta (8 - t) (8 - t)/\r=r2))->Calls Tryz.prog 219 #[v] W fun e w'=>e=.returned (.string r)/\Hid (LayT w'/\BlkV w' w.heap.size 249 (u16s M)/\Below w.heap.size w w')):=by
     intro W v r HS hv
     have fin:∀w',Below W.heap.size W w'->(LayT w'/\BlkV w' w.heap.size 249 (u16s M)/\Below w.heap.size w w'):=fun w' h=>⟨HS.out.1.below h,HS.out.2.1.below h,HS.out.2.2.trans (h.mono HS.out.2.2.size)⟩
     rcases hv with ⟨rfl,rfl⟩|⟨rfl,rfl⟩
     ·refine (joined_any (some ⟨w.heap.size,0,none⟩) f 8 (M.take f) W (by have:=HS.out.2.1.rd f;rw[show (u16s M).take f=u16s (M.take f) by simp[u16s]] at this;exact this) (by simp;omega) (by omega) (fun n hn=>HBD.out n (List.mem_of_mem_take hn)) HS.out.1).mono ?_
      rintro e w' ⟨rfl,H⟩
      exact ⟨by rw[HRR.out.1],fin w' H.out⟩
     ·refine (joined_any ta (8 - t) (8 - t) (M.drop t) W (hkey W HS.out.2.1) (by simp;omega) (by omega) (fun n hn=>HBD.out n (List.mem_of_mem_drop hn)) HS.out.1).mono ?_
      rintro e w' ⟨rfl,H⟩
      exact ⟨by rw[HRR.out.2],fin w' H.out⟩
    have HS:Hid (LayT w1/\BlkV w1 w.heap.size 249 (u16s M)/\Below w.heap.size w w1):=⟨HL1.out,HV1.out,HB1.out⟩
    have HD:Hid (∀W,Hid (LayT W/\BlkV W w.heap.size 249 (u16s M)/\Below w.heap.size w W)->Hid (LayT W.drew/\BlkV W.drew w.heap.size 249 (u16s M)/\Below w.heap.size w W.drew)):=fun W h=>⟨h.out.1.below (Below.refl _ _).drew,h.out.2.1,h.out.2.2.trans (Below.refl _ _).drew⟩
    have HEE:Hid (lb (xa6 [a0,a1,a2,a3,a4,a5,a6,a7])=r1++⟨#[58,58]⟩++r2):=by
     show _=_
     rw[HE.out,<- HRR.out.1,<- HRR.out.2]
     apply ByteArray.ext
     simp[lb,txt]
    clear hr1 hr2 hal hkey hta hcl HL1 HV1 HB1 HE HRR HBD HM hM8
    go_wp2_with fail
    go_region_with (go_at_call 219;refine (K.out _ _ _ (by first|exact HS|exact HD.out _ HS) (by first|exact .inl ⟨rfl,rfl⟩|exact .inr ⟨rfl,rfl⟩)).mono ?_;rintro e w9 ⟨rfl,HS⟩)
    all_goals
     go_wp2
     go_ret
     exact ⟨by rw[HEE.out];rfl,HS.out.2.2⟩
theorem atext_any(a:Option Addr)(n c:Nat)(zs:List Int)(w:World)(hr:Rd w a zs)(hl:zs.length=n)(hn:n=4∨n=16)(hL:LayT w) :
  Calls Tryz.prog 182 #[.slice a n c] w fun e w'=>e=.returned (.string (lb ((xaddr zs).getD [])))/\Hid (Below w.heap.size w w'):=by
 rcases hn with rfl|rfl
 ·have e:(xaddr zs).getD []=xjoin 46 (zs.map fun z=>xdec z.toNat):=by unfold xaddr;rw[if_pos hl];rfl
  have K:=Lib.hid (stext_any a 4 c zs w hr hl (by omega) hL)
  rw[e]
  clear hr hL e
  go_enter Tryz.func182,Tryz.ntmps182
  go_wp2_with fail
  refine K.out.mono ?_
  rintro e w1 ⟨rfl,H⟩
  go_wp2_with fail
  go_ret
  exact ⟨rfl,H.out⟩
 ·have e:(xaddr zs).getD []=xa6 (xprs zs):=by unfold xaddr;rw[if_neg (by omega),if_pos hl];rfl
  have K:=Lib.hid (ltext_any a c zs w hr hl hL)
  rw[e]
  clear hr hL e
  go_enter Tryz.func182,Tryz.ntmps182
  go_wp2_with fail
  refine K.out.mono ?_
  rintro e w1 ⟨rfl,H⟩
  go_wp2_with fail
  go_ret
  exact ⟨rfl,H.out⟩
end Go.Proofs.YtoppdmlmhigogaaGreatDoor
namespace Go.Proofs.YtoppdmlmhigogaaGreatDoor
open Go.ChangeShapes Go.WideShapes Go.ChangeAt Go.RowKit
theorem xq_snoc(l:List Int)(c:Int):xq (l++[c])=xq l++xq1 c:=by simp[xq]
theorem xq1_len(c:Int):(xq1 c).length<=4:=by unfold xq1;split <;> (try split) <;> simp
theorem xq_len(l:List Int):(xq l).length<=4*l.length:=by
 induction l with
 |nil=>simp[xq]
 |cons c l ih=>
  have:=xq1_len c
  simp only[xq,List.flatMap_cons,List.length_append,List.length_cons] at ih ⊢
  omega
def qs(l:List Int):List Value:=(34::xq l).map (Value.int .u8)
theorem quote_any(s:ByteArray)(w:World)(hs:s.size<=35184372088000) :
  Calls Tryz.prog 186 #[.string s] w fun e w'=>e=.returned (.string (xqw s))/\Hid (Below w.heap.size w w'):=by
 have H0:Hid (GS w.heap.size (w.alloc (.cells #[.pointer none,.slice none 0 0] 65)) w.heap.size []/\Below w.heap.size w (w.alloc (.cells #[.pointer none,.slice none 0 0] 65))):=⟨GS.fresh w,(Below.refl _ _).alloc (Nat.le_refl _) _⟩
 go_enter Tryz.func186,Tryz.ntmps186
 go_wp2_with fail
 refine (wbyte w.heap.size w.heap.size _ 34 _ H0.out.1 (Nat.le_refl _) (by simp)).mono ?_
 rintro e w1 ⟨rfl,H1⟩
 have HX:Hid (GS w.heap.size w1 w.heap.size (qs [])/\Below w.heap.size w w1):=⟨H1.out.1,H0.out.2.trans H1.out.2⟩
 clear H0 H1
 go_wp2_with fail
 go_loopw [9] (fun x wr=>∃k:Nat,k<=s.size/\x=.int .i64 k/\Hid (GS w.heap.size wr w.heap.size (qs ((nums s).take k))/\Below w.heap.size w wr)) (fun x _=>s.size - (intOf x).toNat)
 case atStart=>exact ⟨0,Nat.zero_le _,rfl,HX⟩
 case round=>
  obtain ⟨k,hk,rfl,HW⟩:=hrel
  clear HX
  by_cases hlt:k<s.size
  ·have hlt':(k:Int)<(s.size:Int):=by omega
   have hbd:=nums_bd s k
   have HT:Hid ((nums s).take (k+1)=(nums s).take k++[(nums s).getD k 0]):=take_snoc _ _ (by rw[nums_len];exact hlt)
   rw[nums_at s k hlt] at hbd HT
   have HM:Hid ((qs ((nums s).take k)).length<=4*k+1):=by
    have h1:=xq_len ((nums s).take k)
    have h2:((nums s).take k).length<=k:=by simp;omega
    show _<=_
    simp only[qs,List.length_map,List.length_cons]
    omega
   have HN:Hid (qs ((nums s).take (k+1))=qs ((nums s).take k)++(xq1 (s[k].toNat:Int)).map (Value.int .u8)):=by show _=_;rw[HT.out];simp only[qs,xq_snoc,List.map_cons,List.map_append,List.cons_append]
   by_cases hq:(s[k].toNat:Int)=34∨(s[k].toNat:Int)=92
   ·have HX:Hid (xq1 (s[k].toNat:Int)=[92,(s[k].toNat:Int)]):=by show _=_;unfold xq1;rw[if_neg (by omega),if_pos hq]
    have go:∀wr',wr'=wr->Hid (GS w.heap.size wr' w.heap.size (qs ((nums s).take k))/\Below w.heap.size w wr'):=by rintro _ rfl;exact HW
    clear go
    rcases hq with hq|hq
    all_goals
     rw[hq] at HX HN
     go_wp2_with fail
     refine (wbyte w.heap.size w.heap.size _ 92 _ HW.out.1 (Nat.le_refl _) (by have:=HM.out;omega)).mono ?_
     rintro e w2 ⟨rfl,H2⟩
     go_wp2_with fail
     refine (wbyte w.heap.size w.heap.size _ _ _ H2.out.1 (Nat.le_refl _) (by have:=HM.out;simp only[List.length_append,List.length_singleton];omega)).mono ?_
     rintro e w3 ⟨rfl,H3⟩
     go_wp2
     refine ⟨⟨k+1,by omega,by go_num,?_,(HW.out.2.trans H2.out.2).trans H3.out.2⟩,by simp[intOf];omega⟩
     rw[HN.out,HX.out]
     simpa only[List.map_cons,List.map_nil,List.append_assoc,List.cons_append,List.nil_append] using H3.out.1
   ·have hq1:((s[k].toNat:Int) == 34)=false:=by rw[beq_eq_false_iff_ne];omega
    have hq2:((s[k].toNat:Int) == 92)=false:=by rw[beq_eq_false_iff_ne];omega
    by_cases hu:(s[k].toNat:Int)<32∨126<(s[k].toNat:Int)
    ·have HX:Hid (xq1 (s[k].toNat:Int)=[92,48+(s[k].toNat:Int) / 100,48+(s[k].toNat:Int) / 10 % 10,48+(s[k].toNat:Int) % 10]):=by show _=_;unfold xq1;rw[if_pos hu]
     clear hq
     rcases hu with hu|hu
     all_goals
      go_wp2_with fail
      refine (wbyte w.heap.size w.heap.size _ 92 _ HW.out.1 (Nat.le_refl _) (by have:=HM.out;omega)).mono ?_
      rintro e w2 ⟨rfl,H2⟩
      go_wp2_with fail
      refine (wbyte w.heap.size w.heap.size _ _ _ H2.out.1 (Nat.le_refl _) (by have:=HM.out;simp only[List.length_append,List.length_singleton];omega)).mono ?_
      rintro e w3 ⟨rfl,H3⟩
      go_wp2_with fail
      refine (wbyte w.heap.size w.heap.size _ _ _ H3.out.1 (Nat.le_refl _) (by have:=HM.out;simp only[List.length_append,List.length_singleton];omega)).mono ?_
      rintro e w4 ⟨rfl,H4⟩
      go_wp2_with fail
      refine (wbyte w.heap.size w.heap.size _ _ _ H4.out.1 (Nat.le_refl _) (by have:=HM.out;simp only[List.length_append,List.length_singleton];omega)).mono ?_
      rintro e w5 ⟨rfl,H5⟩
      go_wp2
      refine ⟨⟨k+1,by omega,by go_num,?_,((HW.out.2.trans H2.out.2).trans H3.out.2).trans (H4.out.2.trans H5.out.2)⟩,by simp[intOf];omega⟩
      rw[HN.out,HX.out]
      simpa only[List.map_cons,List.map_nil,List.append_assoc,List.cons_append,List.nil_append] using H5.out.1
    ·have HX:Hid (xq1 (s[k].toNat:Int)=[(s[k].toNat:Int)]):=by show _=_;unfold xq1;rw[if_neg hu,if_neg hq]
     have hu1:¬ (s[k].toNat:Int)<32:=by omega
     have hu2:¬ 126<(s[k].toNat:Int):=by omega
     clear hu hq
     go_wp2_with fail
     refine (wbyte w.heap.size w.heap.size _ _ _ HW.out.1 (Nat.le_refl _) (by have:=HM.out;omega)).mono ?_
     rintro e w2 ⟨rfl,H2⟩
     go_wp2
     refine ⟨⟨k+1,by omega,by go_num,?_,HW.out.2.trans H2.out.2⟩,by simp[intOf];omega⟩
     rw[HN.out,HX.out]
     simpa only[List.map_cons,List.map_nil,List.append_assoc,List.cons_append,List.nil_append] using H2.out.1
  ·have hge:(s.size:Int)<=(k:Int):=by omega
   have hge':¬ (k:Int)<(s.size:Int):=by omega
   have ek:(nums s).take k=nums s:=List.take_of_length_le (by rw[nums_len];omega)
   have HG:Hid (GS w.heap.size wr w.heap.size (qs (nums s))):=by have:=HW.out.1;rw[ek] at this;exact this
   have hl:=xq_len (nums s)
   rw[nums_len] at hl
   have HQ:Hid (qs (nums s)++[.int .u8 34]=Lib.byteCells (txt (xquote (nums s)))):=by
    show _=_
    rw[bc_txt _ (xquote_by _ (nums_all' s))]
    simp[qs,xquote]
   have hlq:(txt (xquote (nums s))).length<=9223372036854775807:=by
    rw[txt_len];simp only[xquote,List.length_cons,List.length_append,List.length_nil];omega
   have HM:Hid ((qs (nums s)).length+1<=140737488355328):=by show _<=_;simp only[qs,List.length_map,List.length_cons];omega
   clear ek hl
   generalize hLL:txt (xquote (nums s))=L at*
   have HLL:Hid (txt (xquote (nums s))=L):=hLL
   clear hLL
   go_wp2_with fail
   refine (wbyte w.heap.size w.heap.size _ 34 _ HG.out (Nat.le_refl _) HM.out).mono ?_
   rintro e w2 ⟨rfl,H2⟩
   have HG2:Hid (GS w.heap.size w2 w.heap.size (Lib.byteCells L)):=by have:=H2.out.1;rw[HQ.out] at this;exact this
   go_wp2_with fail
   refine (wstring w.heap.size w.heap.size L _ HG2.out hlq).mono ?_
   rintro e w3 ⟨rfl,H3⟩
   go_wp2
   go_ret
   refine ⟨?_,(HW.out.2.trans H2.out.2).trans H3.out⟩
   unfold xqw lb
   rw[HLL.out]
   rfl
def TLPost(l:List ByteArray)(w:World)(e:Ending)(w':World):Prop:=
 ∃v ys,e=.returned v/\Hid (OwnT w.heap.size w' v l.length ys 1000000/\ys.take l.length=l/\Below w.heap.size w w')
theorem mapT_snoc{α:Type}(f:α->ByteArray)(l:List α)(k:Nat)(h:k<l.length):(l.take (k+1)).map f=(l.take k).map f++[f l[k]]:=by
 rw[List.take_add_one,List.getElem?_eq_getElem h,Option.toList_some,List.map_append];rfl
theorem ntext_size{n:List ByteArray}(h:nck n=0):(ntext n).1.size<=1020:=by
 unfold ntext
 rw[if_pos h]
 split
 ·show 1<=1020;omega
 ·have h1:=ntxt_size n n.length (Nat.le_refl _)
  rw[List.take_length] at h1
  have h2:=(nck_small h).1
  simp only
  omega
theorem xnw_dec(u:Nat):(⟨(Lib.decDigits u).toArray⟩:ByteArray)=xnw u:=dec_lb u
theorem xdec_len10(n:Nat)(h:n<4294967296):(xdec n).length<=10:=by
 have key:∀(k n:Nat),n<10 ^ (k+1)->(xdec n).length<=k+1:=by
  intro k
  induction k with
  |zero=>intro n hn;rw[xdec_small (by omega)];simp
  |succ k ih=>
   intro n hn
   by_cases h:n<10
   ·rw[xdec_small h];simp
   ·rw[xdec_big h]
    have:=ih (n / 10) (by rw[Nat.pow_succ] at hn;omega)
    simp;omega
 exact key 9 n (by omega)
theorem xqw_size(s:ByteArray):(xqw s).size<=4*s.size+2:=by
 have h:=xq_len (nums s)
 have:(xqw s).size=(xquote (nums s)).length:=by unfold xqw;rw[<- nums_len,nums_lb _ (xquote_by _ (nums_all' s))]
 rw[nums_len] at h
 simp only[xquote,List.length_cons,List.length_append,List.length_nil] at this
 omega
theorem nameT_any(s:Sl)(xs:List (List ByteArray))(w:World)(hr:NRd w s xs)(hp:∀n∈xs,nck n=0)(hn:s.n<=1000000) :
  Calls Tryz.prog 183 #[.slice s.a s.n s.c] w (TLPost (xs.map (fun n=>(ntext n).1)) w):=by
 obtain ⟨a,n,c⟩:=s
 have HR:Hid (NRd w ⟨a,n,c⟩ xs):=hr
 have HLn:Hid (xs.length=n):=hr.len
 have HP:Hid (∀n∈xs,nck n=0):=hp
 simp only at hn ⊢
 clear hr hp
 go_enter Tryz.func183,Tryz.ntmps183
 go_wp2_with fail
 go_loopw [3,10] (fun v x wr=>∃k:Nat,k<=n/\x=.int .i64 k/\Hid (∃ys,OwnT w.heap.size wr v k ys 1000000/\ys.take k=(xs.take k).map (fun n=>(ntext n).1))/\Hid (Below w.heap.size w wr)) (fun _ x _=>n - (intOf x).toNat)
 case atStart=>exact ⟨0,Nat.zero_le _,rfl,⟨[],OwnT.nil _ _ _,rfl⟩,Below.refl _ _⟩
 case round=>
  obtain ⟨k,hk,rfl,HW,HB⟩:=hrel
  by_cases hlt:k<n
  ·have hlt':(k:Int)<(n:Int):=by omega
   have hkz:k<xs.length:=by rw[HLn.out];exact hlt
   have HT:Hid ((xs.take (k+1)).map (fun n=>(ntext n).1)=(xs.take k).map (fun n=>(ntext n).1)++[(ntext xs[k]).1]):=mapT_snoc _ xs k hkz
   obtain ⟨b,o,hbo,hb,x,hc,hx⟩:=(HR.out.below HB.out).at k hkz
   simp only at hbo
   subst hbo
   have hck:=HP.out _ (List.getElem_mem hkz)
   have hsz:(ntext xs[k]).1.size<=1000000:=by have:=ntext_size hck;omega
   have K:=Lib.hid (ptext_any x.a x.n x.c xs[k] wr ⟨hx.rd,hx.len,by have:=(nck_small hck).1;omega⟩)
   generalize (ntext xs[k]).2=q at*
   generalize (ntext xs[k]).1=f at*
   clear hx hck
   go_wp2_with fail
   refine K.out.mono ?_
   rintro e w2 ⟨rfl,H2⟩
   obtain ⟨ys,hO,hT⟩:=HW.out
   have hnb:Below w2.heap.size w2 (w2.alloc (.cells #[.string f] 9)):=(Below.refl _ _).alloc (Nat.le_refl _) _
   have HO2:Hid (OwnT w.heap.size (w2.alloc (.cells #[.string f] 9)) u3 k ys 1000000/\ys.take k=(xs.take k).map (fun n=>(ntext n).1)):=⟨(hO.below H2.out).below hnb,hT⟩
   have HNB:Hid (Below w2.heap.size w2 (w2.alloc (.cells #[.string f] 9))):=hnb
   have HB3:Hid (Below w.heap.size w w2):=HB.out.trans (H2.out.mono HB.out.size)
   clear hO hT hnb HW H2 HB
   go_wp2_with (at_builtin;refine wpList_append_T tyT _ rfl _ _ 22 9 Tryz.underlying22 rfl w.heap.size _ k ys 1000000 rfl HO2.out.1 (some ⟨w2.heap.size,0,none⟩) 1 1 [f] rfl (one_rdT w2 f) rfl (by intro s hs;simp at hs;subst hs;exact hsz) (by omega) (Nat.le_trans HB3.out.size HNB.out.size) ?_;intro v' w' ys' hO' hT' hG')
   have hrow:=HO2.out.1.1.lt
   refine ⟨⟨k+1,by omega,by go_num,⟨ys',hO'.out,?_⟩,?_⟩,by simp[intOf];omega⟩
   ·rw[hT'.out,HO2.out.2,HT.out]
   ·exact (HB3.out.trans (HNB.out.mono HB3.out.size)).grown hG' (Nat.le_trans HB3.out.size HNB.out.size) hrow
  ·have hge:¬ (k:Int)<(n:Int):=by omega
   have hkn:k=n:=by omega
   subst hkn
   go_wp2_with fail
   go_ret
   obtain ⟨ys,hO,hT⟩:=HW.out
   have hx:xs.take k=xs:=List.take_of_length_le (by rw[HLn.out];exact Nat.le_refl _)
   rw[hx] at hT
   have hl:(xs.map (fun n=>(ntext n).1)).length=k:=by rw[List.length_map,HLn.out]
   rw[<- hl] at hO hT
   exact ⟨_,ys,rfl,hO,hT,HB.out⟩
theorem numT_any(s:Sl)(xs:List (Nat))(w:World)(hr:URd w s xs)  (hn:s.n<=1000000) (hL:LayT w) :
  Calls Tryz.prog 184 #[.slice s.a s.n s.c] w (TLPost (xs.map xnw) w):=by
 obtain ⟨a,n,c⟩:=s
 have HR:Hid (URd w ⟨a,n,c⟩ xs):=hr
 have HLn:Hid (xs.length=n):=hr.len
 have HL:Hid (LayT w):=hL
 simp only at hn ⊢
 clear hr hL
 go_enter Tryz.func184,Tryz.ntmps184
 go_wp2_with fail
 go_loopw [3,8] (fun v x wr=>∃k:Nat,k<=n/\x=.int .i64 k/\Hid (∃ys,OwnT w.heap.size wr v k ys 1000000/\ys.take k=(xs.take k).map xnw)/\Hid (Below w.heap.size w wr)) (fun _ x _=>n - (intOf x).toNat)
 case atStart=>exact ⟨0,Nat.zero_le _,rfl,⟨[],OwnT.nil _ _ _,rfl⟩,Below.refl _ _⟩
 case round=>
  obtain ⟨k,hk,rfl,HW,HB⟩:=hrel
  by_cases hlt:k<n
  ·have hlt':(k:Int)<(n:Int):=by omega
   have hkz:k<xs.length:=by rw[HLn.out];exact hlt
   have HT:Hid ((xs.take (k+1)).map xnw=(xs.take k).map xnw++[(xnw) xs[k]]):=mapT_snoc _ xs k hkz
   obtain ⟨b,o,hbo,hb,hc⟩:=(HR.out.below HB.out).at k hkz
   simp only at hbo
   subst hbo
   have hu:=HR.out.bd _ (List.getElem_mem hkz)
   generalize xs[k]=u at*
   have hsz:(xnw u).size<=1000000:=by have:=xdec_len10 u (by omega);rw[<- nums_len,xnw_nums];omega
   have K:=Lib.hid (fun W hW=>fmt10 u (by omega) W hW)
   rw[xnw_dec u] at K
   generalize xnw u=f at*
   have hu':(u:Int)<=4294967295:=by omega
   go_wp2_with fail
   refine (K.out _ (HL.out.below HB.out)).mono ?_
   rintro e w2 ⟨rfl,H2⟩
   obtain ⟨ys,hO,hT⟩:=HW.out
   have hnb:Below w2.heap.size w2 (w2.alloc (.cells #[.string f] 9)):=(Below.refl _ _).alloc (Nat.le_refl _) _
   have HO2:Hid (OwnT w.heap.size (w2.alloc (.cells #[.string f] 9)) u3 k ys 1000000/\ys.take k=(xs.take k).map xnw):=⟨(hO.below H2.out).below hnb,hT⟩
   have HNB:Hid (Below w2.heap.size w2 (w2.alloc (.cells #[.string f] 9))):=hnb
   have HB3:Hid (Below w.heap.size w w2):=HB.out.trans (H2.out.mono HB.out.size)
   clear hO hT hnb HW H2 HB
   go_wp2_with (at_builtin;refine wpList_append_T tyT _ rfl _ _ 22 9 Tryz.underlying22 rfl w.heap.size _ k ys 1000000 rfl HO2.out.1 (some ⟨w2.heap.size,0,none⟩) 1 1 [f] rfl (one_rdT w2 f) rfl (by intro s hs;simp at hs;subst hs;exact hsz) (by omega) (Nat.le_trans HB3.out.size HNB.out.size) ?_;intro v' w' ys' hO' hT' hG')
   have hrow:=HO2.out.1.1.lt
   refine ⟨⟨k+1,by omega,by go_num,⟨ys',hO'.out,?_⟩,?_⟩,by simp[intOf];omega⟩
   ·rw[hT'.out,HO2.out.2,HT.out]
   ·exact (HB3.out.trans (HNB.out.mono HB3.out.size)).grown hG' (Nat.le_trans HB3.out.size HNB.out.size) hrow
  ·have hge:¬ (k:Int)<(n:Int):=by omega
   have hkn:k=n:=by omega
   subst hkn
   go_wp2_with fail
   go_ret
   obtain ⟨ys,hO,hT⟩:=HW.out
   have hx:xs.take k=xs:=List.take_of_length_le (by rw[HLn.out];exact Nat.le_refl _)
   rw[hx] at hT
   have hl:(xs.map xnw).length=k:=by rw[List.length_map,HLn.out]
   rw[<- hl] at hO hT
   exact ⟨_,ys,rfl,hO,hT,HB.out⟩
theorem quoT_any(s:Sl)(xs:List (ByteArray))(w:World)(hr:TRd w s xs)(hp:∀t∈xs,t.size<=200000)(hn:s.n<=1000000) :
  Calls Tryz.prog 185 #[.slice s.a s.n s.c] w (TLPost (xs.map xqw) w):=by
 obtain ⟨a,n,c⟩:=s
 have HR:Hid (TRd w ⟨a,n,c⟩ xs):=hr
 have HLn:Hid (xs.length=n):=hr.len
 have HP:Hid (∀t∈xs,t.size<=200000):=hp
 simp only at hn ⊢
 clear hr hp
 go_enter Tryz.func185,Tryz.ntmps185
 go_wp2_with fail
 go_loopw [3,8] (fun v x wr=>∃k:Nat,k<=n/\x=.int .i64 k/\Hid (∃ys,OwnT w.heap.size wr v k ys 1000000/\ys.take k=(xs.take k).map xqw)/\Hid (Below w.heap.size w wr)) (fun _ x _=>n - (intOf x).toNat)
 case atStart=>exact ⟨0,Nat.zero_le _,rfl,⟨[],OwnT.nil _ _ _,rfl⟩,Below.refl _ _⟩
 case round=>
  obtain ⟨k,hk,rfl,HW,HB⟩:=hrel
  by_cases hlt:k<n
  ·have hlt':(k:Int)<(n:Int):=by omega
   have hkz:k<xs.length:=by rw[HLn.out];exact hlt
   have HT:Hid ((xs.take (k+1)).map xqw=(xs.take k).map xqw++[(xqw) xs[k]]):=mapT_snoc _ xs k hkz
   obtain ⟨b,o,hbo,hb,hc⟩:=(HR.out.below HB.out).rd.at k hkz
   simp only at hbo
   subst hbo
   have hp:=HP.out _ (List.getElem_mem hkz)
   generalize xs[k]=u at*
   have hsz:(xqw u).size<=1000000:=by have:=xqw_size u;omega
   have K:=Lib.hid (quote_any u wr (by omega))
   generalize xqw u=f at*
   go_wp2_with fail
   refine K.out.mono ?_
   rintro e w2 ⟨rfl,H2⟩
   obtain ⟨ys,hO,hT⟩:=HW.out
   have hnb:Below w2.heap.size w2 (w2.alloc (.cells #[.string f] 9)):=(Below.refl _ _).alloc (Nat.le_refl _) _
   have HO2:Hid (OwnT w.heap.size (w2.alloc (.cells #[.string f] 9)) u3 k ys 1000000/\ys.take k=(xs.take k).map xqw):=⟨(hO.below H2.out).below hnb,hT⟩
   have HNB:Hid (Below w2.heap.size w2 (w2.alloc (.cells #[.string f] 9))):=hnb
   have HB3:Hid (Below w.heap.size w w2):=HB.out.trans (H2.out.mono HB.out.size)
   clear hO hT hnb HW H2 HB
   go_wp2_with (at_builtin;refine wpList_append_T tyT _ rfl _ _ 22 9 Tryz.underlying22 rfl w.heap.size _ k ys 1000000 rfl HO2.out.1 (some ⟨w2.heap.size,0,none⟩) 1 1 [f] rfl (one_rdT w2 f) rfl (by intro s hs;simp at hs;subst hs;exact hsz) (by omega) (Nat.le_trans HB3.out.size HNB.out.size) ?_;intro v' w' ys' hO' hT' hG')
   have hrow:=HO2.out.1.1.lt
   refine ⟨⟨k+1,by omega,by go_num,⟨ys',hO'.out,?_⟩,?_⟩,by simp[intOf];omega⟩
   ·rw[hT'.out,HO2.out.2,HT.out]
   ·exact (HB3.out.trans (HNB.out.mono HB3.out.size)).grown hG' (Nat.le_trans HB3.out.size HNB.out.size) hrow
  ·have hge:¬ (k:Int)<(n:Int):=by omega
   have hkn:k=n:=by omega
   subst hkn
   go_wp2_with fail
   go_ret
   obtain ⟨ys,hO,hT⟩:=HW.out
   have hx:xs.take k=xs:=List.take_of_length_le (by rw[HLn.out];exact Nat.le_refl _)
   rw[hx] at hT
   have hl:(xs.map xqw).length=k:=by rw[List.length_map,HLn.out]
   rw[<- hl] at hO hT
   exact ⟨_,ys,rfl,hO,hT,HB.out⟩
theorem dg_hd(d:Int)(h:0<=d/\d<16):dg d=xhd d.toNat:=by
 unfold dg xhd
 by_cases h1:d<10
 ·rw[if_pos h1,if_pos (by omega)];omega
 ·rw[if_neg h1,if_neg (by omega)];omega
theorem hexl_lb(zs:List Int)(h:∀z∈zs,0<=z/\z<=255):(⟨(hexl zs).toArray⟩:ByteArray)=lb (xhexs zs):=by
 unfold lb
 congr 2
 unfold hexl txt xhexs
 induction zs with
 |nil=>rfl
 |cons z zs ih=>
  have hz:=h z (by simp)
  simp only[List.flatMap_cons,List.map_append,List.map_cons,List.map_nil]
  rw[ih (fun y hy=>h y (List.mem_cons_of_mem _ hy)),dg_hd (z / 16) (by omega),dg_hd (z % 16) (by omega)]
  rfl
def hashW(raw:List Int):List ByteArray:=lb [92,35]::xnw raw.length::(if raw=[] then [] else [lb (xhexs raw)])
theorem two_own(w:World)(a b:ByteArray)(ha:a.size<=1000000)(hb:b.size<=1000000):OwnT w.heap.size (w.alloc (.cells #[.string a,.string b] 9)) (.slice (some ⟨w.heap.size,0,none⟩) 2 2) 2 [a,b] 1000000:=by
 refine ⟨.inr ⟨w.heap.size,rfl,Nat.le_refl _,heap_alloc_new _ _,by simp[tv],by simp[tv,maxLen]⟩,?_⟩
 intro s hs
 simp at hs
 rcases hs with rfl|rfl
 ·exact ha
 ·exact hb
theorem one_own(w:World)(a:ByteArray)(ha:a.size<=1000000):OwnT w.heap.size (w.alloc (.cells #[.string a] 9)) (.slice (some ⟨w.heap.size,0,none⟩) 1 1) 1 [a] 1000000:=by
 refine ⟨.inr ⟨w.heap.size,rfl,Nat.le_refl _,heap_alloc_new _ _,by simp[tv],by simp[tv,maxLen]⟩,?_⟩
 intro s hs
 simp at hs
 subst hs
 exact ha
theorem hashed_any(a:Option Addr)(n c:Nat)(zs:List Int)(w:World)(hr:Rd w a zs)(hl:zs.length=n)(hn:n<=65535)(hL:LayT w) :
  Calls Tryz.prog 187 #[.slice a n c] w (TLPost (hashW zs) w):=by
 have HR:Hid (Rd w a zs):=hr
 have HLn:Hid (zs.length=n):=hl
 have K1:=Lib.hid (itoa_nat n (by omega) w hL)
 rw[xnw_dec n] at K1
 have hz1:(xnw n).size<=1000000:=by have:=xdec_len10 n (by omega);rw[<- nums_len,xnw_nums];omega
 have HW0:Hid (hashW zs=lb [92,35]::xnw n::(if zs=[] then [] else [lb (xhexs zs)])):=by show _=_;unfold hashW;rw[hl]
 have hz2:(lb (xhexs zs)).size<=1000000:=by
  have h1:=xhexs_len zs
  rw[<- nums_len,nums_lb _ (fun c hc=>by have:=xhexs_by zs hr.2 c hc;omega)]
  omega
 have KX:=Lib.hid (fun W (hW:Rd W a zs)=>hex_any a n c zs W hW hl (by omega))
 rw[hexl_lb zs hr.2] at KX
 clear hr hL
 generalize xnw n=f1 at*
 generalize lb (xhexs zs)=f2 at*
 go_enter Tryz.func187,Tryz.ntmps187
 go_wp2_with fail
 refine K1.out.mono ?_
 rintro e w1 ⟨rfl,H1⟩
 have HO:=Lib.hid (two_own w1 (lb [92,35]) f1 (by decide) hz1)
 have HB1:Hid (Below w.heap.size w (w1.alloc (.cells #[.string ⟨#[92,35]⟩,.string f1] 9))):=H1.out.trans ((Below.refl _ _).alloc H1.out.size _)
 have hs1:=H1.out.size
 by_cases h0:n=0
 ·subst h0
  have e0:zs=[]:=List.length_eq_zero_iff.1 HLn.out
  have HW1:Hid (hashW zs=[lb [92,35],f1]):=by show _=_;rw[HW0.out,if_pos e0]
  clear K1 KX H1
  go_wp2_with fail
  go_ret
  rw[HW1.out]
  exact ⟨_,[lb [92,35],f1],rfl,HO.out.mono hs1,rfl,HB1.out⟩
 ·have h0':(0:Int)<(n:Int):=by omega
  have e0:zs≠[]:=by intro e;have:=HLn.out;rw[e] at this;exact h0 this.symm
  have HW1:Hid (hashW zs=[lb [92,35],f1,f2]):=by show _=_;rw[HW0.out,if_neg e0]
  have e92:(lb [92,35]:ByteArray)=⟨#[92,35]⟩:=rfl
  rw[e92] at HO
  have HLT:Hid (w1.heap.size<=(w1.alloc (.cells #[.string ⟨#[92,35]⟩,.string f1] 9)).heap.size):=by show _<=_;simp
  clear K1 H1 e0 h0
  go_wp2_with fail
  generalize (w1.alloc (.cells #[.string ⟨#[92,35]⟩,.string f1] 9))=w2 at*
  refine (KX.out _ (HR.out.below HB1.out)).mono ?_
  rintro e w3 ⟨rfl,H3⟩
  have hnb:Below w3.heap.size w3 (w3.alloc (.cells #[.string f2] 9)):=(Below.refl _ _).alloc (Nat.le_refl _) _
  have HO2:Hid (OwnT w1.heap.size (w3.alloc (.cells #[.string f2] 9)) (.slice (some ⟨w1.heap.size,0,none⟩) 2 2) 2 [⟨#[92,35]⟩,f1] 1000000):=(HO.out.below H3.out).below hnb
  have HB3:Hid (Below w.heap.size w (w3.alloc (.cells #[.string f2] 9))):=(HB1.out.trans (H3.out.mono HB1.out.size)).trans (hnb.mono (Nat.le_trans HB1.out.size H3.out.size))
  have HLE:Hid (w1.heap.size<=(w3.alloc (.cells #[.string f2] 9)).heap.size):=by
   show _<=_
   have:=H3.out.size
   have:=HLT.out
   simp
   omega
  clear hnb HO H3 HB1 KX
  go_wp2_with (at_builtin;refine wpList_append_T tyT _ rfl _ _ 22 9 Tryz.underlying22 rfl w1.heap.size _ 2 [⟨#[92,35]⟩,f1] 1000000 rfl HO2.out (some ⟨w3.heap.size,0,none⟩) 1 1 [f2] rfl (one_rdT w3 f2) rfl (by intro s hs;simp at hs;subst hs;exact hz2) (by omega) HLE.out ?_;intro v' w' ys' hO' hT' hG')
  have hrow:=HO2.out.1.lt
  go_ret
  rw[HW1.out]
  refine ⟨_,ys',rfl,hO'.out.mono hs1,hT'.out,?_⟩
  exact HB3.out.grown hG' HB3.out.size (fun g hg=>Nat.le_trans hs1 (hrow g hg))
theorem tell_addr(t:Nat)(ht:t=1∨t=28)(x:DA)(d:Dat)(w:World)(h:DRd w x d)(hr:d.raw.length=4∨d.raw.length=16)(hL:LayT w) :
  Calls Tryz.prog 152 #[.int .u16 t,.agg #[.slice x.p1.a x.p1.n x.p1.c,.slice x.p2.a x.p2.n x.p2.c,.slice x.p3.a x.p3.n x.p3.c,.slice x.p4.a x.p4.n x.p4.c]] w (TLPost ([lb ((xaddr d.raw).getD [])]) w):=by
 obtain ⟨⟨a1,n1,k1⟩,⟨a2,n2,k2⟩,⟨a3,n3,k3⟩,⟨a4,n4,k4⟩⟩:=x
 have hb0:Below w.heap.size w (w.alloc (.cells #[.slice a1 n1 k1,.slice a2 n2 k2,.slice a3 n3 k3,.slice a4 n4 k4] 41)):=(Below.refl _ _).alloc (Nat.le_refl _) _
 have H:Hid (DBox (w.alloc (.cells #[.slice a1 n1 k1,.slice a2 n2 k2,.slice a3 n3 k3,.slice a4 n4 k4] 41)) w.heap.size ⟨⟨a1,n1,k1⟩,⟨a2,n2,k2⟩,⟨a3,n3,k3⟩,⟨a4,n4,k4⟩⟩/\DRd (w.alloc (.cells #[.slice a1 n1 k1,.slice a2 n2 k2,.slice a3 n3 k3,.slice a4 n4 k4] 41)) ⟨⟨a1,n1,k1⟩,⟨a2,n2,k2⟩,⟨a3,n3,k3⟩,⟨a4,n4,k4⟩⟩ d/\Below w.heap.size w (w.alloc (.cells #[.slice a1 n1 k1,.slice a2 n2 k2,.slice a3 n3 k3,.slice a4 n4 k4] 41))/\LayT (w.alloc (.cells #[.slice a1 n1 k1,.slice a2 n2 k2,.slice a3 n3 k3,.slice a4 n4 k4] 41))):=⟨DBox.new w ⟨⟨a1,n1,k1⟩,⟨a2,n2,k2⟩,⟨a3,n3,k3⟩,⟨a4,n4,k4⟩⟩,h.below hb0,hb0,hL.below hb0⟩
 clear h hL hb0
 simp only
 have hr4:n4=4∨n4=16:=by have:=H.out.2.1.h4.len;simp only at this;rw[<- this];exact hr
 have hsz:(lb ((xaddr d.raw).getD [])).size<=1000000:=by
  obtain ⟨s,hs⟩:=xaddr_some d.raw hr
  rw[hs,Option.getD_some,<- nums_len,(addr_term s (xaddr_ok _ _ hs)).1]
  unfold xaddr at hs
  have hbz:=H.out.2.1.h4.rd.2
  split at hs
  ·injection hs with hs;subst hs
   have:=xjoin_len 46 (d.raw.map fun c=>xdec c.toNat) 3 (by
    intro p hp
    obtain ⟨z,hz,rfl⟩:=List.mem_map.1 hp
    have:=hbz z hz
    exact xdec_le _ (by omega))
   rw[List.length_map] at this
   omega
  ·split at hs
   ·next h16=>
    injection hs with hs;subst hs
    obtain ⟨i1,i2,i3⟩:=xprs_by d.raw 8 (by omega) hbz
    have hc:∀l:List Nat,l.length<=8->(∀n∈l,n<65536)->(xcol l).length<=40:=by
     intro l h1 h2
     have:=xjoin_len 58 (l.map xhex) 4 (by
      intro p hp
      obtain ⟨z,hz,rfl⟩:=List.mem_map.1 hp
      exact (xhex_len _ (h2 z hz)).2)
     rw[List.length_map] at this
     unfold xcol;omega
    unfold xa6
    split
    ·have:=hc _ (by omega) i3;omega
    ·have h1:=hc ((xprs d.raw).take (xlong (xprs d.raw)).1) (by simp;omega) (fun n hn=>i3 n (List.mem_of_mem_take hn))
     have h2:=hc ((xprs d.raw).drop ((xlong (xprs d.raw)).1+(xlong (xprs d.raw)).2)) (by simp;omega) (fun n hn=>i3 n (List.mem_of_mem_drop hn))
     simp only[List.length_append,List.length_cons]
     omega
   ·cases hs
 have K:=Lib.hid (fun W (hd:DRd W ⟨⟨a1,n1,k1⟩,⟨a2,n2,k2⟩,⟨a3,n3,k3⟩,⟨a4,n4,k4⟩⟩ d) (hW:LayT W)=>atext_any a4 n4 k4 d.raw W hd.h4.rd hd.h4.len hr4 hW)
 clear hr hr4
 obtain ⟨f,hf⟩:∃f,lb ((xaddr d.raw).getD [])=f:=⟨_,rfl⟩
 rw[hf] at K hsz ⊢
 clear hf
 rcases ht with rfl|rfl
 all_goals
  go_enter Tryz.func152,Tryz.ntmps152
  have d0:=H.out.1.1
  have d1:=H.out.1.2.1
  have d2:=H.out.1.2.2.1
  have d3:=H.out.1.2.2.2.1
  simp only at d0 d1 d2 d3
  go_wp2_with fail
  refine (K.out _ H.out.2.1 H.out.2.2.2).mono ?_
  rintro e w2 ⟨rfl,H2⟩
  have HB2:=Lib.hid (H.out.2.2.1.trans (H2.out.mono H.out.2.2.1.size))
  have HO:=Lib.hid (one_own w2 f hsz)
  go_wp2_with fail
  go_ret
  exact ⟨_,[f],rfl,HO.out.mono HB2.out.size,rfl,HB2.out.trans ((Below.refl _ _).alloc HB2.out.size _)⟩
theorem tell_names(t:Nat)(ht:t=2∨t=5∨t=12)(x:DA)(d:Dat)(w:World)(h:DRd w x d)(hp:∀n∈d.ns,nck n=0)(hn:d.ns.length<=1000)(hL:LayT w) :
  Calls Tryz.prog 152 #[.int .u16 t,.agg #[.slice x.p1.a x.p1.n x.p1.c,.slice x.p2.a x.p2.n x.p2.c,.slice x.p3.a x.p3.n x.p3.c,.slice x.p4.a x.p4.n x.p4.c]] w (TLPost (d.ns.map (fun n=>(ntext n).1)) w):=by
 obtain ⟨⟨a1,n1,k1⟩,⟨a2,n2,k2⟩,⟨a3,n3,k3⟩,⟨a4,n4,k4⟩⟩:=x
 have hb0:Below w.heap.size w (w.alloc (.cells #[.slice a1 n1 k1,.slice a2 n2 k2,.slice a3 n3 k3,.slice a4 n4 k4] 41)):=(Below.refl _ _).alloc (Nat.le_refl _) _
 have H:Hid (DBox (w.alloc (.cells #[.slice a1 n1 k1,.slice a2 n2 k2,.slice a3 n3 k3,.slice a4 n4 k4] 41)) w.heap.size ⟨⟨a1,n1,k1⟩,⟨a2,n2,k2⟩,⟨a3,n3,k3⟩,⟨a4,n4,k4⟩⟩/\DRd (w.alloc (.cells #[.slice a1 n1 k1,.slice a2 n2 k2,.slice a3 n3 k3,.slice a4 n4 k4] 41)) ⟨⟨a1,n1,k1⟩,⟨a2,n2,k2⟩,⟨a3,n3,k3⟩,⟨a4,n4,k4⟩⟩ d/\Below w.heap.size w (w.alloc (.cells #[.slice a1 n1 k1,.slice a2 n2 k2,.slice a3 n3 k3,.slice a4 n4 k4] 41))/\LayT (w.alloc (.cells #[.slice a1 n1 k1,.slice a2 n2 k2,.slice a3 n3 k3,.slice a4 n4 k4] 41))):=⟨DBox.new w ⟨⟨a1,n1,k1⟩,⟨a2,n2,k2⟩,⟨a3,n3,k3⟩,⟨a4,n4,k4⟩⟩,h.below hb0,hb0,hL.below hb0⟩
 clear h hL hb0
 simp only
 have hn1:n1<=1000000:=by have:=H.out.2.1.h1.len;simp only at this;omega
 have K:=Lib.hid (fun W (hd:DRd W ⟨⟨a1,n1,k1⟩,⟨a2,n2,k2⟩,⟨a3,n3,k3⟩,⟨a4,n4,k4⟩⟩ d)=>nameT_any ⟨a1,n1,k1⟩ d.ns W hd.h1 hp hn1)
 clear hp hn
 rcases ht with rfl|rfl|rfl
 all_goals
  go_enter Tryz.func152,Tryz.ntmps152
  have d0:=H.out.1.1
  have d1:=H.out.1.2.1
  have d2:=H.out.1.2.2.1
  have d3:=H.out.1.2.2.2.1
  simp only at d0 d1 d2 d3
  go_wp2_with fail
  refine (K.out _ H.out.2.1).mono ?_
  rintro e w2 ⟨v,ys,rfl,H2⟩
  have HB2:=Lib.hid (H.out.2.2.1.trans (H2.out.2.2.mono H.out.2.2.1.size))
  go_wp2_with fail
  go_ret
  exact ⟨_,ys,rfl,H2.out.1.mono H.out.2.2.1.size,H2.out.2.1,HB2.out⟩
theorem tell_txt(t:Nat)(ht:t=16)(x:DA)(d:Dat)(w:World)(h:DRd w x d)(hp:∀s∈d.ts,s.size<=200000)(hn:d.ts.length<=1000000)(hL:LayT w) :
  Calls Tryz.prog 152 #[.int .u16 t,.agg #[.slice x.p1.a x.p1.n x.p1.c,.slice x.p2.a x.p2.n x.p2.c,.slice x.p3.a x.p3.n x.p3.c,.slice x.p4.a x.p4.n x.p4.c]] w (TLPost (d.ts.map xqw) w):=by
 obtain ⟨⟨a1,n1,k1⟩,⟨a2,n2,k2⟩,⟨a3,n3,k3⟩,⟨a4,n4,k4⟩⟩:=x
 have hb0:Below w.heap.size w (w.alloc (.cells #[.slice a1 n1 k1,.slice a2 n2 k2,.slice a3 n3 k3,.slice a4 n4 k4] 41)):=(Below.refl _ _).alloc (Nat.le_refl _) _
 have H:Hid (DBox (w.alloc (.cells #[.slice a1 n1 k1,.slice a2 n2 k2,.slice a3 n3 k3,.slice a4 n4 k4] 41)) w.heap.size ⟨⟨a1,n1,k1⟩,⟨a2,n2,k2⟩,⟨a3,n3,k3⟩,⟨a4,n4,k4⟩⟩/\DRd (w.alloc (.cells #[.slice a1 n1 k1,.slice a2 n2 k2,.slice a3 n3 k3,.slice a4 n4 k4] 41)) ⟨⟨a1,n1,k1⟩,⟨a2,n2,k2⟩,⟨a3,n3,k3⟩,⟨a4,n4,k4⟩⟩ d/\Below w.heap.size w (w.alloc (.cells #[.slice a1 n1 k1,.slice a2 n2 k2,.slice a3 n3 k3,.slice a4 n4 k4] 41))/\LayT (w.alloc (.cells #[.slice a1 n1 k1,.slice a2 n2 k2,.slice a3 n3 k3,.slice a4 n4 k4] 41))):=⟨DBox.new w ⟨⟨a1,n1,k1⟩,⟨a2,n2,k2⟩,⟨a3,n3,k3⟩,⟨a4,n4,k4⟩⟩,h.below hb0,hb0,hL.below hb0⟩
 clear h hL hb0
 simp only
 have hn3:n3<=1000000:=by have:=H.out.2.1.h3.len;simp only at this;omega
 have K:=Lib.hid (fun W (hd:DRd W ⟨⟨a1,n1,k1⟩,⟨a2,n2,k2⟩,⟨a3,n3,k3⟩,⟨a4,n4,k4⟩⟩ d)=>quoT_any ⟨a3,n3,k3⟩ d.ts W hd.h3 hp hn3)
 clear hp hn
 subst ht
 all_goals
  go_enter Tryz.func152,Tryz.ntmps152
  have d0:=H.out.1.1
  have d1:=H.out.1.2.1
  have d2:=H.out.1.2.2.1
  have d3:=H.out.1.2.2.2.1
  simp only at d0 d1 d2 d3
  go_wp2_with fail
  refine (K.out _ H.out.2.1).mono ?_
  rintro e w2 ⟨v,ys,rfl,H2⟩
  have HB2:=Lib.hid (H.out.2.2.1.trans (H2.out.2.2.mono H.out.2.2.1.size))
  go_wp2_with fail
  go_ret
  exact ⟨_,ys,rfl,H2.out.1.mono H.out.2.2.1.size,H2.out.2.1,HB2.out⟩
theorem tell_hash(t:Nat)(ht:xkn t=false)(x:DA)(d:Dat)(w:World)(h:DRd w x d)(hn:d.raw.length<=65535)(hL:LayT w) :
  Calls Tryz.prog 152 #[.int .u16 t,.agg #[.slice x.p1.a x.p1.n x.p1.c,.slice x.p2.a x.p2.n x.p2.c,.slice x.p3.a x.p3.n x.p3.c,.slice x.p4.a x.p4.n x.p4.c]] w (TLPost (hashW d.raw) w):=by
 obtain ⟨⟨a1,n1,k1⟩,⟨a2,n2,k2⟩,⟨a3,n3,k3⟩,⟨a4,n4,k4⟩⟩:=x
 have hb0:Below w.heap.size w (w.alloc (.cells #[.slice a1 n1 k1,.slice a2 n2 k2,.slice a3 n3 k3,.slice a4 n4 k4] 41)):=(Below.refl _ _).alloc (Nat.le_refl _) _
 have H:Hid (DBox (w.alloc (.cells #[.slice a1 n1 k1,.slice a2 n2 k2,.slice a3 n3 k3,.slice a4 n4 k4] 41)) w.heap.size ⟨⟨a1,n1,k1⟩,⟨a2,n2,k2⟩,⟨a3,n3,k3⟩,⟨a4,n4,k4⟩⟩/\DRd (w.alloc (.cells #[.slice a1 n1 k1,.slice a2 n2 k2,.slice a3 n3 k3,.slice a4 n4 k4] 41)) ⟨⟨a1,n1,k1⟩,⟨a2,n2,k2⟩,⟨a3,n3,k3⟩,⟨a4,n4,k4⟩⟩ d/\Below w.heap.size w (w.alloc (.cells #[.slice a1 n1 k1,.slice a2 n2 k2,.slice a3 n3 k3,.slice a4 n4 k4] 41))/\LayT (w.alloc (.cells #[.slice a1 n1 k1,.slice a2 n2 k2,.slice a3 n3 k3,.slice a4 n4 k4] 41))):=⟨DBox.new w ⟨⟨a1,n1,k1⟩,⟨a2,n2,k2⟩,⟨a3,n3,k3⟩,⟨a4,n4,k4⟩⟩,h.below hb0,hb0,hL.below hb0⟩
 clear h hL hb0
 simp only
 have hn4:n4<=65535:=by have:=H.out.2.1.h4.len;simp only at this;omega
 have K:=Lib.hid (fun W (hd:DRd W ⟨⟨a1,n1,k1⟩,⟨a2,n2,k2⟩,⟨a3,n3,k3⟩,⟨a4,n4,k4⟩⟩ d) (hW:LayT W)=>hashed_any a4 n4 k4 d.raw W hd.h4.rd hd.h4.len hn4 hW)
 clear hn
 have b1:((t:Int) == 1)=false:=by (rw[beq_eq_false_iff_ne];intro e;have e2:t=1:=(by omega);rw[e2] at ht;exact absurd ht (by decide))
 have b28:((t:Int) == 28)=false:=by (rw[beq_eq_false_iff_ne];intro e;have e2:t=28:=(by omega);rw[e2] at ht;exact absurd ht (by decide))
 have b2:((t:Int) == 2)=false:=by (rw[beq_eq_false_iff_ne];intro e;have e2:t=2:=(by omega);rw[e2] at ht;exact absurd ht (by decide))
 have b5:((t:Int) == 5)=false:=by (rw[beq_eq_false_iff_ne];intro e;have e2:t=5:=(by omega);rw[e2] at ht;exact absurd ht (by decide))
 have b12:((t:Int) == 12)=false:=by (rw[beq_eq_false_iff_ne];intro e;have e2:t=12:=(by omega);rw[e2] at ht;exact absurd ht (by decide))
 have b6:((t:Int) == 6)=false:=by (rw[beq_eq_false_iff_ne];intro e;have e2:t=6:=(by omega);rw[e2] at ht;exact absurd ht (by decide))
 have b15:((t:Int) == 15)=false:=by (rw[beq_eq_false_iff_ne];intro e;have e2:t=15:=(by omega);rw[e2] at ht;exact absurd ht (by decide))
 have b33:((t:Int) == 33)=false:=by (rw[beq_eq_false_iff_ne];intro e;have e2:t=33:=(by omega);rw[e2] at ht;exact absurd ht (by decide))
 have b16:((t:Int) == 16)=false:=by (rw[beq_eq_false_iff_ne];intro e;have e2:t=16:=(by omega);rw[e2] at ht;exact absurd ht (by decide))
 have b257:((t:Int) == 257)=false:=by (rw[beq_eq_false_iff_ne];intro e;have e2:t=257:=(by omega);rw[e2] at ht;exact absurd ht (by decide))
 clear ht
 all_goals
  go_enter Tryz.func152,Tryz.ntmps152
  have d0:=H.out.1.1
  have d1:=H.out.1.2.1
  have d2:=H.out.1.2.2.1
  have d3:=H.out.1.2.2.2.1
  simp only at d0 d1 d2 d3
  go_wp2_with fail
  refine (K.out _ H.out.2.1 H.out.2.2.2).mono ?_
  rintro e w2 ⟨v,ys,rfl,H2⟩
  have HB2:=Lib.hid (H.out.2.2.1.trans (H2.out.2.2.mono H.out.2.2.1.size))
  go_wp2_with fail
  go_ret
  exact ⟨_,ys,rfl,H2.out.1.mono H.out.2.2.1.size,H2.out.2.1,HB2.out⟩
theorem st_T{w:World}{ops:Array Oper}{o:Oper}{a:Act}{K:Act->World->Prop}{Q:Exit->Act->World->Prop}{E:Prop}(hgd:o.guard=none)(s x:Operand)
  (ho:o.op=.call { callee:=.builtin .append,args:=#[s,x],argTypes:=#[22,22] }) (B:Nat) (v:Value) (n:Nat) (ss l1:List ByteArray) (hs:a.eval s=v) (hown:OwnT B w v n ss 1000000) (ht:ss.take n=l1)
  (ao:Option Addr) (m c:Nat) (ns:List ByteArray) (hx:a.eval x=.slice ao m c) (hr:RdT w ao ns) (hl:ns.length=m) (hM:∀s∈ns,s.size<=1000000) (hb:n+m<=1000000) (hB:B<=w.heap.size)
  (h:∀v' w' ys,Hid (OwnT B w' v' (n+m) ys 1000000/\ys.take (n+m)=l1++ns)->Hid (w.grownBy w' v.ownBlock)->K (a.put o.dst v') w') :
  if Region.wanted o (yielded ops a.tmps)=true then Oper.wp Tryz.prog o a w K Q else E:=by
 refine step_append_row tyT hgd s x 22 ho B v n (tv ss) hs hown.1 (.slice ao m c) m (tv ns) hx (src_of Tryz.underlying22 hr (by rw[tv_len];exact hl) (tv_one ns)) (by omega) (by simp only[maxLen];omega) hB ?_
 intro v' w' xs' h1 h2 h3 h4
 obtain ⟨ys,rfl,hys⟩:=tv_of (M:=1000000) xs' (h4.out (QS 1000000) ⟨⟨#[]⟩,rfl,Nat.zero_le _⟩ (qs_tv hown.2) (qs_tv hM))
 refine h v' w' ys ⟨⟨h1.out,hys⟩,?_⟩ h3
 have h2':=h2.out
 rw[tv_take,tv_take,<- tv_append,ht] at h2'
 exact tv_inj h2'
theorem OwnT.small{B:Nat}{w:World}{v:Value}{n:Nat}{ss l:List ByteArray}{M:Nat}(h:OwnT B w v n ss M)(ht:ss.take n=l):∀s∈l,s.size<=M:=by
 subst ht
 exact fun s hs=>h.2 s (List.mem_of_mem_take hs)
theorem aftT{w W w2:World}{b:Nat}{x:DA}{d:Dat}(h1:DBox W b x)(h2:DRd W x d)(h3:Below w.heap.size w W)(h4:LayT W)(h:Below W.drew.heap.size W.drew w2):DBox w2 b x/\DRd w2 x d/\Below w.heap.size w w2/\LayT w2:=by
 have hb:Below W.heap.size W w2:=((Below.refl W.heap.size W).drew).trans h
 exact ⟨h1.below hb,h2.below hb,h3.trans (hb.mono h3.size),h4.below hb⟩
theorem two_up{w W w2 w3:World}{v1:Value}{ao2:Option Addr}{l1 l2 y1 y2:List ByteArray}{c2:Nat}(hs:w.heap.size<=W.heap.size)(h1:OwnT W.drew.heap.size w2 v1 l1.length y1 1000000)(h2:y1.take l1.length=l1)(h3:Below W.drew.heap.size W.drew w2)
  (h4:OwnT w2.heap.size w3 (.slice ao2 l2.length c2) l2.length y2 1000000) (h5:y2.take l2.length=l2) (h6:Below w2.heap.size w2 w3):OwnT w.heap.size w3 v1 l1.length y1 1000000/\y1.take l1.length=l1/\RdT w3 ao2 l2/\(∀s∈l2,s.size<=1000000)/\w.heap.size<=w3.heap.size:=by
 refine ⟨(h1.below h6).mono hs,h2,?_,h4.small h5,Nat.le_trans hs (Nat.le_trans h3.size h6.size)⟩
 have:=h4.rd l2.length
 rw[h5] at this
 exact this
theorem tell_soa(t:Nat)(ht:t=6)(x:DA)(d:Dat)(w:World)(h:DRd w x d)(hp:∀n∈d.ns,nck n=0)(hn:d.ns.length<=1000)(hu:d.us.length<=1000)(hL:LayT w) :
  Calls Tryz.prog 152 #[.int .u16 t,.agg #[.slice x.p1.a x.p1.n x.p1.c,.slice x.p2.a x.p2.n x.p2.c,.slice x.p3.a x.p3.n x.p3.c,.slice x.p4.a x.p4.n x.p4.c]] w (TLPost (d.ns.map (fun n=>(ntext n).1)++d.us.map xnw) w):=by
 obtain ⟨⟨a1,n1,k1⟩,⟨a2,n2,k2⟩,⟨a3,n3,k3⟩,⟨a4,n4,k4⟩⟩:=x
 have hb0:Below w.heap.size w (w.alloc (.cells #[.slice a1 n1 k1,.slice a2 n2 k2,.slice a3 n3 k3,.slice a4 n4 k4] 41)):=(Below.refl _ _).alloc (Nat.le_refl _) _
 have H:Hid (DBox (w.alloc (.cells #[.slice a1 n1 k1,.slice a2 n2 k2,.slice a3 n3 k3,.slice a4 n4 k4] 41)) w.heap.size ⟨⟨a1,n1,k1⟩,⟨a2,n2,k2⟩,⟨a3,n3,k3⟩,⟨a4,n4,k4⟩⟩/\DRd (w.alloc (.cells #[.slice a1 n1 k1,.slice a2 n2 k2,.slice a3 n3 k3,.slice a4 n4 k4] 41)) ⟨⟨a1,n1,k1⟩,⟨a2,n2,k2⟩,⟨a3,n3,k3⟩,⟨a4,n4,k4⟩⟩ d/\Below w.heap.size w (w.alloc (.cells #[.slice a1 n1 k1,.slice a2 n2 k2,.slice a3 n3 k3,.slice a4 n4 k4] 41))/\LayT (w.alloc (.cells #[.slice a1 n1 k1,.slice a2 n2 k2,.slice a3 n3 k3,.slice a4 n4 k4] 41))):=⟨DBox.new w ⟨⟨a1,n1,k1⟩,⟨a2,n2,k2⟩,⟨a3,n3,k3⟩,⟨a4,n4,k4⟩⟩,h.below hb0,hb0,hL.below hb0⟩
 clear h hL hb0
 simp only
 have hn1:n1<=1000:=by have:=H.out.2.1.h1.len;simp only at this;omega
 have hn2:n2<=1000:=by have:=H.out.2.1.h2.len;simp only at this;omega
 have HLL:Hid (d.ns.length=n1/\d.us.length=n2):=⟨H.out.2.1.h1.len,H.out.2.1.h2.len⟩
 have KN:=Lib.hid (fun W (hd:DRd W ⟨⟨a1,n1,k1⟩,⟨a2,n2,k2⟩,⟨a3,n3,k3⟩,⟨a4,n4,k4⟩⟩ d) (_:LayT W)=>nameT_any ⟨a1,n1,k1⟩ d.ns W hd.h1 hp (show n1<=1000000 by omega))
 have KU:=Lib.hid (fun W (hd:DRd W ⟨⟨a1,n1,k1⟩,⟨a2,n2,k2⟩,⟨a3,n3,k3⟩,⟨a4,n4,k4⟩⟩ d) (hW:LayT W)=>numT_any ⟨a2,n2,k2⟩ d.us W hd.h2 (show n2<=1000000 by omega) hW)
 clear hp hn hu
 have HSN:Hid ((d.ns.map (fun n=>(ntext n).1)).length=n1):=by show _=_;rw[List.length_map];exact HLL.out.1
 have HSU:Hid ((d.us.map xnw).length=n2):=by show _=_;rw[List.length_map];exact HLL.out.2
 generalize d.ns.map (fun n=>(ntext n).1)=lN at*
 generalize d.us.map xnw=lU at*
 subst ht
 all_goals
  go_enter Tryz.func152,Tryz.ntmps152
  have d0:=H.out.1.1
  have d1:=H.out.1.2.1
  have d2:=H.out.1.2.2.1
  have d3:=H.out.1.2.2.2.1
  simp only at d0 d1 d2 d3
  go_wp2_with fail
  generalize (w.alloc (.cells #[.slice a1 n1 k1,.slice a2 n2 k2,.slice a3 n3 k3,.slice a4 n4 k4] 41))=wa at*
  go_region_law (first
   |(refine st_T rfl _ _ rfl w.heap.size _ lN.length y1 lN rfl H4.out.1 H4.out.2.1 ao2 lU.length y2.length lU rfl H4.out.2.2.1 rfl H4.out.2.2.2.1 (by have:=HSN.out;have:=HSU.out;omega) H4.out.2.2.2.2 ?_;intro v' w' ys' hO' hG')
   |(go_simp;go_at_call 183;refine (KN.out _ (H.out.2.1.below (Below.refl _ _).drew) (H.out.2.2.2.below (Below.refl _ _).drew)).mono ?_;rintro e w2 ⟨v1,y1,rfl,H2⟩;have HA:=Lib.hid (aftT H.out.1 H.out.2.1 H.out.2.2.1 H.out.2.2.2 H2.out.2.2);have e0:=HA.out.1.1;have e1:=HA.out.1.2.1;have e2:=HA.out.1.2.2.1;have e3:=HA.out.1.2.2.2.1;simp only at e0 e1 e2 e3;obtain ⟨ao1,rfl,-⟩:=H2.out.1.shape)
   |(go_simp;go_at_call 184;refine (KU.out _ HA.out.2.1 HA.out.2.2.2).mono ?_;rintro e w3 ⟨v2,y2,rfl,H3⟩;obtain ⟨ao2,rfl,-⟩:=H3.out.1.shape;have H4:=Lib.hid (two_up H.out.2.2.1.size H2.out.1 H2.out.2.1 H2.out.2.2 H3.out.1 H3.out.2.1 H3.out.2.2)))
  all_goals
   have HB3:=Lib.hid (HA.out.2.2.1.trans (H3.out.2.2.mono HA.out.2.2.1.size))
   have hrow:=H4.out.1.1.lt
   go_wp2
   go_ret
   refine ⟨_,ys',rfl,?_,?_,HB3.out.grown hG'.out HB3.out.size hrow⟩
   ·rw[List.length_append];exact hO'.out.1
   ·rw[List.length_append];exact hO'.out.2
theorem tell_mx(t:Nat)(ht:t=15∨t=33)(x:DA)(d:Dat)(w:World)(h:DRd w x d)(hp:∀n∈d.ns,nck n=0)(hn:d.ns.length<=1000)(hu:d.us.length<=1000)(hL:LayT w) :
  Calls Tryz.prog 152 #[.int .u16 t,.agg #[.slice x.p1.a x.p1.n x.p1.c,.slice x.p2.a x.p2.n x.p2.c,.slice x.p3.a x.p3.n x.p3.c,.slice x.p4.a x.p4.n x.p4.c]] w (TLPost (d.us.map xnw++d.ns.map (fun n=>(ntext n).1)) w):=by
 obtain ⟨⟨a1,n1,k1⟩,⟨a2,n2,k2⟩,⟨a3,n3,k3⟩,⟨a4,n4,k4⟩⟩:=x
 have hb0:Below w.heap.size w (w.alloc (.cells #[.slice a1 n1 k1,.slice a2 n2 k2,.slice a3 n3 k3,.slice a4 n4 k4] 41)):=(Below.refl _ _).alloc (Nat.le_refl _) _
 have H:Hid (DBox (w.alloc (.cells #[.slice a1 n1 k1,.slice a2 n2 k2,.slice a3 n3 k3,.slice a4 n4 k4] 41)) w.heap.size ⟨⟨a1,n1,k1⟩,⟨a2,n2,k2⟩,⟨a3,n3,k3⟩,⟨a4,n4,k4⟩⟩/\DRd (w.alloc (.cells #[.slice a1 n1 k1,.slice a2 n2 k2,.slice a3 n3 k3,.slice a4 n4 k4] 41)) ⟨⟨a1,n1,k1⟩,⟨a2,n2,k2⟩,⟨a3,n3,k3⟩,⟨a4,n4,k4⟩⟩ d/\Below w.heap.size w (w.alloc (.cells #[.slice a1 n1 k1,.slice a2 n2 k2,.slice a3 n3 k3,.slice a4 n4 k4] 41))/\LayT (w.alloc (.cells #[.slice a1 n1 k1,.slice a2 n2 k2,.slice a3 n3 k3,.slice a4 n4 k4] 41))):=⟨DBox.new w ⟨⟨a1,n1,k1⟩,⟨a2,n2,k2⟩,⟨a3,n3,k3⟩,⟨a4,n4,k4⟩⟩,h.below hb0,hb0,hL.below hb0⟩
 clear h hL hb0
 simp only
 have hn1:n1<=1000:=by have:=H.out.2.1.h1.len;simp only at this;omega
 have hn2:n2<=1000:=by have:=H.out.2.1.h2.len;simp only at this;omega
 have HLL:Hid (d.ns.length=n1/\d.us.length=n2):=⟨H.out.2.1.h1.len,H.out.2.1.h2.len⟩
 have KN:=Lib.hid (fun W (hd:DRd W ⟨⟨a1,n1,k1⟩,⟨a2,n2,k2⟩,⟨a3,n3,k3⟩,⟨a4,n4,k4⟩⟩ d) (_:LayT W)=>nameT_any ⟨a1,n1,k1⟩ d.ns W hd.h1 hp (show n1<=1000000 by omega))
 have KU:=Lib.hid (fun W (hd:DRd W ⟨⟨a1,n1,k1⟩,⟨a2,n2,k2⟩,⟨a3,n3,k3⟩,⟨a4,n4,k4⟩⟩ d) (hW:LayT W)=>numT_any ⟨a2,n2,k2⟩ d.us W hd.h2 (show n2<=1000000 by omega) hW)
 clear hp hn hu
 have HSN:Hid ((d.ns.map (fun n=>(ntext n).1)).length=n1):=by show _=_;rw[List.length_map];exact HLL.out.1
 have HSU:Hid ((d.us.map xnw).length=n2):=by show _=_;rw[List.length_map];exact HLL.out.2
 generalize d.ns.map (fun n=>(ntext n).1)=lN at*
 generalize d.us.map xnw=lU at*
 rcases ht with rfl|rfl
 all_goals
  go_enter Tryz.func152,Tryz.ntmps152
  have d0:=H.out.1.1
  have d1:=H.out.1.2.1
  have d2:=H.out.1.2.2.1
  have d3:=H.out.1.2.2.2.1
  simp only at d0 d1 d2 d3
  go_wp2_with fail
  generalize (w.alloc (.cells #[.slice a1 n1 k1,.slice a2 n2 k2,.slice a3 n3 k3,.slice a4 n4 k4] 41))=wa at*
  go_region_law (first
   |(refine st_T rfl _ _ rfl w.heap.size _ lU.length y1 lU rfl H4.out.1 H4.out.2.1 ao2 lN.length y2.length lN rfl H4.out.2.2.1 rfl H4.out.2.2.2.1 (by have:=HSN.out;have:=HSU.out;omega) H4.out.2.2.2.2 ?_;intro v' w' ys' hO' hG')
   |(go_simp;go_at_call 184;refine (KU.out _ (H.out.2.1.below (Below.refl _ _).drew) (H.out.2.2.2.below (Below.refl _ _).drew)).mono ?_;rintro e w2 ⟨v1,y1,rfl,H2⟩;have HA:=Lib.hid (aftT H.out.1 H.out.2.1 H.out.2.2.1 H.out.2.2.2 H2.out.2.2);have e0:=HA.out.1.1;have e1:=HA.out.1.2.1;have e2:=HA.out.1.2.2.1;have e3:=HA.out.1.2.2.2.1;simp only at e0 e1 e2 e3;obtain ⟨ao1,rfl,-⟩:=H2.out.1.shape)
   |(go_simp;go_at_call 183;refine (KN.out _ HA.out.2.1 HA.out.2.2.2).mono ?_;rintro e w3 ⟨v2,y2,rfl,H3⟩;obtain ⟨ao2,rfl,-⟩:=H3.out.1.shape;have H4:=Lib.hid (two_up H.out.2.2.1.size H2.out.1 H2.out.2.1 H2.out.2.2 H3.out.1 H3.out.2.1 H3.out.2.2)))
  all_goals
   have HB3:=Lib.hid (HA.out.2.2.1.trans (H3.out.2.2.mono HA.out.2.2.1.size))
   have hrow:=H4.out.1.1.lt
   go_wp2
   go_ret
   refine ⟨_,ys',rfl,?_,?_,HB3.out.grown hG'.out HB3.out.size hrow⟩
   ·rw[List.length_append];exact hO'.out.1
   ·rw[List.length_append];exact hO'.out.2
theorem two_rdT(w:World)(s t:ByteArray):RdT (w.alloc (.cells #[.string s,.string t] 9)) (some ⟨w.heap.size,0,none⟩) [s,t]:=by
 have:=(show BlkV (w.alloc (.cells (tv [s,t]).toArray 9)) w.heap.size 9 (tv [s,t]) from heap_alloc_new _ _).rd 2
 exact this
theorem own_up{wa w2 w3:World}{v:Value}{n:Nat}{ys:List ByteArray}(h1:OwnT wa.drew.heap.size w2 v n ys 1000000)(h2:Below wa.heap.size wa w2)(h3:Below w2.heap.size w2 w3)(a b:ByteArray):OwnT wa.heap.size (w3.alloc (.cells #[.string a,.string b] 9)) v n ys 1000000/\wa.heap.size<=(w3.alloc (.cells #[.string a,.string b] 9)).heap.size/\Below wa.heap.size wa (w3.alloc (.cells #[.string a,.string b] 9)):=by
 have h4:Below w3.heap.size w3 (w3.alloc (.cells #[.string a,.string b] 9)):=(Below.refl _ _).alloc (Nat.le_refl _) _
 have h5:Below wa.heap.size wa w3:=h2.trans (h3.mono h2.size)
 exact ⟨(h1.below h3).below h4,Nat.le_trans h5.size h4.size,h5.trans (h4.mono h5.size)⟩
theorem tell_caa(t:Nat)(ht:t=257)(x:DA)(d:Dat)(w:World)(h:DRd w x d)(hu:d.us.length<=1000)(s0 s1:ByteArray)(hts:d.ts=[s0,s1])(hz0:s0.size<=200000)(hz1:s1.size<=200000)(hL:LayT w) :
  Calls Tryz.prog 152 #[.int .u16 t,.agg #[.slice x.p1.a x.p1.n x.p1.c,.slice x.p2.a x.p2.n x.p2.c,.slice x.p3.a x.p3.n x.p3.c,.slice x.p4.a x.p4.n x.p4.c]] w (TLPost (d.us.map xnw++xtw 257 d.ts) w):=by
 obtain ⟨⟨a1,n1,k1⟩,⟨a2,n2,k2⟩,⟨a3,n3,k3⟩,⟨a4,n4,k4⟩⟩:=x
 have hb0:Below w.heap.size w (w.alloc (.cells #[.slice a1 n1 k1,.slice a2 n2 k2,.slice a3 n3 k3,.slice a4 n4 k4] 41)):=(Below.refl _ _).alloc (Nat.le_refl _) _
 have H:Hid (DBox (w.alloc (.cells #[.slice a1 n1 k1,.slice a2 n2 k2,.slice a3 n3 k3,.slice a4 n4 k4] 41)) w.heap.size ⟨⟨a1,n1,k1⟩,⟨a2,n2,k2⟩,⟨a3,n3,k3⟩,⟨a4,n4,k4⟩⟩/\DRd (w.alloc (.cells #[.slice a1 n1 k1,.slice a2 n2 k2,.slice a3 n3 k3,.slice a4 n4 k4] 41)) ⟨⟨a1,n1,k1⟩,⟨a2,n2,k2⟩,⟨a3,n3,k3⟩,⟨a4,n4,k4⟩⟩ d/\Below w.heap.size w (w.alloc (.cells #[.slice a1 n1 k1,.slice a2 n2 k2,.slice a3 n3 k3,.slice a4 n4 k4] 41))/\LayT (w.alloc (.cells #[.slice a1 n1 k1,.slice a2 n2 k2,.slice a3 n3 k3,.slice a4 n4 k4] 41))):=⟨DBox.new w ⟨⟨a1,n1,k1⟩,⟨a2,n2,k2⟩,⟨a3,n3,k3⟩,⟨a4,n4,k4⟩⟩,h.below hb0,hb0,hL.below hb0⟩
 clear h hL hb0
 simp only
 have hn2:n2<=1000:=by have:=H.out.2.1.h2.len;simp only at this;omega
 have hn3:n3=2:=by have:=H.out.2.1.h3.len;simp only at this;rw[hts] at this;exact this.symm
 subst hn3
 have HT3:=Lib.hid H.out.2.1.h3
 rw[hts] at HT3
 obtain ⟨b3,o3,hbo,hb3,c0⟩:=HT3.out.rd.at 0 (by simp)
 obtain ⟨b3',o3',hbo',hb3',c1⟩:=HT3.out.rd.at 1 (by simp)
 simp only at hbo hbo'
 rw[hbo] at hbo'
 injection hbo' with hbo'
 injection hbo' with e1 e2
 subst e1;subst e2
 subst hbo
 clear hb3'
 simp only[List.getElem_cons_zero,List.getElem_cons_succ,Nat.add_zero] at c0 c1
 have HSU:Hid ((d.us.map xnw).length=n2):=by show _=_;rw[List.length_map];exact H.out.2.1.h2.len
 have KU:=Lib.hid (fun W (hd:DRd W ⟨⟨a1,n1,k1⟩,⟨a2,n2,k2⟩,⟨some ⟨b3,o3,none⟩,2,k3⟩,⟨a4,n4,k4⟩⟩ d) (hW:LayT W)=>numT_any ⟨a2,n2,k2⟩ d.us W hd.h2 (show n2<=1000000 by omega) hW)
 have KQ:=Lib.hid (fun W=>quote_any s1 W (by omega))
 have hq:(xqw s1).size<=1000000:=by have:=xqw_size s1;omega
 have e257:xtw 257 d.ts=[s0,xqw s1]:=by rw[hts];rfl
 rw[e257]
 clear hu e257 hts HT3
 generalize d.us.map xnw=lU at*
 generalize xqw s1=q at*
 subst ht
 have C3:=Lib.hid (⟨c0,c1,hb3⟩:_/\_/\_)
 go_enter Tryz.func152,Tryz.ntmps152
 have d0:=H.out.1.1
 have d1:=H.out.1.2.1
 have d2:=H.out.1.2.2.1
 have d3:=H.out.1.2.2.2.1
 simp only at d0 d1 d2 d3
 go_wp2_with fail
 generalize (w.alloc (.cells #[.slice a1 n1 k1,.slice a2 n2 k2,.slice (some ⟨b3,o3,none⟩) 2 k3,.slice a4 n4 k4] 41))=wa at*
 have hbx:w.heap.size<wa.heap.size:=H.out.1.2.2.2.2
 have HSC:Hid (∀W,Below wa.heap.size wa W->W.cell? ⟨w.heap.size,1,none⟩=some (.slice a2 n2 k2)/\W.cell? ⟨w.heap.size,2,none⟩=some (.slice (some ⟨b3,o3,none⟩) 2 k3)/\W.cell? ⟨b3,o3,none⟩=some (.string s0)/\W.cell? ⟨b3,o3+1,none⟩=some (.string s1)):=fun W hW=>⟨(hW.cell (p:=⟨w.heap.size,1,none⟩) hbx).trans d1,(hW.cell (p:=⟨w.heap.size,2,none⟩) hbx).trans d2,(hW.cell (p:=⟨b3,o3,none⟩) C3.out.2.2).trans C3.out.1,(hW.cell (p:=⟨b3,o3+1,none⟩) C3.out.2.2).trans C3.out.2.1⟩
 have HDD:Hid (∀W,Below wa.heap.size wa W->DRd W ⟨⟨a1,n1,k1⟩,⟨a2,n2,k2⟩,⟨some ⟨b3,o3,none⟩,2,k3⟩,⟨a4,n4,k4⟩⟩ d/\LayT W):=fun W hW=>⟨H.out.2.1.below hW,H.out.2.2.2.below hW⟩
 have HWA:Hid (Below w.heap.size w wa):=H.out.2.2.1
 clear d0 d3 H C3
 go_region_held3 (fun W=>W.cell? ⟨w.heap.size,1,none⟩=some (.slice a2 n2 k2)/\W.cell? ⟨w.heap.size,2,none⟩=some (.slice (some ⟨b3,o3,none⟩) 2 k3)/\W.cell? ⟨b3,o3,none⟩=some (.string s0)/\W.cell? ⟨b3,o3+1,none⟩=some (.string s1)) (exact ⟨by go_keep,by go_keep,by go_keep,by go_keep⟩) (first
  |(go_at_call 184;refine (KU.out _ (HDD.out _ (Below.refl _ _).drew).1 (HDD.out _ (Below.refl _ _).drew).2).mono ?_;rintro e w2 ⟨v1,y1,rfl,H2⟩;have HB2:Hid (Below wa.heap.size wa w2):=(Below.refl wa.heap.size wa).drew.trans H2.out.2.2;obtain ⟨e1,e2,e3,e4⟩:=HSC.out w2 HB2.out;obtain ⟨ao1,rfl,-⟩:=H2.out.1.shape)
  |(go_at_call 186;refine (KQ.out _).mono ?_;rintro e w3 ⟨rfl,H3⟩;have HB3:Hid (Below wa.heap.size wa w3):=HB2.out.trans (H3.out.mono HB2.out.size);obtain ⟨f1,f2,f3,f4⟩:=HSC.out w3 HB3.out;have H5:Hid (OwnT wa.heap.size (w3.alloc (.cells #[.string s0,.string q] 9)) (.slice ao1 lU.length y1.length) lU.length y1 1000000/\wa.heap.size<=(w3.alloc (.cells #[.string s0,.string q] 9)).heap.size/\Below wa.heap.size wa (w3.alloc (.cells #[.string s0,.string q] 9))):=own_up H2.out.1 HB2.out H3.out s0 q;obtain ⟨i1,i2,i3,i4⟩:=HSC.out _ H5.out.2.2)
  |(refine st_T rfl _ _ rfl wa.heap.size _ lU.length y1 lU rfl H5.out.1 H2.out.2.1 (some ⟨w3.heap.size,0,none⟩) 2 2 [s0,q] rfl (two_rdT w3 s0 q) rfl (by intro s hs;simp at hs;rcases hs with rfl|rfl <;> omega) (by have:=HSU.out;omega) H5.out.2.1 ?_;intro v' w' ys' hO' hG';have HB5:Hid (Below wa.heap.size wa w'):=H5.out.2.2.grown hG'.out H5.out.2.1 H5.out.1.1.lt;obtain ⟨j1,j2,j3,j4⟩:=HSC.out w' HB5.out))
 all_goals
  go_wp2
  go_ret
  refine ⟨_,ys',rfl,?_,?_,HWA.out.trans (HB5.out.mono HWA.out.size)⟩
  ·rw[List.length_append];exact hO'.out.1.mono HWA.out.size
  ·rw[List.length_append];exact hO'.out.2
end Go.Proofs.YtoppdmlmhigogaaGreatDoor
