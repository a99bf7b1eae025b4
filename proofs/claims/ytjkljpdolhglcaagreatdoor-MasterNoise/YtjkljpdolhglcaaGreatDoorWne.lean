/- Texts laid together, in parts: Hp Hn Hq Nxk Qa Sd Ak. -/
import Derived.Test.YtjkljpdolhglcaaGreatDoorWnd
import Derived.Deep.CutBlock
set_option maxRecDepth 100000
set_option maxHeartbeats 8000000
set_option linter.unusedVariables false
set_option linter.unusedSimpArgs false
namespace Go.Proofs.YtjkljpdolhglcaaGreatDoor
open Go.ChangeShapes Go.WideShapes Go.ChangeAt Go.RowKit
def pread(f:Fs)(zs:List Int)(len:Nat):Dat × Option Nat:=
 let r1:=pnms zs len (some 0) f.nf
 let r2:=pnus zs len r1.2 f.wd f.nu
 let r3:=pnms zs len r2.2 (f.nn - f.nf)
 let r4:=ptxs f zs len r3.2
 let r5:List Int × Option Nat:=if f.nr=0 then ([],r4.2) else (tk zs r4.2 (lft len r4.2),mv len r4.2 (lft len r4.2))
 (⟨r1.1++r3.1,r2.1,r4.1,r5.1⟩,r5.2)
def Stp(zs:List Int)(st st':Option Nat)(b:List Int):Prop:=∀q,st'=some q->∃p,st=some p/\(p<=zs.length->q<=zs.length/\zs.drop p=b++zs.drop q)
theorem Stp.nil(zs:List Int)(st:Option Nat):Stp zs st st []:=fun q hq=>⟨q,hq,fun h=>⟨h,rfl⟩⟩
theorem Stp.trans{zs:List Int}{a b c:Option Nat}{x y:List Int}(h1:Stp zs a b x)(h2:Stp zs b c y):Stp zs a c (x++y):=by
 intro q hq
 obtain ⟨p,e,hp⟩:=h2 q hq
 obtain ⟨p0,e0,hp0⟩:=h1 p e
 refine ⟨p0,e0,fun h=>?_⟩
 obtain ⟨h3,h4⟩:=hp0 h
 obtain ⟨h5,h6⟩:=hp h3
 exact ⟨h5,by rw[h4,h6,List.append_assoc]⟩
theorem Stp.take(zs:List Int)(st:Option Nat)(n:Int):Stp zs st (mv zs.length st n) (tk zs st n):=by
 intro q hq
 cases st with
 |none=>cases hq
 |some k=>
  simp only[mv] at hq
  split at hq
  ·rename_i h
   cases hq
   refine ⟨k,rfl,fun _=>⟨by omega,?_⟩⟩
   simp only[tk]
   rw[if_pos h,<- List.drop_drop,List.take_append_drop]
  ·cases hq
theorem dropd{zs:List Int}{p:Nat}{b R:List Int}(h:zs.drop p=b++R)(hp:p<=zs.length):zs=zs.take p++(b++R)/\(zs.take p).length=p/\zs.drop (p+b.length)=R/\p+b.length<=zs.length:=by
 refine ⟨by rw[<- h,List.take_append_drop],by simp;omega,?_,?_⟩
 ·rw[<- List.drop_drop,h];simp
 ·have:=congrArg List.length h
  simp at this;omega
theorem tk_some{zs:List Int}{k:Nat}{n:Int}{q:Nat}(h:mv zs.length (some k) n=some q):(tk zs (some k) n).length=n.toNat/\0<=n/\q=k+n.toNat:=by
 simp only[mv] at h
 split at h
 ·rename_i hc
  cases h
  simp only[tk]
  rw[if_pos hc]
  refine ⟨by simp;omega,hc.1,trivial⟩
 ·cases h
theorem numB_val(l:List Int)(wd:Nat)(hw:wd=1∨wd=2∨wd=4)(hl:l.length=wd)(hb:∀z∈l,0<=z/\z<=255):numB (val l).toNat wd=l:=by
 rcases hw with rfl|rfl|rfl
 ·obtain ⟨a,rfl⟩:=len1 hl
  have:=hb a (by simp)
  simp[numB,val];omega
 ·obtain ⟨a,b,rfl⟩:=len2 hl
  have h1:=hb a (by simp)
  have h2:=hb b (by simp)
  simp[numB,val];omega
 ·rcases l with _|⟨a,_|⟨b,_|⟨c,_|⟨d,_|⟨e,l⟩⟩⟩⟩⟩ <;> simp at hl
  have h1:=hb a (by simp)
  have h2:=hb b (by simp)
  have h3:=hb c (by simp)
  have h4:=hb d (by simp)
  simp[numB,val];omega
theorem Stp.num(zs:List Int)(hb:∀z∈zs,0<=z/\z<=255)(st:Option Nat)(wd:Nat)(hw:wd=1∨wd=2∨wd=4):Stp zs st (mv zs.length st (wd:Int)) (numB (pnu zs st wd) wd):=by
 intro q hq
 have h:=Stp.take zs st (wd:Int) q hq
 obtain ⟨p,rfl,h⟩:=h
 refine ⟨p,rfl,fun hp=>?_⟩
 have hl:=(tk_some hq).1
 unfold pnu
 rw[numB_val _ wd hw (by omega) (tk_bytes zs _ _ hb)]
 exact h hp
theorem Stp.us(zs:List Int)(hb:∀z∈zs,0<=z/\z<=255)(st:Option Nat)(wd:Nat)(hw:wd=1∨wd=2∨wd=4):∀k,Stp zs st (pnus zs zs.length st wd k).2 ((pnus zs zs.length st wd k).1.flatMap fun n=>numB n wd)
 |0=>Stp.nil zs st
 |k+1=>by
  have ih:=Stp.us zs hb st wd hw k
  have:=ih.trans (Stp.num zs hb (pnus zs zs.length st wd k).2 wd hw)
  simpa [pnus] using this
theorem rgo_sound(l:List Int)(hb:∀z∈l,0<=z/\z<=255):∀(n p:Nat) (out o:List ByteArray) (q:Nat),l.length - p<=n->rgo l p out=some (o,q)->∃r,o=out++r/\q<=l.length/\l.drop p=nby r++(0::l.drop q):=by
 intro n
 induction n with
 |zero=>
  intro p out o q hn h
  rw[rgo_end l p out (by omega)] at h
  cases h
 |succ n ih=>
  intro p out o q hn h
  by_cases h1:p<l.length/\l.getD p 0<=63
  ·have hd:l.drop p=l.getD p 0::l.drop (p+1):=by
    rw[List.drop_eq_getElem_cons h1.1]
    simp[List.getD_eq_getElem?_getD,h1.1]
   have hc:0<=l.getD p 0:=by
    have:=hb l[p] (List.getElem_mem h1.1)
    simpa [List.getD_eq_getElem?_getD,h1.1] using this.1
   by_cases h0:l.getD p 0=0
   ·rw[rgo_zero l p out h1 h0] at h
    cases h
    refine ⟨[],by simp,by omega,?_⟩
    rw[hd,h0]
    rfl
   ·by_cases h2:(l.length:Int) - ((p:Int)+1)<l.getD p 0
    ·rw[rgo_short l p out h1 h0 h2] at h;cases h
    ·rw[rgo_step l p out h1 h0 h2] at h
     obtain ⟨r,e1,e2,e3⟩:=ih _ _ _ _ (by omega) h
     refine ⟨lb ((l.drop (p+1)).take (l.getD p 0).toNat)::r,by rw[e1];simp,e2,?_⟩
     have hlen:((l.drop (p+1)).take (l.getD p 0).toNat).length=(l.getD p 0).toNat:=by rw[List.length_take,List.length_drop];omega
     have hnm:nums (lb ((l.drop (p+1)).take (l.getD p 0).toNat))=(l.drop (p+1)).take (l.getD p 0).toNat:=nums_back _ fun z hz=>hb z (List.mem_of_mem_drop (List.mem_of_mem_take hz))
     have hf:nby (lb ((l.drop (p+1)).take (l.getD p 0).toNat)::r)=((lb ((l.drop (p+1)).take (l.getD p 0).toNat)).size:Int)::(nums (lb ((l.drop (p+1)).take (l.getD p 0).toNat))++nby r):=by simp[nby]
     rw[hf,lb_size,hlen,hnm,hd]
     have hz:(((l.getD p 0).toNat:Nat):Int)=l.getD p 0:=by omega
     have e4:(l.drop (p+1)).drop (l.getD p 0).toNat=l.drop (p+1+(l.getD p 0).toNat):=List.drop_drop
     rw[hz,List.cons_append,List.append_assoc,<- e3,<- e4,List.take_append_drop]
  ·rw[rgo_end l p out h1] at h;cases h
theorem nread_sound{zs:List Int}(hb:∀z∈zs,0<=z/\z<=255){p:Nat}(h:(nread zs (p:Int)).2.2=0):∃q:Nat,(nread zs (p:Int)).2.1=(q:Int)/\q<=zs.length/\zs.drop p=nmB (nread zs (p:Int)).1++zs.drop q:=by
 by_cases h1:(p:Int)<0∨(zs.length:Int)<=(p:Int)
 ·have e:nread zs (p:Int)=([],0,2):=by unfold nread;rw[if_pos h1]
  rw[e] at h
  exact absurd h (by decide)
 ·cases hr:rgo zs p [] with
  |none=>
   have e:nread zs (p:Int)=([],0,8):=by unfold nread;rw[if_neg h1,Int.toNat_natCast,hr]
   rw[e] at h
   exact absurd h (by decide)
  |some x=>
   obtain ⟨o,q⟩:=x
   by_cases hk:nck o=0
   ·have e:nread zs (p:Int)=(o,(q:Int),0):=by unfold nread;rw[if_neg h1,Int.toNat_natCast,hr];simp[hk]
    obtain ⟨r,e1,e2,e3⟩:=rgo_sound zs hb _ p [] o q (Nat.le_refl _) hr
    rw[e]
    refine ⟨q,rfl,e2,?_⟩
    simp at e1
    subst e1
    rw[e3]
    simp[nmB]
   ·have e:nread zs (p:Int)=([],0,8):=by unfold nread;rw[if_neg h1,Int.toNat_natCast,hr];simp[hk]
    rw[e] at h
    exact absurd h (by decide)
theorem Stp.nm(zs:List Int)(hb:∀z∈zs,0<=z/\z<=255)(st:Option Nat):Stp zs st (pnm1 zs zs.length st).2 (nmB (pnm1 zs zs.length st).1):=by
 intro q hq
 cases st with
 |none=>cases hq
 |some p=>
  refine ⟨p,rfl,fun hp=>?_⟩
  have hq':jm zs.length (some p) (if (nread zs (p:Int)).2.2=0 then (nread zs (p:Int)).2.1 else -1)=some q:=hq
  show q<=zs.length/\zs.drop p=nmB (nread zs (p:Int)).1++zs.drop q
  by_cases h0:(nread zs (p:Int)).2.2=0
  ·obtain ⟨r,e1,e2,e3⟩:=nread_sound hb h0
   rw[if_pos h0,e1] at hq'
   simp only[jm] at hq'
   rw[if_pos ⟨by omega,by omega⟩,Int.toNat_natCast] at hq'
   cases hq'
   exact ⟨e2,e3⟩
  ·rw[if_neg h0] at hq'
   simp only[jm] at hq'
   rw[if_neg (by omega)] at hq'
   cases hq'
theorem Stp.nms(zs:List Int)(hb:∀z∈zs,0<=z/\z<=255)(st:Option Nat):∀k,Stp zs st (pnms zs zs.length st k).2 ((pnms zs zs.length st k).1.flatMap nmB)
 |0=>Stp.nil zs st
 |k+1=>by
  have ih:=Stp.nms zs hb st k
  have:=ih.trans (Stp.nm zs hb (pnms zs zs.length st k).2)
  simpa [pnms] using this
theorem nby_cons(s:ByteArray)(r:List ByteArray):nby (s::r)=((s.size:Int)::nums s)++nby r:=by simp[nby]
theorem Stp.text(zs:List Int)(hb:∀z∈zs,0<=z/\z<=255)(st:Option Nat):Stp zs st (mv zs.length (mv zs.length st 1) (val (tk zs st 1))) (((lb (tk zs (mv zs.length st 1) (val (tk zs st 1)))).size:Int)::nums (lb (tk zs (mv zs.length st 1) (val (tk zs st 1))))):=by
 intro q hq
 obtain ⟨p1,e1,hB⟩:=Stp.take zs _ _ q hq
 obtain ⟨p0,rfl,hA⟩:=Stp.take zs _ _ p1 e1
 have h1:=tk_some e1
 rw[e1] at hq hB ⊢
 have h2:=tk_some hq
 obtain ⟨c,hc⟩:=len1 (l:=tk zs (some p0) 1) (by simpa using h1.1)
 have hv:val (tk zs (some p0) 1)=c:=by rw[hc];simp[val]
 refine ⟨p0,rfl,fun hp=>?_⟩
 obtain ⟨a1,a2⟩:=hA hp
 obtain ⟨b1,b2⟩:=hB a1
 refine ⟨b1,?_⟩
 have hnm:nums (lb (tk zs (some p1) (val (tk zs (some p0) 1))))=tk zs (some p1) (val (tk zs (some p0) 1)):=nums_back _ (tk_bytes zs _ _ hb)
 rw[hnm,lb_size,h2.1,a2,b2,hc]
 have:(((val (tk zs (some p0) 1)).toNat:Nat):Int)=c:=by omega
 rw[hc] at this
 rw[this]
 simp
theorem Stp.texts(zs:List Int)(hb:∀z∈zs,0<=z/\z<=255):∀(k:Nat) (st:Option Nat),Stp zs st (ptxF zs zs.length k st).2 (nby (ptxF zs zs.length k st).1)
 |0,st=>Stp.nil zs st
 |k+1,st=>by
  by_cases h:0<lft zs.length st
  ·have ih:=Stp.texts zs hb k (mv zs.length (mv zs.length st 1) (val (tk zs st 1)))
   have:=(Stp.text zs hb st).trans ih
   unfold ptxF
   rw[if_pos h]
   simp only
   rw[nby_cons]
   exact this
  ·rw[ptxF_end zs zs.length (k+1) st h]
   exact Stp.nil zs st
theorem Stp.two(zs:List Int)(hb:∀z∈zs,0<=z/\z<=255)(st:Option Nat):Stp zs st (ptx2 zs zs.length st).2 (ptB 1 (ptx2 zs zs.length st).1):=by
 have h1:=Stp.text zs hb st
 have h2:=h1.trans (Stp.take zs (mv zs.length (mv zs.length st 1) (val (tk zs st 1))) (lft zs.length (mv zs.length (mv zs.length st 1) (val (tk zs st 1)))))
 have e:ptB 1 (ptx2 zs zs.length st).1=(((lb (tk zs (mv zs.length st 1) (val (tk zs st 1)))).size:Int)::nums (lb (tk zs (mv zs.length st 1) (val (tk zs st 1)))))++tk zs (mv zs.length (mv zs.length st 1) (val (tk zs st 1))) (lft zs.length (mv zs.length (mv zs.length st 1) (val (tk zs st 1)))):=by
  have hn:nums (lb (tk zs (mv zs.length (mv zs.length st 1) (val (tk zs st 1))) (lft zs.length (mv zs.length (mv zs.length st 1) (val (tk zs st 1))))))=tk zs (mv zs.length (mv zs.length st 1) (val (tk zs st 1))) (lft zs.length (mv zs.length (mv zs.length st 1) (val (tk zs st 1)))):=nums_back _ (tk_bytes zs _ _ hb)
  simp[ptB,ptx2,nby,hn]
 rw[e]
 exact h2
theorem ptx2_len(zs:List Int)(len:Nat)(st:Option Nat):(ptx2 zs len st).1.length=2:=rfl
theorem Stp.txs(t:Nat)(zs:List Int)(hb:∀z∈zs,0<=z/\z<=255)(st:Option Nat):Stp zs st (ptxs (fs t) zs zs.length st).2 (ptB ((ptxs (fs t) zs zs.length st).1.length - (fs t).tl) (ptxs (fs t) zs zs.length st).1):=by
 rcases fs_cases t with ⟨ht,e⟩|⟨ht,e⟩|⟨ht,e⟩|⟨ht,e⟩|⟨ht,e⟩|⟨ht,e⟩|⟨ht,e⟩|⟨ht,e⟩|⟨ht,e⟩
 all_goals rw[e];unfold ptxs
 all_goals first
  |exact Stp.two zs hb st
  |(simp only[if_true];rw[ptB_all];exact Stp.texts zs hb _ st)
  |exact Stp.nil zs st
theorem fs_w(t:Nat):(fs t).nu=0∨(fs t).wd=1∨(fs t).wd=2∨(fs t).wd=4:=by
 rcases fs_cases t with ⟨_,e⟩|⟨_,e⟩|⟨_,e⟩|⟨_,e⟩|⟨_,e⟩|⟨_,e⟩|⟨_,e⟩|⟨_,e⟩|⟨_,e⟩ <;> rw[e] <;> simp
theorem pread_sound(t:Nat)(zs:List Int)(hb:∀z∈zs,0<=z/\z<=255)(hp:(pread (fs t) zs zs.length).2=some zs.length)(hck:checkF t (pread (fs t) zs zs.length).1=0):writeF t (pread (fs t) zs zs.length).1=zs:=by
 obtain ⟨_,hfit,_,_⟩:=check_parts hck
 have hw:=(wr_eq t _ hfit).2.2.2.2.2
 rw[<- hw]
 have hu:Stp zs (pnms zs zs.length (some 0) (fs t).nf).2 (pnus zs zs.length (pnms zs zs.length (some 0) (fs t).nf).2 (fs t).wd (fs t).nu).2 ((pnus zs zs.length (pnms zs zs.length (some 0) (fs t).nf).2 (fs t).wd (fs t).nu).1.flatMap fun n=>numB n (fs t).wd):=by
  rcases fs_w t with h|h
  ·rw[h];exact Stp.nil _ _
  ·exact Stp.us zs hb _ _ h _
 have h123:=(((Stp.nms zs hb (some 0) (fs t).nf).trans hu).trans (Stp.nms zs hb _ ((fs t).nn - (fs t).nf))).trans (Stp.txs t zs hb _)
 have hr:Stp zs (some 0) (pread (fs t) zs zs.length).2 (((pnms zs zs.length (some 0) (fs t).nf).1.flatMap nmB++(pnus zs zs.length (pnms zs zs.length (some 0) (fs t).nf).2 (fs t).wd (fs t).nu).1.flatMap (fun n=>numB n (fs t).wd)++(pnms zs zs.length (pnus zs zs.length (pnms zs zs.length (some 0) (fs t).nf).2 (fs t).wd (fs t).nu).2 ((fs t).nn - (fs t).nf)).1.flatMap nmB++ptB ((ptxs (fs t) zs zs.length (pnms zs zs.length (pnus zs zs.length (pnms zs zs.length (some 0) (fs t).nf).2 (fs t).wd (fs t).nu).2 ((fs t).nn - (fs t).nf)).2).1.length - (fs t).tl) (ptxs (fs t) zs zs.length (pnms zs zs.length (pnus zs zs.length (pnms zs zs.length (some 0) (fs t).nf).2 (fs t).wd (fs t).nu).2 ((fs t).nn - (fs t).nf)).2).1)++(pread (fs t) zs zs.length).1.raw):=by
  refine h123.trans ?_
  unfold pread
  simp only
  split
  ·exact Stp.nil _ _
  ·exact Stp.take _ _ _
 obtain ⟨p,e,h⟩:=hr _ hp
 cases e
 obtain ⟨_,h2⟩:=h (Nat.zero_le _)
 have hk:(pnms zs zs.length (some 0) (fs t).nf).1.length=(fs t).nf:=pnms_len _ _ _ _
 have e1:(pread (fs t) zs zs.length).1.ns.take (fs t).nf=(pnms zs zs.length (some 0) (fs t).nf).1:=by
  show ((pnms zs zs.length (some 0) (fs t).nf).1++_).take (fs t).nf=_
  rw[List.take_left' hk]
 have e2:(pread (fs t) zs zs.length).1.ns.drop (fs t).nf=(pnms zs zs.length (pnus zs zs.length (pnms zs zs.length (some 0) (fs t).nf).2 (fs t).wd (fs t).nu).2 ((fs t).nn - (fs t).nf)).1:=by
  show ((pnms zs zs.length (some 0) (fs t).nf).1++_).drop (fs t).nf=_
  rw[List.drop_left' hk]
 rw[e1,e2]
 rw[List.drop_zero,List.drop_length,List.append_nil] at h2
 exact h2.symm
theorem pnm1_at{zs:List Int}{p:Nat}{n:List ByteArray}{R:List Int}(h:zs.drop p=nmB n++R)(hp:p<=zs.length)(hk:nck n=0):pnm1 zs zs.length (some p)=(n,some (p+nsz n)):=by
 obtain ⟨e1,e2,_,e4⟩:=dropd h hp
 have hg:=gName_at (zs.take p) R n hk
 rw[<- e1,e2] at hg
 obtain ⟨g1,_,_,g4⟩:=gName_le hg
 simp only[pnm1,pos,g4,jm,if_true]
 rw[if_pos ⟨by omega,by omega⟩]
 simp
 omega
theorem pnms_at{zs:List Int}{p:Nat}{ns:List (List ByteArray)}{R:List Int}(h:zs.drop p=ns.flatMap nmB++R)(hp:p<=zs.length)(hk:∀n∈ns,nck n=0):∀k,k<=ns.length->pnms zs zs.length (some p) k=(ns.take k,some (p+((ns.take k).flatMap nmB).length))
 |0,_=>by simp[pnms]
 |k+1,hk1=>by
  have ih:=pnms_at h hp hk k (by omega)
  have hd:zs.drop p=(ns.take k).flatMap nmB++((ns.drop k).flatMap nmB++R):=by
   rw[h,<- List.append_assoc,<- List.flatMap_append,List.take_append_drop]
  obtain ⟨_,_,e3,e4⟩:=dropd hd hp
  have hdk:ns.drop k=ns[k]::ns.drop (k+1):=List.drop_eq_getElem_cons (by omega)
  rw[hdk,List.flatMap_cons,List.append_assoc] at e3
  have h1:=pnm1_at e3 e4 (hk _ (List.getElem_mem _))
  simp only[pnms,ih,h1]
  rw[List.take_succ_eq_append_getElem (by omega),List.flatMap_append]
  simp[nmB_len];omega
theorem pnus_at{zs:List Int}{p wd:Nat}{us:List Nat}{R:List Int}(h:zs.drop p=us.flatMap (fun n=>numB n wd)++R)(hp:p<=zs.length)(hw:us=[]∨wd=1∨wd=2∨wd=4)(hu:∀u∈us,u<=most wd):∀k,k<=us.length->pnus zs zs.length (some p) wd k=(us.take k,some (p+((us.take k).flatMap (fun n=>numB n wd)).length))
 |0,_=>by simp[pnus]
 |k+1,hk1=>by
  have ih:=pnus_at h hp hw hu k (by omega)
  have hw':wd=1∨wd=2∨wd=4:=hw.resolve_left (fun e=>by rw[e] at hk1;simp at hk1)
  have hd:zs.drop p=(us.take k).flatMap (fun n=>numB n wd)++((us.drop k).flatMap (fun n=>numB n wd)++R):=by
   rw[h,<- List.append_assoc,<- List.flatMap_append,List.take_append_drop]
  obtain ⟨_,_,e3,e4⟩:=dropd hd hp
  have hdk:us.drop k=us[k]::us.drop (k+1):=List.drop_eq_getElem_cons (by omega)
  rw[hdk,List.flatMap_cons,List.append_assoc] at e3
  have hl:=numB_len us[k] wd hw'
  obtain ⟨_,_,e5,e6⟩:=dropd e3 e4
  have hm:=hu us[k] (List.getElem_mem _)
  have htk:tk zs (some (p+((us.take k).flatMap (fun n=>numB n wd)).length)) (wd:Int)=numB us[k] wd:=by
   simp only[tk]
   rw[if_pos ⟨by omega,by omega⟩,e3,Int.toNat_natCast,List.take_append_of_le_length (by omega),List.take_of_length_le (by omega)]
  have h1:pnu zs (some (p+((us.take k).flatMap (fun n=>numB n wd)).length)) wd=us[k]:=by
   unfold pnu
   rw[htk]
   refine val_numB _ _ ?_
   rcases hw' with rfl|rfl|rfl
   ·exact .inl ⟨rfl,by simpa [most] using hm⟩
   ·exact .inr (.inl ⟨rfl,by simpa [most] using hm⟩)
   ·exact .inr (.inr ⟨rfl,by simpa [most] using hm⟩)
  have h2:mv zs.length (some (p+((us.take k).flatMap (fun n=>numB n wd)).length)) (wd:Int)=some (p+((us.take k).flatMap (fun n=>numB n wd)).length+wd):=by
   simp only[mv]
   rw[if_pos ⟨by omega,by omega⟩]
   simp
  simp only[pnus,ih,h1,h2]
  rw[List.take_succ_eq_append_getElem (by omega),List.flatMap_append]
  simp[hl];omega
theorem text_at{zs:List Int}{p:Nat}{s:ByteArray}{R:List Int}(h:zs.drop p=((s.size:Int)::nums s)++R)(hp:p<=zs.length):val (tk zs (some p) 1)=(s.size:Int)/\mv zs.length (some p) 1=some (p+1)/\tk zs (some (p+1)) (s.size:Int)=nums s/\mv zs.length (some (p+1)) (s.size:Int)=some (p+1+s.size)/\zs.drop (p+1+s.size)=R/\p+1+s.size<=zs.length:=by
 obtain ⟨_,_,e3,e4⟩:=dropd h hp
 have hn:=nums_len s
 simp only[List.length_cons] at e3 e4
 have e1:zs.drop (p+1)=nums s++R:=by rw[<- List.drop_drop,h];rfl
 refine ⟨?_,?_,?_,?_,?_,by omega⟩
 ·simp only[tk]
  rw[if_pos ⟨by omega,by omega⟩,h]
  simp[val]
 ·simp only[mv]
  rw[if_pos ⟨by omega,by omega⟩]
  simp
 ·simp only[tk]
  rw[if_pos ⟨by omega,by omega⟩,e1,Int.toNat_natCast,List.take_append_of_le_length (by omega),List.take_of_length_le (by omega)]
 ·simp only[mv]
  rw[if_pos ⟨by omega,by omega⟩]
  simp
 ·rw[<- e3];congr 1;omega
theorem ptxF_at{zs:List Int}:∀(l:List ByteArray) (p k:Nat),zs.drop p=nby l->p<=zs.length->l.length<k->ptxF zs zs.length k (some p)=(l,some zs.length)
 |[],p,k,h,hp,hk=>by
  have:zs.length - p=0:=by have:=congrArg List.length h;simpa [nby] using this
  rw[ptxF_end zs zs.length k (some p) (by simp[lft];omega)]
  have:p=zs.length:=by omega
  rw[this]
 |s::r,p,0,h,hp,hk=>by simp at hk
 |s::r,p,k+1,h,hp,hk=>by
  rw[nby_cons] at h
  obtain ⟨e1,e2,e3,e4,e5,e6⟩:=text_at h hp
  have ih:=ptxF_at r (p+1+s.size) k e5 e6 (by simp at hk;omega)
  unfold ptxF
  rw[if_pos (by simp[lft];omega),e1,e2,e4,e3,ih]
  have:lb (nums s)=s:=txt_back s
  rw[this]
theorem rest_at{zs:List Int}{P:Nat}{X:List Int}(hP:zs.drop P=X)(hPl:P<=zs.length):tk zs (some P) (lft zs.length (some P))=X/\mv zs.length (some P) (lft zs.length (some P))=some zs.length:=by
 have hlP:=congrArg List.length hP
 rw[List.length_drop] at hlP
 have hf:lft zs.length (some P)=(zs.length:Int) - (P:Int):=rfl
 rw[hf]
 constructor
 ·simp only[tk]
  rw[if_pos ⟨by omega,by omega⟩,hP,List.take_of_length_le (by omega)]
 ·simp only[mv]
  rw[if_pos ⟨by omega,by omega⟩]
  congr 1;omega
theorem ptx2_at{zs:List Int}{p:Nat}{s r:ByteArray}(h:zs.drop p=((s.size:Int)::nums s)++nums r)(hp:p<=zs.length):ptx2 zs zs.length (some p)=([s,r],some zs.length):=by
 obtain ⟨e1,e2,e3,e4,e5,e6⟩:=text_at h hp
 obtain ⟨h1,h2⟩:=rest_at e5 e6
 have hs:lb (nums s)=s:=txt_back s
 have hr:lb (nums r)=r:=txt_back r
 unfold ptx2
 simp only[e1,e2,e3,e4,h1,h2,hs,hr]
theorem nby_le(l:List ByteArray):l.length<=(nby l).length:=by
 have:=nby_len l
 have:=nsz_len l
 omega
theorem ptB_two(a b:ByteArray):ptB 1 [a,b]=((a.size:Int)::nums a)++nums b:=by simp[ptB,nby]
theorem pread_at(t:Nat)(d:Dat)(zs:List Int)(hck:checkF t d=0)(hw:writeF t d=zs):pread (fs t) zs zs.length=(d,some zs.length):=by
 obtain ⟨hm,hfit,hns,hsz⟩:=check_parts hck
 obtain ⟨_,w1,w2,w3,w4,w5⟩:=wr_eq t d hfit
 rw[hw] at w5
 have hfe:=fit_eq t d
 rw[hfit] at hfe
 simp only[Bool.and_eq_true] at hfe
 have hcnt:=hfe.1
 unfold cntB at hcnt
 simp only[Bool.and_eq_true] at hcnt
 obtain ⟨⟨⟨c1,c2⟩,c3⟩,c4⟩:=hcnt
 rw[fitB_ge _ _ (by omega)] at c1 c2
 have c1':d.ns.length=(fs t).nn:=by have:=of_decide_eq_true c1;omega
 have c2':d.us.length=(fs t).nu:=by have:=of_decide_eq_true c2;omega
 have hun:=((fit_iff t d).1 hfit).un
 rw[<- w3] at hun
 have hww:d.us=[]∨(fs t).wd=1∨(fs t).wd=2∨(fs t).wd=4:=by
  rcases fs_w t with h|h
  ·exact .inl (len0 (by omega))
  ·exact .inr h
 have z1:zs.drop 0=(d.ns.take (fs t).nf).flatMap nmB++(d.us.flatMap (fun n=>numB n (fs t).wd)++((d.ns.drop (fs t).nf).flatMap nmB++(ptB (d.ts.length - (fs t).tl) d.ts++d.raw))):=by
  rw[List.drop_zero,<- w5];simp
 have q1:=pnms_at z1 (Nat.zero_le _) (fun n hn=>hns n (List.mem_of_mem_take hn)) (fs t).nf (by simp;omega)
 rw[List.take_take,Nat.min_self] at q1
 obtain ⟨_,_,z2,l2⟩:=dropd z1 (Nat.zero_le _)
 have q2:=pnus_at z2 l2 hww hun (fs t).nu (by omega)
 have ht1:d.us.take (fs t).nu=d.us:=List.take_of_length_le (by omega)
 rw[ht1] at q2
 obtain ⟨_,_,z3,l3⟩:=dropd z2 l2
 have q3:=pnms_at z3 l3 (fun n hn=>hns n (List.mem_of_mem_drop hn)) ((fs t).nn - (fs t).nf) (by simp;omega)
 have ht2:(d.ns.drop (fs t).nf).take ((fs t).nn - (fs t).nf)=d.ns.drop (fs t).nf:=List.take_of_length_le (by simp;omega)
 rw[ht2] at q3
 obtain ⟨_,_,z4,l4⟩:=dropd z3 l3
 have q4:ptxs (fs t) zs zs.length (some (0+((d.ns.take (fs t).nf).flatMap nmB).length+(d.us.flatMap (fun n=>numB n (fs t).wd)).length+((d.ns.drop (fs t).nf).flatMap nmB).length))=(d.ts,some (0+((d.ns.take (fs t).nf).flatMap nmB).length+(d.us.flatMap (fun n=>numB n (fs t).wd)).length+((d.ns.drop (fs t).nf).flatMap nmB).length+(ptB (d.ts.length - (fs t).tl) d.ts).length))/\((fs t).nr=0->d.raw=[]):=by
  clear q1 q2 q3 z1 z2 z3 l2 l3
  generalize 0+((d.ns.take (fs t).nf).flatMap nmB).length+(d.us.flatMap (fun n=>numB n (fs t).wd)).length+((d.ns.drop (fs t).nf).flatMap nmB).length=p at*
  have hlz:(zs.drop p).length=zs.length - p:=by simp
  rcases fs_cases t with ⟨ht,e⟩|⟨ht,e⟩|⟨ht,e⟩|⟨ht,e⟩|⟨ht,e⟩|⟨ht,e⟩|⟨ht,e⟩|⟨ht,e⟩|⟨ht,e⟩
  all_goals rw[e] at c3 c4 z4 ⊢
  all_goals simp only at z4 c3 c4 ⊢
  case inr.inr.inr.inr.inr.inr.inl=>
   have hraw:d.raw=[]:=nil_of (by rw[fitB_ge _ _ (by omega)] at c4;simpa using c4)
   rw[hraw,ptB_all,List.append_nil] at z4
   have:=nby_le d.ts
   refine ⟨?_,fun _=>hraw⟩
   unfold ptxs
   rw[if_pos rfl,ptxF_at d.ts p _ z4 l4 (by rw[z4] at hlz;omega),ptB_all]
   rw[z4] at hlz
   congr 2;omega
  case inr.inr.inr.inr.inr.inr.inr.inl=>
   have hraw:d.raw=[]:=nil_of (by rw[fitB_ge _ _ (by omega)] at c4;simpa using c4)
   have h2:d.ts.length=2:=by rw[fitB_ge _ _ (by omega)] at c3;simp at c3;omega
   obtain ⟨a,b,hab⟩:=len2 h2
   refine ⟨?_,fun _=>hraw⟩
   rw[hab,hraw,List.append_nil] at z4
   have z5:zs.drop p=ptB 1 [a,b]:=z4
   rw[ptB_two] at z5
   unfold ptxs
   rw[if_neg (by decide),if_pos rfl,ptx2_at z5 l4,hab]
   rw[z4] at hlz
   congr 2;omega
  all_goals
   have hts:d.ts=[]:=nil_of (by rw[fitB_ge _ _ (by omega)] at c3;simpa using c3)
   refine ⟨?_,?_⟩
   ·rw[hts];unfold ptxs;simp[ptB,nby]
   ·first
     |(intro h;exact absurd h (by decide))
     |(intro _;exact nil_of (by rw[fitB_ge _ _ (by omega)] at c4;simpa using c4))
 obtain ⟨q4,hraw⟩:=q4
 obtain ⟨_,_,z5,l5⟩:=dropd z4 l4
 unfold pread
 simp only[q1,q2,q3,q4]
 have hlz:=congrArg List.length z5
 rw[List.length_drop] at hlz
 have hnn:d.ns.take (fs t).nf++d.ns.drop (fs t).nf=d.ns:=List.take_append_drop _ _
 rw[hnn]
 split
 ·rename_i h
  have hr:=hraw h
  rw[hr] at hlz
  have hP:=Nat.le_antisymm l5 (Nat.le_of_sub_eq_zero hlz)
  rw[hP,<- hr]
 ·obtain ⟨r1,r2⟩:=rest_at z5 l5
  rw[r1,r2]
theorem pread_doc(t:Nat)(zs:List Int)(hb:∀z∈zs,0<=z/\z<=255):(if (pread (fs t) zs zs.length).2=some zs.length/\checkF t (pread (fs t) zs zs.length).1=0 then some (pread (fs t) zs zs.length).1 else none)=dreadF t zs:=by
 refine read_unique ?_ ?_
 ·intro d h
  split at h
  ·rename_i hc
   cases h
   exact ⟨hc.2,pread_sound t zs hb hc.1 hc.2⟩
  ·cases h
 ·intro h d hck hw
  have:=pread_at t d zs hck hw
  rw[this] at h
  simp only at h
  rw[if_pos ⟨trivial,hck⟩] at h
  cases h
theorem FBox.off{w w':World}{b g:Nat}{f:Fs}(h:FBox w b f)(hg:w.grownBy w' (some g))(hne:g≠b):FBox w' b f:=by
 obtain ⟨h0,h1,h2,h3,h4,h5,h6,h7,hl⟩:=h
 have hb:w'.heap[b]?=w.heap[b]?:=hg.block b hl (fun e=>by cases e;omega)
 exact ⟨(World.cell?_of_block hb).trans h0,(World.cell?_of_block hb).trans h1,(World.cell?_of_block hb).trans h2,(World.cell?_of_block hb).trans h3,(World.cell?_of_block hb).trans h4,(World.cell?_of_block hb).trans h5,(World.cell?_of_block hb).trans h6,(World.cell?_of_block hb).trans h7,Nat.lt_of_lt_of_le hl hg.size⟩
theorem RS.rebase{Wb W:World}{g:Nat}{a:Option Addr}{len cap:Nat}{zs:List Int}{st:Option Nat}(h:RS Wb W g a len cap zs st):RS W W g a len cap zs st:=
 ⟨h.rst,World.grownBy.refl _ _,h.rdW,h.hl,h.hc,h.hd,h.off,Nat.lt_of_lt_of_le h.gl h.kp.size,h.hm⟩
theorem RS.back{Wb W W':World}{g:Nat}{a:Option Addr}{len cap:Nat}{zs:List Int}{st st':Option Nat}(h:RS Wb W g a len cap zs st)(h':RS W W' g a len cap zs st'):RS Wb W' g a len cap zs st':=h.to h'.rst h'.kp
theorem UOwn.mono{B B':Nat}{w:World}{s:Sl}{us:List Nat}(h:UOwn B w s us)(hB:B'<=B):UOwn B' w s us:=by
 obtain ⟨xs,h1,h2⟩:=h
 exact ⟨xs,h1.mono hB,h2⟩
theorem OwnN.mono{B B':Nat}{w:World}{v:Value}{nss:List (List ByteArray)}(h:OwnN B w v nss)(hB:B'<=B):OwnN B' w v nss:=by
 obtain ⟨xs,h1,h2⟩:=h
 refine ⟨xs,h1.mono hB,fun i hi=>?_⟩
 obtain ⟨s,e1,e2⟩:=h2 i hi
 exact ⟨s,e1,e2.mono hB⟩
theorem BOwn.mono{B B':Nat}{w:World}{s:Sl}{zs:List Int}(h:BOwn B w s zs)(hB:B'<=B):BOwn B' w s zs:=by
 obtain ⟨xs,h1,h2⟩:=h
 exact ⟨xs,own_mono h1 hB,h2⟩
theorem UOwn.offTy{B:Nat}{w w':World}{s:Sl}{us:List Nat}(h:UOwn B w s us)(hg:∃o,w.grownBy w' o/\∀j,o=some j->B<=j/\∃zs,BlkV w j 23 zs):UOwn B w' s us:=by
 obtain ⟨o,h1,h2⟩:=hg
 refine h.keepTy fun j _ hj ⟨zs,hz⟩=>h1.block j hj (fun e=>?_)
 obtain ⟨_,zs',hz'⟩:=h2 j e.symm
 exact absurd (blk_ty hz hz') (by decide)
theorem Own1.offTy{B:Nat}{w w':World}{s:Sl}{us:List ByteArray}(h:Own1 B w s us)(hg:∃o,w.grownBy w' o/\∀j,o=some j->B<=j/\∃zs,BlkV w j 23 zs):Own1 B w' s us:=by
 obtain ⟨o,h1,h2⟩:=hg
 refine h.keep fun j _ hj ⟨zs,hz⟩=>h1.block j hj (fun e=>?_)
 obtain ⟨_,zs',hz'⟩:=h2 j e.symm
 exact absurd (blk_ty hz hz') (by decide)
theorem RS.offTy{Wb W W':World}{g:Nat}{a:Option Addr}{len cap:Nat}{zs:List Int}{st:Option Nat}(h:RS Wb W g a len cap zs st)(hg:∃o,W.grownBy W' o/\∀j,o=some j->Wb.heap.size<=j/\∃zs,BlkV W j 23 zs):RS Wb W' g a len cap zs st:=by
 obtain ⟨o,h1,h2⟩:=hg
 exact h.app h1 (fun j hj=>(h2 j hj).1)
theorem DBlk.offTy{W W':World}{D B:Nat}{x:DA}(h:DBlk W D x)(hg:∃o,W.grownBy W' o/\∀j,o=some j->B<=j/\∃zs,BlkV W j 23 zs):DBlk W' D x:=by
 obtain ⟨o,h1,h2⟩:=hg
 refine h.same (h1.block D h.lt (fun e=>?_))
 obtain ⟨_,zs',hz'⟩:=h2 D e.symm
 have hh:W.heap[D]?=_:=h
 have hh':W.heap[D]?=some (.cells zs'.toArray 23 (0,0)):=hz'
 rw[hh] at hh'
 injection hh' with hh'
 injection hh' with _ hh'
 exact absurd hh' (by decide)
theorem DBlk.call{W W':World}{D g:Nat}{x:DA}(h:DBlk W D x)(hg:W.grownBy W' (some g))(hne:g<D):DBlk W' D x:=h.same (hg.block D h.lt (fun e=>by cases e;omega))
theorem dblk_new(W:World):DBlk (W.alloc (.cells #[.slice none 0 0,.slice none 0 0,.slice none 0 0,.slice none 0 0] 48)) W.heap.size nilDA:=heap_alloc_new _ _
theorem new_both(a:Option Addr)(len cap:Nat)(zs:List Int)(w:World)(hr:Rd w a zs)(hl:zs.length=len)(hm:len<=65535)(hn:a=none->cap=0) :
  Calls Tryz.prog 179 #[.slice a len cap] w fun e w'=>∃gr a' ca,e=.returned (.pointer (some ⟨gr,0,none⟩))/\Hid (w.heap.size<=gr/\RS w' w' gr a' len ca zs (some 0)/\Below w.heap.size w w'):=by
 subst hl
 cases a with
 |none=>
  have e0:=hn rfl
  have ez:zs=[]:=rd_none hr
  subst e0
  subst ez
  refine (new_none w).mono ?_
  rintro e w' ⟨gr,a',ca,rfl,H⟩
  obtain ⟨q1,q2,q3,q4,q5,q6,q7,q8⟩:=H.out
  exact ⟨gr,a',ca,rfl,q1,⟨⟨q2,Nat.zero_le _⟩,World.grownBy.refl _ _,q3,rfl,q4,q5,q6,q2.lt,hm⟩,q8⟩
 |some x=>
  refine (new_any x cap zs w hr (by omega)).mono ?_
  rintro e w' ⟨gr,a',ca,rfl,H⟩
  obtain ⟨q1,q2,q3,q4,q5,q6,q7,q8⟩:=H.out
  exact ⟨gr,a',ca,rfl,q1,⟨⟨q2,Nat.zero_le _⟩,World.grownBy.refl _ _,q3,rfl,q4,q5,q6,q2.lt,hm⟩,q8⟩
theorem OwnN.keepTy{B:Nat}{w w':World}{v:Value}{nss:List (List ByteArray)}(h:OwnN B w v nss)(hb:∀j,B<=j->j<w.heap.size->(∃t zs,BlkV w j t zs/\(t=23∨t=9))->w'.heap[j]?=w.heap[j]?):OwnN B w' v nss:=by
 obtain ⟨xs,h1,h2⟩:=h
 refine ⟨xs,?_,fun i hi=>?_⟩
 ·rcases h1 with h1|⟨g,e,hg,hblk,hn⟩
  ·exact .inl h1
  ·exact .inr ⟨g,e,hg,hblk.same (hb g hg hblk.lt ⟨_,_,hblk,.inl rfl⟩),hn⟩
 ·obtain ⟨s,e1,e2⟩:=h2 i hi
  exact ⟨s,e1,e2.keep (fun j h1 h2 ⟨zs,hz⟩=>hb j h1 h2 ⟨_,zs,hz,.inr rfl⟩)⟩
theorem DBlk.ne{W:World}{D j:Nat}{x:DA}{t:TypeId}{zs:List Value}(h:DBlk W D x)(hz:BlkV W j t zs)(ht:t≠48):j≠D:=by
 rintro rfl
 have hh:W.heap[j]?=_:=h
 have hh':W.heap[j]?=some (.cells zs.toArray t (0,0)):=hz
 rw[hh] at hh'
 injection hh' with hh'
 injection hh' with _ hh'
 exact ht hh'.symm
abbrev set4(W:World)(D:Nat)(x:DA):World:=(((W.setCell ⟨D,0,none⟩ (.slice x.p1.a x.p1.n x.p1.c)).setCell ⟨D,1,none⟩ (.slice x.p2.a x.p2.n x.p2.c)).setCell ⟨D,2,none⟩ (.slice x.p3.a x.p3.n x.p3.c)).setCell ⟨D,3,none⟩ (.slice x.p4.a x.p4.n x.p4.c)
theorem set4_blk{W:World}{D:Nat}{y:DA}(h:DBlk W D y)(x:DA):DBlk (set4 W D x) D x:=(heap_set (heap_set (heap_set (heap_set h 0 _) 1 _) 2 _) 3 _).trans (by simp)
theorem set4_off(W:World)(D:Nat)(x:DA)(j:Nat)(hj:j≠D):(set4 W D x).heap[j]?=W.heap[j]?:=
 (((Below.heap_setCell _ _ _ j hj).trans (Below.heap_setCell _ _ _ j hj)).trans (Below.heap_setCell _ _ _ j hj)).trans (Below.heap_setCell _ _ _ j hj)
theorem set4_size(W:World)(D:Nat)(x:DA):(set4 W D x).heap.size=W.heap.size:=by simp[set4,World.setCell]
theorem set4_grown(W:World)(D:Nat)(x:DA):W.grownBy (set4 W D x) (some D):=⟨rfl,rfl,rfl,by rw[set4_size];exact Nat.le_refl _,fun j _ hne=>set4_off W D x j (fun e=>hne (by rw[e]))⟩
structure CutS(Wb W:World)(g:Nat)(a:Option Addr)(len cap:Nat)(zs:List Int)(st:Option Nat)(D:Nat)(x:DA)(d:Dat):Prop where
 rs:RS Wb W g a len cap zs st
 own:DOwn Wb.heap.size W x d
 blk:DBlk W D x
 low:Wb.heap.size<=D
theorem bown_nil(B:Nat)(w:World):BOwn B w ⟨none,0,0⟩ []:=⟨[],.inl ⟨rfl,rfl,rfl⟩,rfl⟩
theorem cut_new{Wb W:World}{g:Nat}{a:Option Addr}{len cap:Nat}{zs:List Int}{st:Option Nat}{tn su sx:Sl}{L:List (List ByteArray)}{us:List Nat}{ts:List ByteArray}
  (h:RS Wb W g a len cap zs st/\OwnN Wb.heap.size W (.slice tn.a tn.n tn.c) L/\UOwn Wb.heap.size W su us/\Own1 Wb.heap.size W sx ts) :
  CutS Wb (W.alloc (.cells #[.slice tn.a tn.n tn.c,.slice su.a su.n su.c,.slice sx.a sx.n sx.c,.slice none 0 0] 48)) g a len cap zs st W.heap.size ⟨tn,su,sx,⟨none,0,0⟩⟩ ⟨L,us,ts,[]⟩:=by
 obtain ⟨h1,h2,h3,h4⟩:=h
 have hb:=new_below W (.cells #[.slice tn.a tn.n tn.c,.slice su.a su.n su.c,.slice sx.a sx.n sx.c,.slice none 0 0] 48)
 exact ⟨h1.below hb,⟨h2.stays hb,h3.stays hb,h4.stays hb,bown_nil _ _⟩,heap_alloc_new _ _,h1.kp.size⟩
theorem cut_set{Wb W:World}{g:Nat}{a:Option Addr}{len cap:Nat}{zs:List Int}{st:Option Nat}{tn su sx:Sl}{L:List (List ByteArray)}{us:List Nat}{ts:List ByteArray}{D:Nat}{y:DA}
  (h:RS Wb W g a len cap zs st/\OwnN Wb.heap.size W (.slice tn.a tn.n tn.c) L/\UOwn Wb.heap.size W su us/\Own1 Wb.heap.size W sx ts) (hD:DBlk W D y) (hl:Wb.heap.size<=D) :
  CutS Wb ((((W.setCell ⟨D,0,none⟩ (.slice tn.a tn.n tn.c)).setCell ⟨D,1,none⟩ (.slice su.a su.n su.c)).setCell ⟨D,2,none⟩ (.slice sx.a sx.n sx.c)).setCell ⟨D,3,none⟩ (.slice none 0 0)) g a len cap zs st D ⟨tn,su,sx,⟨none,0,0⟩⟩ ⟨L,us,ts,[]⟩:=by
 obtain ⟨h1,h2,h3,h4⟩:=h
 have e:=set4_off W D ⟨tn,su,sx,⟨none,0,0⟩⟩
 have hg:=set4_grown W D ⟨tn,su,sx,⟨none,0,0⟩⟩
 refine ⟨h1.app hg (by rintro j ⟨⟩;exact hl),⟨h2.keepTy ?_,h3.keepTy ?_,h4.keep ?_,bown_nil _ _⟩,set4_blk hD ⟨tn,su,sx,⟨none,0,0⟩⟩,hl⟩
 ·rintro j _ _ ⟨t,zs,hz,ht⟩
  exact e j (hD.ne hz (by rcases ht with rfl|rfl <;> decide))
 ·rintro j _ _ ⟨zs,hz⟩
  exact e j (hD.ne hz (by decide))
 ·rintro j _ _ ⟨zs,hz⟩
  exact e j (hD.ne hz (by decide))
theorem CutS.rd{Wb W W':World}{g:Nat}{a:Option Addr}{len cap:Nat}{zs:List Int}{st st':Option Nat}{D:Nat}{x:DA}{d:Dat}(h:CutS Wb W g a len cap zs st D x d)(h1:RS Wb W' g a len cap zs st')(h2:W.grownBy W' (some g)):CutS Wb W' g a len cap zs st' D x d:=
 ⟨h1,h.own.keep (fun j hj hl=>h2.block j hl (fun e=>by have:=h.rs.gl;have:=Option.some.inj e;omega)),h.blk.call h2 (Nat.lt_of_lt_of_le h.rs.gl h.low),h.low⟩
theorem BOwn.keepD{B:Nat}{w w':World}{s:Sl}{zs:List Int}{D:Nat}{x:DA}(h:BOwn B w s zs)(hD:DBlk w D x)(hb:∀j,j≠D->w'.heap[j]?=w.heap[j]?):BOwn B w' s zs:=by
 obtain ⟨ys,h1,h2⟩:=h
 refine ⟨ys,?_,h2⟩
 rcases h1 with h1|⟨g,e1,e2,e3,e4⟩
 ·exact .inl h1
 ·refine .inr ⟨g,e1,e2,e3.same (hb g ?_),e4⟩
  rintro rfl
  have hh:w.heap[g]?=_:=hD
  have hh':=e3.1
  rw[hh] at hh'
  injection hh' with hh'
  injection hh' with _ hh'
  exact absurd hh' (by decide)
theorem CutS.raw{Wb W:World}{g:Nat}{a:Option Addr}{len cap:Nat}{zs:List Int}{st:Option Nat}{D:Nat}{x:DA}{d:Dat}(h:CutS Wb W g a len cap zs st D x d){s:Sl}{ys:List Int}(hs:BOwn Wb.heap.size W s ys):CutS Wb (W.setCell ⟨D,3,none⟩ (.slice s.a s.n s.c)) g a len cap zs st D ⟨x.p1,x.p2,x.p3,s⟩ ⟨d.ns,d.us,d.ts,ys⟩:=by
 have e:∀j,j≠D->(W.setCell ⟨D,3,none⟩ (.slice s.a s.n s.c)).heap[j]?=W.heap[j]?:=fun j hj=>Below.heap_setCell _ _ _ j hj
 have hg:W.grownBy (W.setCell ⟨D,3,none⟩ (.slice s.a s.n s.c)) (some D):=⟨rfl,rfl,rfl,by simp[World.setCell],fun j _ hne=>e j (fun e=>hne (by rw[e]))⟩
 obtain ⟨h1,⟨h2,h3,h4,_⟩,hD,hl⟩:=h
 refine ⟨h1.app hg (by rintro j ⟨⟩;exact hl),⟨h2.keepTy ?_,h3.keepTy ?_,h4.keep ?_,hs.keepD hD e⟩,hD.set3 s,hl⟩
 ·rintro j _ _ ⟨t,zs,hz,ht⟩
  exact e j (hD.ne hz (by rcases ht with rfl|rfl <;> decide))
 ·rintro j _ _ ⟨zs,hz⟩
  exact e j (hD.ne hz (by decide))
 ·rintro j _ _ ⟨zs,hz⟩
  exact e j (hD.ne hz (by decide))
theorem DOwn.mono{B B':Nat}{w:World}{x:DA}{d:Dat}(h:DOwn B w x d)(hB:B'<=B):DOwn B' w x d:=⟨h.1.mono hB,h.2.1.mono hB,h.2.2.1.mono hB,h.2.2.2.mono hB⟩
theorem CutS.ret{w Wb W:World}{g:Nat}{a:Option Addr}{len cap:Nat}{zs:List Int}{st:Option Nat}{D R:Nat}{x y:DA}{d:Dat}(h:CutS Wb W g a len cap zs st D x d)(hR:DBlk W R y)(hRb:R<Wb.heap.size)(hw:w.heap.size<=R)(hb:Below w.heap.size w W) :
  DBlk (set4 W R x) R x/\DOwn w.heap.size (set4 W R x) x d/\Below w.heap.size w (set4 W R x):=by
 refine ⟨set4_blk hR x,(h.own.keep (fun j hj _=>set4_off W R x j (by omega))).mono (by omega),?_⟩
 exact (((hb.setCell (p:=⟨R,0,none⟩) hw _).setCell (p:=⟨R,1,none⟩) hw _).setCell (p:=⟨R,2,none⟩) hw _).setCell (p:=⟨R,3,none⟩) hw _
theorem pread_fields(t:Nat)(a0:Option Addr)(len c0:Nat)(zs:List Int)(w:World)(hr:Rd w a0 zs)(hl:zs.length=len)(hm:len<=65535)(hc:len<=c0/\c0<=9223372036854775807)(hnil:a0=none->c0=0) :
  Calls Tryz.prog 171 #[.agg #[.int .i64 (fs t).nn,.int .i64 (fs t).nf,.int .i64 (fs t).nu,.int .i64 (fs t).wd,.int .i64 (fs t).nt,.int .i64 (fs t).tg,.int .i64 (fs t).tl,.int .i64 (fs t).nr],.slice a0 len c0] w fun e w'=>∃x:DA,e=.returned (.tuple #[.agg #[.slice x.p1.a x.p1.n x.p1.c,.slice x.p2.a x.p2.n x.p2.c,.slice x.p3.a x.p3.n x.p3.c,.slice x.p4.a x.p4.n x.p4.c],.bool (decide ((pread (fs t) zs len).2=some len))])/\Hid (DOwn w.heap.size w' x (pread (fs t) zs len).1/\Below w.heap.size w w'):=by
 have hb1:Below w.heap.size w (w.alloc (.cells #[.int .i64 (fs t).nn,.int .i64 (fs t).nf,.int .i64 (fs t).nu,.int .i64 (fs t).wd,.int .i64 (fs t).nt,.int .i64 (fs t).tg,.int .i64 (fs t).tl,.int .i64 (fs t).nr] 201)):=(Below.refl _ _).alloc (Nat.le_refl _) _
 have hsz1:(w.alloc (.cells #[.int .i64 (fs t).nn,.int .i64 (fs t).nf,.int .i64 (fs t).nu,.int .i64 (fs t).wd,.int .i64 (fs t).nt,.int .i64 (fs t).tg,.int .i64 (fs t).tl,.int .i64 (fs t).nr] 201)).heap.size=w.heap.size+1:=by simp
 have hX1:=FBox.new w (fs t)
 have hb2:Below (w.alloc (.cells #[.int .i64 (fs t).nn,.int .i64 (fs t).nf,.int .i64 (fs t).nu,.int .i64 (fs t).wd,.int .i64 (fs t).nt,.int .i64 (fs t).tg,.int .i64 (fs t).tl,.int .i64 (fs t).nr] 201)).heap.size (w.alloc (.cells #[.int .i64 (fs t).nn,.int .i64 (fs t).nf,.int .i64 (fs t).nu,.int .i64 (fs t).wd,.int .i64 (fs t).nt,.int .i64 (fs t).tg,.int .i64 (fs t).tl,.int .i64 (fs t).nr] 201)) ((w.alloc (.cells #[.int .i64 (fs t).nn,.int .i64 (fs t).nf,.int .i64 (fs t).nu,.int .i64 (fs t).wd,.int .i64 (fs t).nt,.int .i64 (fs t).tg,.int .i64 (fs t).tl,.int .i64 (fs t).nr] 201)).alloc (.cells #[.slice none 0 0,.slice none 0 0,.slice none 0 0,.slice none 0 0] 48)):=(Below.refl _ _).alloc (Nat.le_refl _) _
 have hD1:DBlk ((w.alloc (.cells #[.int .i64 (fs t).nn,.int .i64 (fs t).nf,.int .i64 (fs t).nu,.int .i64 (fs t).wd,.int .i64 (fs t).nt,.int .i64 (fs t).tg,.int .i64 (fs t).tl,.int .i64 (fs t).nr] 201)).alloc (.cells #[.slice none 0 0,.slice none 0 0,.slice none 0 0,.slice none 0 0] 48)) (w.heap.size+1) nilDA:=by
  have:=heap_alloc_new (w.alloc (.cells #[.int .i64 (fs t).nn,.int .i64 (fs t).nf,.int .i64 (fs t).nu,.int .i64 (fs t).wd,.int .i64 (fs t).nt,.int .i64 (fs t).tg,.int .i64 (fs t).tl,.int .i64 (fs t).nr] 201)) (.cells #[.slice none 0 0,.slice none 0 0,.slice none 0 0,.slice none 0 0] 48)
  rw[hsz1] at this
  exact this
 have H:Hid (FBox ((w.alloc (.cells #[.int .i64 (fs t).nn,.int .i64 (fs t).nf,.int .i64 (fs t).nu,.int .i64 (fs t).wd,.int .i64 (fs t).nt,.int .i64 (fs t).tg,.int .i64 (fs t).tl,.int .i64 (fs t).nr] 201)).alloc (.cells #[.slice none 0 0,.slice none 0 0,.slice none 0 0,.slice none 0 0] 48)) w.heap.size (fs t)/\DBlk ((w.alloc (.cells #[.int .i64 (fs t).nn,.int .i64 (fs t).nf,.int .i64 (fs t).nu,.int .i64 (fs t).wd,.int .i64 (fs t).nt,.int .i64 (fs t).tg,.int .i64 (fs t).tl,.int .i64 (fs t).nr] 201)).alloc (.cells #[.slice none 0 0,.slice none 0 0,.slice none 0 0,.slice none 0 0] 48)) (w.heap.size+1) nilDA/\Below w.heap.size w ((w.alloc (.cells #[.int .i64 (fs t).nn,.int .i64 (fs t).nf,.int .i64 (fs t).nu,.int .i64 (fs t).wd,.int .i64 (fs t).nt,.int .i64 (fs t).tg,.int .i64 (fs t).tl,.int .i64 (fs t).nr] 201)).alloc (.cells #[.slice none 0 0,.slice none 0 0,.slice none 0 0,.slice none 0 0] 48))/\Rd ((w.alloc (.cells #[.int .i64 (fs t).nn,.int .i64 (fs t).nf,.int .i64 (fs t).nu,.int .i64 (fs t).wd,.int .i64 (fs t).nt,.int .i64 (fs t).tg,.int .i64 (fs t).tl,.int .i64 (fs t).nr] 201)).alloc (.cells #[.slice none 0 0,.slice none 0 0,.slice none 0 0,.slice none 0 0] 48)) a0 zs):=⟨hX1.below hb2,hD1,hb1.trans (hb2.mono hb1.size),(hr.below hb1).below hb2⟩
 have KW:Hid (∀W,Rd W a0 zs->Calls Tryz.prog 179 #[.slice a0 len c0] W fun e w'=>∃gr a' ca,e=.returned (.pointer (some ⟨gr,0,none⟩))/\Hid (W.heap.size<=gr/\RS w' w' gr a' len ca zs (some 0)/\Below W.heap.size W w')):=fun W hW=>new_both a0 len c0 zs W hW hl hm hnil
 have KN:Hid (∀(n:Nat) Wb W g a cap st,n<=1000->(∀W,Wb.grownBy W (some g)->Rd W a0 zs)->RS Wb W g a len cap zs st->Calls Tryz.prog 180 #[.pointer (some ⟨g,0,none⟩),.slice a0 len c0,.int .i64 n] W fun e w'=>∃s:Sl,e=.returned (.slice s.a s.n s.c)/\Hid (OwnN Wb.heap.size w' (.slice s.a s.n s.c) (pnms zs len st n).1/\RS Wb w' g a len cap zs (pnms zs len st n).2)):=fun n Wb W g a cap st h1 h2 h4=>takenames_any Wb W g a len cap zs st n a0 c0 h1 h2 hc h4
 have KT:Hid (∀Wb W g a cap st,RS Wb W g a len cap zs st->Calls Tryz.prog 182 #[.agg #[.int .i64 (fs t).nn,.int .i64 (fs t).nf,.int .i64 (fs t).nu,.int .i64 (fs t).wd,.int .i64 (fs t).nt,.int .i64 (fs t).tg,.int .i64 (fs t).tl,.int .i64 (fs t).nr],.pointer (some ⟨g,0,none⟩)] W fun e w'=>∃s:Sl,e=.returned (.slice s.a s.n s.c)/\Hid (Own1 Wb.heap.size w' s (ptxs (fs t) zs len st).1/\RS Wb w' g a len cap zs (ptxs (fs t) zs len st).2)):=fun Wb W g a cap st hh=>taketexts_any t Wb W g a len cap zs st hh
 have hfc:(fs t).nf<=(fs t).nn/\(fs t).nn<=2/\(fs t).nu<=5/\((fs t).nu=0∨(fs t).wd=1∨(fs t).wd=2∨(fs t).wd=4):=by
  rcases fs_cases t with ⟨_,e⟩|⟨_,e⟩|⟨_,e⟩|⟨_,e⟩|⟨_,e⟩|⟨_,e⟩|⟨_,e⟩|⟨_,e⟩|⟨_,e⟩ <;> rw[e] <;> simp
 have HPR:Hid (pread (fs t) zs len=(⟨(pnms zs len (some 0) (fs t).nf).1++(pnms zs len (pnus zs len (pnms zs len (some 0) (fs t).nf).2 (fs t).wd (fs t).nu).2 ((fs t).nn - (fs t).nf)).1,(pnus zs len (pnms zs len (some 0) (fs t).nf).2 (fs t).wd (fs t).nu).1,(ptxs (fs t) zs len (pnms zs len (pnus zs len (pnms zs len (some 0) (fs t).nf).2 (fs t).wd (fs t).nu).2 ((fs t).nn - (fs t).nf)).2).1,(if (fs t).nr=0 then (([]:List Int),(ptxs (fs t) zs len (pnms zs len (pnus zs len (pnms zs len (some 0) (fs t).nf).2 (fs t).wd (fs t).nu).2 ((fs t).nn - (fs t).nf)).2).2) else (tk zs (ptxs (fs t) zs len (pnms zs len (pnus zs len (pnms zs len (some 0) (fs t).nf).2 (fs t).wd (fs t).nu).2 ((fs t).nn - (fs t).nf)).2).2 (lft len (ptxs (fs t) zs len (pnms zs len (pnus zs len (pnms zs len (some 0) (fs t).nf).2 (fs t).wd (fs t).nu).2 ((fs t).nn - (fs t).nf)).2).2),mv len (ptxs (fs t) zs len (pnms zs len (pnus zs len (pnms zs len (some 0) (fs t).nf).2 (fs t).wd (fs t).nu).2 ((fs t).nn - (fs t).nf)).2).2 (lft len (ptxs (fs t) zs len (pnms zs len (pnus zs len (pnms zs len (some 0) (fs t).nf).2 (fs t).wd (fs t).nu).2 ((fs t).nn - (fs t).nf)).2).2))).1⟩,(if (fs t).nr=0 then (([]:List Int),(ptxs (fs t) zs len (pnms zs len (pnus zs len (pnms zs len (some 0) (fs t).nf).2 (fs t).wd (fs t).nu).2 ((fs t).nn - (fs t).nf)).2).2) else (tk zs (ptxs (fs t) zs len (pnms zs len (pnus zs len (pnms zs len (some 0) (fs t).nf).2 (fs t).wd (fs t).nu).2 ((fs t).nn - (fs t).nf)).2).2 (lft len (ptxs (fs t) zs len (pnms zs len (pnus zs len (pnms zs len (some 0) (fs t).nf).2 (fs t).wd (fs t).nu).2 ((fs t).nn - (fs t).nf)).2).2),mv len (ptxs (fs t) zs len (pnms zs len (pnus zs len (pnms zs len (some 0) (fs t).nf).2 (fs t).wd (fs t).nu).2 ((fs t).nn - (fs t).nf)).2).2 (lft len (ptxs (fs t) zs len (pnms zs len (pnus zs len (pnms zs len (some 0) (fs t).nf).2 (fs t).wd (fs t).nu).2 ((fs t).nn - (fs t).nf)).2).2))).2)):=(show _=_ from rfl)
 obtain ⟨PR,hPR⟩:∃PR,pread (fs t) zs len=PR:=⟨_,rfl⟩
 rw[hPR] at HPR ⊢
 clear hPR hb1 hb2 hX1 hD1 hsz1 hr
 generalize (fs t)=f at*
 have HTX:Hid (∀st,ptxs f zs len st=ptxs f zs len st):=fun _=>rfl
 obtain ⟨nn,nf,nu,wd,nt,tg,tl,nr⟩:=f
 simp only at H KT HPR hfc ⊢
 obtain ⟨F,hF⟩:∃F:Option Nat->List ByteArray × Option Nat,F=fun st=>ptxs ⟨nn,nf,nu,wd,nt,tg,tl,nr⟩ zs len st:=⟨_,rfl⟩
 have HFF:Hid (∀st,ptxs ⟨nn,nf,nu,wd,nt,tg,tl,nr⟩ zs len st=F st):=fun st=>by rw[hF]
 simp only[HFF.out] at KT HPR
 clear hF HFF HTX
 generalize hn1:pnms zs len (some 0) nf=r1 at*
 generalize hn2:pnus zs len r1.2 wd nu=r2 at*
 generalize hn3:pnms zs len r2.2 (nn - nf)=r3 at*
 generalize hn4:F r3.2=r4 at*
 have HN:Hid (pnms zs len (some 0) nf=r1/\pnus zs len r1.2 wd nu=r2/\pnms zs len r2.2 (nn - nf)=r3/\F r3.2=r4):=⟨hn1,hn2,hn3,hn4⟩
 have HLN:Hid (r1.1.length+r3.1.length<=1000):=by
  show _<=_
  rw[<- hn1,<- hn3,pnms_len,pnms_len]
  omega
 clear hn1 hn2 hn3 hn4
 have hnfi:(nn:Int) - (nf:Int)=((nn - nf:Nat):Int):=by omega
 have hnfw:IntKind.i64.wrap ((nn:Int) - (nf:Int))=((nn - nf:Nat):Int):=by rw[hnfi,IntKind.wrap_i64];omega
 clear hnfi
 go_enter Tryz.func171,Tryz.ntmps171
 go_upto_region 1 with fail
 generalize ((w.alloc (.cells #[.int .i64 nn,.int .i64 nf,.int .i64 nu,.int .i64 wd,.int .i64 nt,.int .i64 tg,.int .i64 tl,.int .i64 nr] 201)).alloc (.cells #[.slice none 0 0,.slice none 0 0,.slice none 0 0,.slice none 0 0] 48))=W1 at*
 obtain ⟨b,hb⟩:∃b,b=w.heap.size:=⟨_,rfl⟩
 rw[<- hb] at H ⊢
 have Hb:Hid (b=w.heap.size):=hb
 clear hb
 go_wp2_with fail
 refine (KW.out _ H.out.2.2.2).mono ?_
 rintro e Wb ⟨g,a',ca,rfl,H1⟩
 have hbW:b+1<W1.heap.size:=H.out.2.1.lt
 have HBB:Hid (FBox Wb b ⟨nn,nf,nu,wd,nt,tg,tl,nr⟩/\DBlk Wb (b+1) nilDA/\Below b w Wb/\(∀W,Wb.grownBy W (some g)->Rd W a0 zs)/\b+1<g/\b+1<Wb.heap.size):=by
  obtain ⟨p1,p2,p3,p4⟩:=H.out
  obtain ⟨q1,q2,q3⟩:=H1.out
  refine ⟨p1.below q3,p2.same (q3.block _ hbW),?_,?_,by omega,Nat.lt_of_lt_of_le hbW q3.size⟩
  ·rw[Hb.out] at p3 ⊢;exact p3.trans (q3.mono p3.size)
  ·intro W hW
   rcases p4.1 with h|⟨b2,o2,h2,h3,_⟩
   ·rw[h];exact ⟨.inl rfl,by simp⟩
   ·refine (p4.below q3).grown hW ?_
    intro b' o' e
    rw[h2] at e;cases e;omega
 have HS0:Hid (RS Wb Wb g a' len ca zs (some 0)):=H1.out.2.1
 have HFB:Hid (∀W,Wb.grownBy W (some g)->FBox W b ⟨nn,nf,nu,wd,nt,tg,tl,nr⟩):=fun W hW=>HBB.out.1.off hW (by have:=HBB.out;omega)
 clear H H1 KW hbW
 have K1:Hid (Calls Tryz.prog 180 #[.pointer (some ⟨g,0,none⟩),.slice a0 len c0,.int .i64 nf] Wb fun e w'=>∃s:Sl,e=.returned (.slice s.a s.n s.c)/\Hid (OwnN Wb.heap.size w' (.slice s.a s.n s.c) r1.1/\RS Wb w' g a' len ca zs r1.2)):=by
  have:=KN.out nf Wb Wb g a' ca (some 0) (by omega) HBB.out.2.2.2.1 HS0.out
  rw[HN.out.1] at this
  exact this
 have s1:=HBB.out.1.2.1
 simp only at s1
 go_wp2_with fail
 refine K1.out.mono ?_
 rintro e W2 ⟨sf,rfl,H2⟩
 clear K1 HS0 s1
 have K2:Hid (Calls Tryz.prog 181 #[.pointer (some ⟨g,0,none⟩),.int .i64 nu,.int .i64 wd] W2 fun e w'=>∃s:Sl,e=.returned (.slice s.a s.n s.c)/\Hid (UOwn W2.heap.size w' s r2.1/\RS W2 w' g a' len ca zs r2.2)):=by
  have:=takenums_any W2 W2 g a' len ca zs r1.2 nu wd hfc.2.2.2 (by omega) H2.out.2.rebase
  rw[HN.out.2.1] at this
  exact this
 have s2:=(HFB.out W2 H2.out.2.kp).2.2.1
 have s3:=(HFB.out W2 H2.out.2.kp).2.2.2.1
 simp only at s2 s3
 go_wp2_with fail
 refine K2.out.mono ?_
 rintro e W3 ⟨su,rfl,H3⟩
 have HG3:Hid (RS Wb W3 g a' len ca zs r2.2/\OwnN Wb.heap.size W3 (.slice sf.a sf.n sf.c) r1.1/\UOwn Wb.heap.size W3 su r2.1):=⟨H2.out.2.back H3.out.2,H2.out.1.kept H3.out.2.kp H2.out.2.gl,H3.out.1.mono H2.out.2.kp.size⟩
 clear K2 H3 H2 s2 s3
 have K3:Hid (Calls Tryz.prog 180 #[.pointer (some ⟨g,0,none⟩),.slice a0 len c0,.int .i64 ((nn - nf:Nat):Int)] W3 fun e w'=>∃s:Sl,e=.returned (.slice s.a s.n s.c)/\Hid (OwnN W3.heap.size w' (.slice s.a s.n s.c) r3.1/\RS W3 w' g a' len ca zs r3.2)):=by
  have:=KN.out (nn - nf) W3 W3 g a' ca r2.2 (by omega) (fun W hW=>HBB.out.2.2.2.1 W (grown2 HG3.out.1.kp hW)) HG3.out.1.rebase
  rw[HN.out.2.2.1] at this
  exact this
 clear KN
 have s0:=(HFB.out W3 HG3.out.1.kp).1
 have s1:=(HFB.out W3 HG3.out.1.kp).2.1
 simp only at s0 s1
 go_upto_region 5 with fail
 refine K3.out.mono ?_
 rintro e W4 ⟨sb,rfl,H4⟩
 have HG4:Hid (RS Wb W4 g a' len ca zs r3.2/\OwnN Wb.heap.size W4 (.slice sf.a sf.n sf.c) r1.1/\UOwn Wb.heap.size W4 su r2.1/\OwnN Wb.heap.size W4 (.slice sb.a sb.n sb.c) r3.1):=⟨HG3.out.1.back H4.out.2,HG3.out.2.1.kept H4.out.2.kp HG3.out.1.gl,HG3.out.2.2.kept H4.out.2.kp HG3.out.1.gl,H4.out.1.mono HG3.out.1.kp.size⟩
 clear K3 H4 HG3 s0 s1
 have hdr:Below W4.heap.size W4 W4.drew:=(Below.refl _ _).drew
 have HV:Hid (RS Wb W4.drew g a' len ca zs r3.2/\OwnN Wb.heap.size W4.drew (.slice sf.a sf.n sf.c) r1.1/\UOwn Wb.heap.size W4.drew su r2.1/\OwnN Wb.heap.size W4.drew (.slice sb.a sb.n sb.c) r3.1):=⟨HG4.out.1.below hdr,HG4.out.2.1.stays hdr,HG4.out.2.2.1.stays hdr,HG4.out.2.2.2.stays hdr⟩
 have KT2:Hid (∀V,RS V V g a' len ca zs r3.2->Calls Tryz.prog 182 #[.agg #[.int .i64 nn,.int .i64 nf,.int .i64 nu,.int .i64 wd,.int .i64 nt,.int .i64 tg,.int .i64 tl,.int .i64 nr],.pointer (some ⟨g,0,none⟩)] V fun e w'=>∃s:Sl,e=.returned (.slice s.a s.n s.c)/\Hid (Own1 V.heap.size w' s r4.1/\RS V w' g a' len ca zs r4.2)):=by
  intro V hV
  have:=KT.out V V g a' ca r3.2 hV
  rw[HN.out.2.2.2] at this
  exact this
 clear KT hdr
 obtain ⟨s0,s1,s2,s3,s4,s5,s6,s7,s8⟩:=HFB.out W4 HG4.out.1.kp
 simp only at s0 s1 s2 s3 s4 s5 s6 s7
 go_upto_region 5 with fail
 go_cut [10] from 32 to 39 (fun s10 wx=>∃(D:Nat) (tn sx:Sl),s10=.pointer (some ⟨D,0,none⟩)/\Hid (CutS Wb wx g a' len ca zs r4.2 D ⟨tn,su,sx,⟨none,0,0⟩⟩ ⟨r1.1++r3.1,r2.1,r4.1,[]⟩))
 case first=>
  go_region_law (first
   |(refine st_nl rfl _ _ rfl Wb.heap.size sf sb r1.1 r3.1 rfl rfl (by first|exact HA5.out.2.1|exact HA5.out.2.1.stays (new_below _ _)) (by first|exact HA5.out.2.2.2.1|exact HA5.out.2.2.2.1.stays (new_below _ _)) HLN.out (by first|exact HA5.out.1.kp.size|exact (HA5.out.1.below (new_below _ _)).kp.size) ?_;intro tn W6 H6 HX6;have HZ:Hid (RS Wb W6 g a' len ca zs r4.2/\OwnN Wb.heap.size W6 (.slice tn.a tn.n tn.c) (r1.1++r3.1)/\UOwn Wb.heap.size W6 su r2.1/\Own1 Wb.heap.size W6 sx r4.1):=⟨(by first|exact HA5.out.1.offTy HX6.out|exact (HA5.out.1.below (new_below _ _)).offTy HX6.out),H6.out,(by first|exact HA5.out.2.2.1.offTy HX6.out|exact (HA5.out.2.2.1.stays (new_below _ _)).offTy HX6.out),(by first|exact HA5.out.2.2.2.2.offTy HX6.out|exact (HA5.out.2.2.2.2.stays (new_below _ _)).offTy HX6.out)⟩;(try (have hD6:Hid (DBlk W6 W5.heap.size nilDA):=(dblk_new W5).offTy HX6.out));(try (have hD6:Hid (DBlk W6 W4.heap.size nilDA):=hD5.out.offTy HX6.out));(try (have d0:=hD6.out.box.1;have d1:=hD6.out.box.2.1;have d2:=hD6.out.box.2.2.1;have d3:=hD6.out.box.2.2.2.1;have z0:=hD6.out.fz 0;have z1:=hD6.out.fz 1;have z2:=hD6.out.fz 2;have z3:=hD6.out.fz 3;simp only at d0 d1 d2 d3));have f0:W6.cell? ⟨b,0,none⟩=some (.int .i64 nn):=(HFB.out W6 HZ.out.1.kp).1;have f1:W6.cell? ⟨b,1,none⟩=some (.int .i64 nf):=(HFB.out W6 HZ.out.1.kp).2.1;have f2:W6.cell? ⟨b,2,none⟩=some (.int .i64 nu):=(HFB.out W6 HZ.out.1.kp).2.2.1;have f3:W6.cell? ⟨b,3,none⟩=some (.int .i64 wd):=(HFB.out W6 HZ.out.1.kp).2.2.2.1;have f4:W6.cell? ⟨b,4,none⟩=some (.int .i64 nt):=(HFB.out W6 HZ.out.1.kp).2.2.2.2.1;have f5:W6.cell? ⟨b,5,none⟩=some (.int .i64 tg):=(HFB.out W6 HZ.out.1.kp).2.2.2.2.2.1;have f6:W6.cell? ⟨b,6,none⟩=some (.int .i64 tl):=(HFB.out W6 HZ.out.1.kp).2.2.2.2.2.2.1;have f7:W6.cell? ⟨b,7,none⟩=some (.int .i64 nr):=(HFB.out W6 HZ.out.1.kp).2.2.2.2.2.2.2.1;have f8:b<W6.heap.size:=(HFB.out W6 HZ.out.1.kp).2.2.2.2.2.2.2.2)
   |(go_simp;go_at_call 182;refine (KT2.out _ (by first|exact HB5.out.1.rebase|exact (HB5.out.1.below (new_below _ _)).rebase)).mono ?_;rintro e W6 ⟨sx,rfl,H6⟩;have HZ:Hid (RS Wb W6 g a' len ca zs r4.2/\OwnN Wb.heap.size W6 (.slice tn.a tn.n tn.c) (r1.1++r3.1)/\UOwn Wb.heap.size W6 su r2.1/\Own1 Wb.heap.size W6 sx r4.1):=⟨(by first|exact HB5.out.1.back H6.out.2|exact (HB5.out.1.below (new_below _ _)).back H6.out.2),(by first|exact HB5.out.2.1.kept H6.out.2.kp HB5.out.1.gl|exact (HB5.out.2.1.stays (new_below _ _)).kept H6.out.2.kp HB5.out.1.gl),(by first|exact HB5.out.2.2.kept H6.out.2.kp HB5.out.1.gl|exact (HB5.out.2.2.stays (new_below _ _)).kept H6.out.2.kp HB5.out.1.gl),(by first|exact H6.out.1.mono HB5.out.1.kp.size|exact H6.out.1.mono (HB5.out.1.below (new_below _ _)).kp.size)⟩;(try (have hD6:Hid (DBlk W6 W5.heap.size nilDA):=(dblk_new W5).call H6.out.2.kp (Nat.lt_of_lt_of_le HB5.out.1.gl HB5.out.1.kp.size)));(try (have hD6:Hid (DBlk W6 W4.heap.size nilDA):=hD5.out.call H6.out.2.kp (Nat.lt_of_lt_of_le HG4.out.1.gl HG4.out.1.kp.size)));(try (have d0:=hD6.out.box.1;have d1:=hD6.out.box.2.1;have d2:=hD6.out.box.2.2.1;have d3:=hD6.out.box.2.2.2.1;have z0:=hD6.out.fz 0;have z1:=hD6.out.fz 1;have z2:=hD6.out.fz 2;have z3:=hD6.out.fz 3;simp only at d0 d1 d2 d3));have f0:W6.cell? ⟨b,0,none⟩=some (.int .i64 nn):=(HFB.out W6 HZ.out.1.kp).1;have f1:W6.cell? ⟨b,1,none⟩=some (.int .i64 nf):=(HFB.out W6 HZ.out.1.kp).2.1;have f2:W6.cell? ⟨b,2,none⟩=some (.int .i64 nu):=(HFB.out W6 HZ.out.1.kp).2.2.1;have f3:W6.cell? ⟨b,3,none⟩=some (.int .i64 wd):=(HFB.out W6 HZ.out.1.kp).2.2.2.1;have f4:W6.cell? ⟨b,4,none⟩=some (.int .i64 nt):=(HFB.out W6 HZ.out.1.kp).2.2.2.2.1;have f5:W6.cell? ⟨b,5,none⟩=some (.int .i64 tg):=(HFB.out W6 HZ.out.1.kp).2.2.2.2.2.1;have f6:W6.cell? ⟨b,6,none⟩=some (.int .i64 tl):=(HFB.out W6 HZ.out.1.kp).2.2.2.2.2.2.1;have f7:W6.cell? ⟨b,7,none⟩=some (.int .i64 nr):=(HFB.out W6 HZ.out.1.kp).2.2.2.2.2.2.2.1;have f8:b<W6.heap.size:=(HFB.out W6 HZ.out.1.kp).2.2.2.2.2.2.2.2)
   |(refine st_nl rfl _ _ rfl Wb.heap.size sf sb r1.1 r3.1 rfl rfl (by first|exact HV.out.2.1|exact HV.out.2.1.stays (new_below _ _)) (by first|exact HV.out.2.2.2|exact HV.out.2.2.2.stays (new_below _ _)) HLN.out (by first|exact HV.out.1.kp.size|exact (HV.out.1.below (new_below _ _)).kp.size) ?_;intro tn W5 H5 HX5;have HB5:Hid (RS Wb W5 g a' len ca zs r3.2/\OwnN Wb.heap.size W5 (.slice tn.a tn.n tn.c) (r1.1++r3.1)/\UOwn Wb.heap.size W5 su r2.1):=⟨(by first|exact HV.out.1.offTy HX5.out|exact (HV.out.1.below (new_below _ _)).offTy HX5.out),H5.out,(by first|exact HV.out.2.2.1.offTy HX5.out|exact (HV.out.2.2.1.stays (new_below _ _)).offTy HX5.out)⟩;(try (have hD5:Hid (DBlk W5 W4.heap.size nilDA):=(show DBlk _ W4.heap.size nilDA from dblk_new W4.drew).offTy HX5.out));have e0:W5.cell? ⟨b,0,none⟩=some (.int .i64 nn):=(HFB.out W5 HB5.out.1.kp).1;have e1:W5.cell? ⟨b,1,none⟩=some (.int .i64 nf):=(HFB.out W5 HB5.out.1.kp).2.1;have e2:W5.cell? ⟨b,2,none⟩=some (.int .i64 nu):=(HFB.out W5 HB5.out.1.kp).2.2.1;have e3:W5.cell? ⟨b,3,none⟩=some (.int .i64 wd):=(HFB.out W5 HB5.out.1.kp).2.2.2.1;have e4:W5.cell? ⟨b,4,none⟩=some (.int .i64 nt):=(HFB.out W5 HB5.out.1.kp).2.2.2.2.1;have e5:W5.cell? ⟨b,5,none⟩=some (.int .i64 tg):=(HFB.out W5 HB5.out.1.kp).2.2.2.2.2.1;have e6:W5.cell? ⟨b,6,none⟩=some (.int .i64 tl):=(HFB.out W5 HB5.out.1.kp).2.2.2.2.2.2.1;have e7:W5.cell? ⟨b,7,none⟩=some (.int .i64 nr):=(HFB.out W5 HB5.out.1.kp).2.2.2.2.2.2.2.1;have e8:b<W5.heap.size:=(HFB.out W5 HB5.out.1.kp).2.2.2.2.2.2.2.2)
   |(go_simp;go_at_call 182;refine (KT2.out _ (by first|exact HV.out.1.rebase|exact (HV.out.1.below (new_below _ _)).rebase)).mono ?_;rintro e W5 ⟨sx,rfl,H5⟩;have HA5:Hid (RS Wb W5 g a' len ca zs r4.2/\OwnN Wb.heap.size W5 (.slice sf.a sf.n sf.c) r1.1/\UOwn Wb.heap.size W5 su r2.1/\OwnN Wb.heap.size W5 (.slice sb.a sb.n sb.c) r3.1/\Own1 Wb.heap.size W5 sx r4.1):=⟨(by first|exact HV.out.1.back H5.out.2|exact (HV.out.1.below (new_below _ _)).back H5.out.2),(by first|exact HV.out.2.1.kept H5.out.2.kp HV.out.1.gl|exact (HV.out.2.1.stays (new_below _ _)).kept H5.out.2.kp HV.out.1.gl),(by first|exact HV.out.2.2.1.kept H5.out.2.kp HV.out.1.gl|exact (HV.out.2.2.1.stays (new_below _ _)).kept H5.out.2.kp HV.out.1.gl),(by first|exact HV.out.2.2.2.kept H5.out.2.kp HV.out.1.gl|exact (HV.out.2.2.2.stays (new_below _ _)).kept H5.out.2.kp HV.out.1.gl),(by first|exact H5.out.1.mono HV.out.1.kp.size|exact H5.out.1.mono (HV.out.1.below (new_below _ _)).kp.size)⟩;(try (have hD5:Hid (DBlk W5 W4.heap.size nilDA):=(show DBlk _ W4.heap.size nilDA from dblk_new W4.drew).call H5.out.2.kp (Nat.lt_of_lt_of_le HG4.out.1.gl HG4.out.1.kp.size)));have e0:W5.cell? ⟨b,0,none⟩=some (.int .i64 nn):=(HFB.out W5 HA5.out.1.kp).1;have e1:W5.cell? ⟨b,1,none⟩=some (.int .i64 nf):=(HFB.out W5 HA5.out.1.kp).2.1;have e2:W5.cell? ⟨b,2,none⟩=some (.int .i64 nu):=(HFB.out W5 HA5.out.1.kp).2.2.1;have e3:W5.cell? ⟨b,3,none⟩=some (.int .i64 wd):=(HFB.out W5 HA5.out.1.kp).2.2.2.1;have e4:W5.cell? ⟨b,4,none⟩=some (.int .i64 nt):=(HFB.out W5 HA5.out.1.kp).2.2.2.2.1;have e5:W5.cell? ⟨b,5,none⟩=some (.int .i64 tg):=(HFB.out W5 HA5.out.1.kp).2.2.2.2.2.1;have e6:W5.cell? ⟨b,6,none⟩=some (.int .i64 tl):=(HFB.out W5 HA5.out.1.kp).2.2.2.2.2.2.1;have e7:W5.cell? ⟨b,7,none⟩=some (.int .i64 nr):=(HFB.out W5 HA5.out.1.kp).2.2.2.2.2.2.2.1;have e8:b<W5.heap.size:=(HFB.out W5 HA5.out.1.kp).2.2.2.2.2.2.2.2))
  all_goals
   go_wp2_with fail
   go_meet
   first
    |exact ⟨_,tn,sx,rfl,cut_new HZ.out⟩
    |exact ⟨_,tn,sx,rfl,cut_set HZ.out hD6.out (by first|exact HA5.out.1.kp.size|exact HB5.out.1.kp.size|exact HG4.out.1.kp.size)⟩
 case rest=>
  obtain ⟨D,tn,sx,rfl,HC⟩:=hcut
  have f7:=(HFB.out wc HC.out.rs.kp).2.2.2.2.2.2.2.1
  simp only at f7
  have HRB:Hid (∀W,Wb.grownBy W (some g)->DBlk W (b+1) nilDA):=fun W hW=>HBB.out.2.1.same (hW.block _ HBB.out.2.2.2.2.2 (fun e=>by have:=HBB.out.2.2.2.2.1;have:=Option.some.inj e;omega))
  have HBW:Hid (∀W,Wb.grownBy W (some g)->Below w.heap.size w W):=fun W hW=>by
   have h1:=HBB.out.2.2.1
   have h2:=HBB.out.2.2.2.2
   have h3:=Hb.out
   rw[h3] at h1
   exact ⟨hW.os.trans h1.os,hW.tape.trans h1.tape,hW.output.trans h1.output,Nat.le_trans h1.size hW.size,fun j hj=>(hW.block j (by omega) (fun e=>by have:=Option.some.inj e;omega)).trans (h1.block j hj)⟩
  have KL:Hid (∀W st,RS Wb W g a' len ca zs st->Calls Tryz.prog 184 #[.pointer (some ⟨g,0,none⟩)] W fun e w'=>e=.returned (.int .i64 (lft len st))/\Hid (RS Wb w' g a' len ca zs st/\W.grownBy w' (some g))):=fun W st hW=>(rleft_any g a' len ca zs st W hW.rst hW.rdW hW.hl hW.hc (by omega) hW.hd hW.off).mono (by rintro e w' ⟨rfl,H⟩;exact ⟨rfl,hW.to H.out.1 H.out.2,H.out.2⟩)
  have KB:Hid (∀W st,RS Wb W g a' len ca zs st->Calls Tryz.prog 185 #[.pointer (some ⟨g,0,none⟩)] W fun e w'=>e=.returned (.bool st.isNone)/\Hid (RS Wb w' g a' len ca zs st/\W.grownBy w' (some g))):=fun W st hW=>(rbad_any g a' len ca zs st W hW.rst hW.rdW hW.hl hW.hc (by omega) hW.hd hW.off).mono (by rintro e w' ⟨rfl,H⟩;exact ⟨rfl,hW.to H.out.1 H.out.2,H.out.2⟩)
  have KT:Hid (∀W st n,RS Wb W g a' len ca zs st->Calls Tryz.prog 183 #[.pointer (some ⟨g,0,none⟩),.int .i64 n] W fun e w'=>∃s:Sl,e=.returned (.slice s.a s.n s.c)/\Hid (BOwn Wb.heap.size w' s (tk zs st n)/\RS Wb w' g a' len ca zs (mv len st n)/\W.grownBy w' (some g))):=fun W st n hW=>rtake2 Wb W g a' len ca zs st n hW
  clear HG4 HV KT2 s0 s1 s2 s3 s4 s5 s6 s7 s8 HLN hnfw hc hl
  by_cases hnr:nr=0
  ·have hnr':(nr != 0)=false:=by simp[hnr]
   have HQ:Hid (CutS Wb wc g a' len ca zs PR.2 D ⟨tn,su,sx,⟨none,0,0⟩⟩ PR.1):=by
    have e:=HPR.out
    rw[if_pos hnr] at e
    rw[e]
    exact HC.out
   clear HC HPR HN
   obtain ⟨d,st⟩:=PR
   simp only at HQ ⊢
   go_wp2_with fail
   have d0:wc.cell? ⟨D,0,none⟩=some (.slice tn.a tn.n tn.c):=HQ.out.blk.box.1
   have d1:wc.cell? ⟨D,1,none⟩=some (.slice su.a su.n su.c):=HQ.out.blk.box.2.1
   have d2:wc.cell? ⟨D,2,none⟩=some (.slice sx.a sx.n sx.c):=HQ.out.blk.box.2.2.1
   have d3:wc.cell? ⟨D,3,none⟩=some (.slice none 0 0):=HQ.out.blk.box.2.2.2.1
   have HQD:Hid (∀W,wc.grownBy W (some g)->DBlk W D ⟨tn,su,sx,⟨none,0,0⟩⟩):=fun W hW=>HQ.out.blk.call hW (Nat.lt_of_lt_of_le HQ.out.rs.gl HQ.out.low)
   have HVD:Hid (RS Wb wc.drew g a' len ca zs st):=HQ.out.rs.below (Below.refl _ _).drew
   have hDb:¬ b+1=D:=by have h1:=HBB.out.2.2.2.2.2;have h2:=HQ.out.low;omega
   have hDb2:¬ D=b+1:=by omega
   cases st with
   |none=>
    have KLs:=KL.out _ none HVD.out
    have K1:Hid (Calls Tryz.prog 184 #[.pointer (some ⟨g,0,none⟩)] wc.drew fun e w'=>e=.returned (.int .i64 0)/\Hid (RS Wb w' g a' len ca zs none/\wc.drew.grownBy w' (some g))):=KLs
    have K2:Hid (∀W,RS Wb W g a' len ca zs none->Calls Tryz.prog 185 #[.pointer (some ⟨g,0,none⟩)] W fun e w'=>e=.returned (.bool true)/\Hid (RS Wb w' g a' len ca zs none/\W.grownBy w' (some g))):=fun W hW=>KB.out W none hW
    clear KL KB KT KLs
    go_wp2_with fail
    go_region_held3 (fun W=>W.cell? ⟨D,0,none⟩=some (.slice tn.a tn.n tn.c)/\W.cell? ⟨D,1,none⟩=some (.slice su.a su.n su.c)/\W.cell? ⟨D,2,none⟩=some (.slice sx.a sx.n sx.c)/\W.cell? ⟨D,3,none⟩=some (.slice none 0 0)) (exact ⟨by go_keep,by go_keep,by go_keep,by go_keep⟩) (first
     |(go_at_call 184;refine K1.out.mono ?_;rintro e V1 ⟨rfl,H1⟩;have HG1:Hid (wc.grownBy V1 (some g)):=grown2 (below_grown (Below.refl _ _).drew) H1.out.2;have e0:V1.cell? ⟨D,0,none⟩=some (.slice tn.a tn.n tn.c):=(HQD.out V1 HG1.out).box.1;have e1:V1.cell? ⟨D,1,none⟩=some (.slice su.a su.n su.c):=(HQD.out V1 HG1.out).box.2.1;have e2:V1.cell? ⟨D,2,none⟩=some (.slice sx.a sx.n sx.c):=(HQD.out V1 HG1.out).box.2.2.1;have e3:V1.cell? ⟨D,3,none⟩=some (.slice none 0 0):=(HQD.out V1 HG1.out).box.2.2.2.1;have er0:V1.cell? ⟨b+1,0,none⟩=some (.slice none 0 0):=(HRB.out V1 H1.out.1.kp).box.1;have ez0:=(HRB.out V1 H1.out.1.kp).fz 0;have er1:V1.cell? ⟨b+1,1,none⟩=some (.slice none 0 0):=(HRB.out V1 H1.out.1.kp).box.2.1;have ez1:=(HRB.out V1 H1.out.1.kp).fz 1;have er2:V1.cell? ⟨b+1,2,none⟩=some (.slice none 0 0):=(HRB.out V1 H1.out.1.kp).box.2.2.1;have ez2:=(HRB.out V1 H1.out.1.kp).fz 2;have er3:V1.cell? ⟨b+1,3,none⟩=some (.slice none 0 0):=(HRB.out V1 H1.out.1.kp).box.2.2.2.1;have ez3:=(HRB.out V1 H1.out.1.kp).fz 3;have el:b+1<V1.heap.size:=(HRB.out V1 H1.out.1.kp).lt)
     |(go_at_call 185;refine (K2.out _ H1.out.1).mono ?_;rintro e V2 ⟨rfl,H2⟩;have HV2:Hid (RS Wb V2 g a' len ca zs none/\wc.grownBy V2 (some g)):=⟨H2.out.1,grown2 HG1.out H2.out.2⟩;have f0:V2.cell? ⟨D,0,none⟩=some (.slice tn.a tn.n tn.c):=(HQD.out V2 HV2.out.2).box.1;have f1:V2.cell? ⟨D,1,none⟩=some (.slice su.a su.n su.c):=(HQD.out V2 HV2.out.2).box.2.1;have f2:V2.cell? ⟨D,2,none⟩=some (.slice sx.a sx.n sx.c):=(HQD.out V2 HV2.out.2).box.2.2.1;have f3:V2.cell? ⟨D,3,none⟩=some (.slice none 0 0):=(HQD.out V2 HV2.out.2).box.2.2.2.1;have fr0:V2.cell? ⟨b+1,0,none⟩=some (.slice none 0 0):=(HRB.out V2 H2.out.1.kp).box.1;have fz0:=(HRB.out V2 H2.out.1.kp).fz 0;have fr1:V2.cell? ⟨b+1,1,none⟩=some (.slice none 0 0):=(HRB.out V2 H2.out.1.kp).box.2.1;have fz1:=(HRB.out V2 H2.out.1.kp).fz 1;have fr2:V2.cell? ⟨b+1,2,none⟩=some (.slice none 0 0):=(HRB.out V2 H2.out.1.kp).box.2.2.1;have fz2:=(HRB.out V2 H2.out.1.kp).fz 2;have fr3:V2.cell? ⟨b+1,3,none⟩=some (.slice none 0 0):=(HRB.out V2 H2.out.1.kp).box.2.2.2.1;have fz3:=(HRB.out V2 H2.out.1.kp).fz 3;have fl:b+1<V2.heap.size:=(HRB.out V2 H2.out.1.kp).lt))
    all_goals
     go_wp2_with fail
     have HX:Hid (DBlk ((((V2.setCell ⟨b+1,0,none⟩ (.slice tn.a tn.n tn.c)).setCell ⟨b+1,1,none⟩ (.slice su.a su.n su.c)).setCell ⟨b+1,2,none⟩ (.slice sx.a sx.n sx.c)).setCell ⟨b+1,3,none⟩ (.slice none 0 0)) (b+1) ⟨tn,su,sx,⟨none,0,0⟩⟩/\DOwn w.heap.size ((((V2.setCell ⟨b+1,0,none⟩ (.slice tn.a tn.n tn.c)).setCell ⟨b+1,1,none⟩ (.slice su.a su.n su.c)).setCell ⟨b+1,2,none⟩ (.slice sx.a sx.n sx.c)).setCell ⟨b+1,3,none⟩ (.slice none 0 0)) ⟨tn,su,sx,⟨none,0,0⟩⟩ d/\Below w.heap.size w ((((V2.setCell ⟨b+1,0,none⟩ (.slice tn.a tn.n tn.c)).setCell ⟨b+1,1,none⟩ (.slice su.a su.n su.c)).setCell ⟨b+1,2,none⟩ (.slice sx.a sx.n sx.c)).setCell ⟨b+1,3,none⟩ (.slice none 0 0))):=(HQ.out.rd HV2.out.1 HV2.out.2).ret (HRB.out V2 HV2.out.1.kp) HBB.out.2.2.2.2.2 (by have:=Hb.out;omega) (HBW.out V2 HV2.out.1.kp)
     generalize ((((V2.setCell ⟨b+1,0,none⟩ (.slice tn.a tn.n tn.c)).setCell ⟨b+1,1,none⟩ (.slice su.a su.n su.c)).setCell ⟨b+1,2,none⟩ (.slice sx.a sx.n sx.c)).setCell ⟨b+1,3,none⟩ (.slice none 0 0))=W9 at*
     have k0:=HX.out.1.box.1
     have k1:=HX.out.1.box.2.1
     have k2:=HX.out.1.box.2.2.1
     have k3:=HX.out.1.box.2.2.2.1
     simp only at k0 k1 k2 k3
     exact bodyPost_ret (v:=.tuple #[.agg #[.slice tn.a tn.n tn.c,.slice su.a su.n su.c,.slice sx.a sx.n sx.c,.slice none 0 0],.bool false]) (by simp[results,Tryz.results171,go_sem,k0,k1,k2,k3]) rfl ⟨⟨tn,su,sx,⟨none,0,0⟩⟩,by simp,HX.out.2.1,HX.out.2.2⟩
   |some k=>
    have KLs:=KL.out _ (some k) HVD.out
    have hkl:k<=len:=HQ.out.rs.rst.le k rfl
    by_cases hke:k=len
    ·subst hke
     have hz:lft k (some k)=0:=by simp[lft]
     rw[hz] at KLs
     clear hz
     have K1:Hid (Calls Tryz.prog 184 #[.pointer (some ⟨g,0,none⟩)] wc.drew fun e w'=>e=.returned (.int .i64 0)/\Hid (RS Wb w' g a' k ca zs (some k)/\wc.drew.grownBy w' (some g))):=KLs
     have K2:Hid (∀W,RS Wb W g a' k ca zs (some k)->Calls Tryz.prog 185 #[.pointer (some ⟨g,0,none⟩)] W fun e w'=>e=.returned (.bool false)/\Hid (RS Wb w' g a' k ca zs (some k)/\W.grownBy w' (some g))):=fun W hW=>KB.out W (some k) hW
     clear KL KB KT KLs
     go_wp2_with fail
     go_region_held3 (fun W=>W.cell? ⟨D,0,none⟩=some (.slice tn.a tn.n tn.c)/\W.cell? ⟨D,1,none⟩=some (.slice su.a su.n su.c)/\W.cell? ⟨D,2,none⟩=some (.slice sx.a sx.n sx.c)/\W.cell? ⟨D,3,none⟩=some (.slice none 0 0)) (exact ⟨by go_keep,by go_keep,by go_keep,by go_keep⟩) (first
      |(go_at_call 184;refine K1.out.mono ?_;rintro e V1 ⟨rfl,H1⟩;have HG1:Hid (wc.grownBy V1 (some g)):=grown2 (below_grown (Below.refl _ _).drew) H1.out.2;have e0:V1.cell? ⟨D,0,none⟩=some (.slice tn.a tn.n tn.c):=(HQD.out V1 HG1.out).box.1;have e1:V1.cell? ⟨D,1,none⟩=some (.slice su.a su.n su.c):=(HQD.out V1 HG1.out).box.2.1;have e2:V1.cell? ⟨D,2,none⟩=some (.slice sx.a sx.n sx.c):=(HQD.out V1 HG1.out).box.2.2.1;have e3:V1.cell? ⟨D,3,none⟩=some (.slice none 0 0):=(HQD.out V1 HG1.out).box.2.2.2.1;have er0:V1.cell? ⟨b+1,0,none⟩=some (.slice none 0 0):=(HRB.out V1 H1.out.1.kp).box.1;have ez0:=(HRB.out V1 H1.out.1.kp).fz 0;have er1:V1.cell? ⟨b+1,1,none⟩=some (.slice none 0 0):=(HRB.out V1 H1.out.1.kp).box.2.1;have ez1:=(HRB.out V1 H1.out.1.kp).fz 1;have er2:V1.cell? ⟨b+1,2,none⟩=some (.slice none 0 0):=(HRB.out V1 H1.out.1.kp).box.2.2.1;have ez2:=(HRB.out V1 H1.out.1.kp).fz 2;have er3:V1.cell? ⟨b+1,3,none⟩=some (.slice none 0 0):=(HRB.out V1 H1.out.1.kp).box.2.2.2.1;have ez3:=(HRB.out V1 H1.out.1.kp).fz 3;have el:b+1<V1.heap.size:=(HRB.out V1 H1.out.1.kp).lt)
      |(go_at_call 185;refine (K2.out _ H1.out.1).mono ?_;rintro e V2 ⟨rfl,H2⟩;have HV2:Hid (RS Wb V2 g a' k ca zs (some k)/\wc.grownBy V2 (some g)):=⟨H2.out.1,grown2 HG1.out H2.out.2⟩;have f0:V2.cell? ⟨D,0,none⟩=some (.slice tn.a tn.n tn.c):=(HQD.out V2 HV2.out.2).box.1;have f1:V2.cell? ⟨D,1,none⟩=some (.slice su.a su.n su.c):=(HQD.out V2 HV2.out.2).box.2.1;have f2:V2.cell? ⟨D,2,none⟩=some (.slice sx.a sx.n sx.c):=(HQD.out V2 HV2.out.2).box.2.2.1;have f3:V2.cell? ⟨D,3,none⟩=some (.slice none 0 0):=(HQD.out V2 HV2.out.2).box.2.2.2.1;have fr0:V2.cell? ⟨b+1,0,none⟩=some (.slice none 0 0):=(HRB.out V2 H2.out.1.kp).box.1;have fz0:=(HRB.out V2 H2.out.1.kp).fz 0;have fr1:V2.cell? ⟨b+1,1,none⟩=some (.slice none 0 0):=(HRB.out V2 H2.out.1.kp).box.2.1;have fz1:=(HRB.out V2 H2.out.1.kp).fz 1;have fr2:V2.cell? ⟨b+1,2,none⟩=some (.slice none 0 0):=(HRB.out V2 H2.out.1.kp).box.2.2.1;have fz2:=(HRB.out V2 H2.out.1.kp).fz 2;have fr3:V2.cell? ⟨b+1,3,none⟩=some (.slice none 0 0):=(HRB.out V2 H2.out.1.kp).box.2.2.2.1;have fz3:=(HRB.out V2 H2.out.1.kp).fz 3;have fl:b+1<V2.heap.size:=(HRB.out V2 H2.out.1.kp).lt))
     all_goals
      go_wp2_with fail
      have HX:Hid (DBlk ((((V2.setCell ⟨b+1,0,none⟩ (.slice tn.a tn.n tn.c)).setCell ⟨b+1,1,none⟩ (.slice su.a su.n su.c)).setCell ⟨b+1,2,none⟩ (.slice sx.a sx.n sx.c)).setCell ⟨b+1,3,none⟩ (.slice none 0 0)) (b+1) ⟨tn,su,sx,⟨none,0,0⟩⟩/\DOwn w.heap.size ((((V2.setCell ⟨b+1,0,none⟩ (.slice tn.a tn.n tn.c)).setCell ⟨b+1,1,none⟩ (.slice su.a su.n su.c)).setCell ⟨b+1,2,none⟩ (.slice sx.a sx.n sx.c)).setCell ⟨b+1,3,none⟩ (.slice none 0 0)) ⟨tn,su,sx,⟨none,0,0⟩⟩ d/\Below w.heap.size w ((((V2.setCell ⟨b+1,0,none⟩ (.slice tn.a tn.n tn.c)).setCell ⟨b+1,1,none⟩ (.slice su.a su.n su.c)).setCell ⟨b+1,2,none⟩ (.slice sx.a sx.n sx.c)).setCell ⟨b+1,3,none⟩ (.slice none 0 0))):=(HQ.out.rd HV2.out.1 HV2.out.2).ret (HRB.out V2 HV2.out.1.kp) HBB.out.2.2.2.2.2 (by have:=Hb.out;omega) (HBW.out V2 HV2.out.1.kp)
      generalize ((((V2.setCell ⟨b+1,0,none⟩ (.slice tn.a tn.n tn.c)).setCell ⟨b+1,1,none⟩ (.slice su.a su.n su.c)).setCell ⟨b+1,2,none⟩ (.slice sx.a sx.n sx.c)).setCell ⟨b+1,3,none⟩ (.slice none 0 0))=W9 at*
      have k0:=HX.out.1.box.1
      have k1:=HX.out.1.box.2.1
      have k2:=HX.out.1.box.2.2.1
      have k3:=HX.out.1.box.2.2.2.1
      simp only at k0 k1 k2 k3
      exact bodyPost_ret (v:=.tuple #[.agg #[.slice tn.a tn.n tn.c,.slice su.a su.n su.c,.slice sx.a sx.n sx.c,.slice none 0 0],.bool true]) (by simp[results,Tryz.results171,go_sem,k0,k1,k2,k3]) rfl ⟨⟨tn,su,sx,⟨none,0,0⟩⟩,by simp,HX.out.2.1,HX.out.2.2⟩
    ·obtain ⟨m,hm2⟩:∃m:Nat,len=k+m+1:=⟨len - k - 1,by omega⟩
     have hz:lft len (some k)=(m:Int)+1:=by
      show (len:Int) - (k:Int)=_
      omega
     rw[hz] at KLs
     clear hz hm2
     have hm0:¬ ((m:Int)+1=0):=by omega
     have hm1:((m:Int)+1 == 0)=false:=by simpa using hm0
     have K1:Hid (Calls Tryz.prog 184 #[.pointer (some ⟨g,0,none⟩)] wc.drew fun e w'=>e=.returned (.int .i64 ((m:Int)+1))/\Hid (RS Wb w' g a' len ca zs (some k)/\wc.drew.grownBy w' (some g))):=KLs
     clear KL KB KT KLs
     go_wp2_with fail
     first
      |(go_region_with (first
      |(go_at_call 184;refine K1.out.mono ?_;rintro e V2 ⟨rfl,HV2⟩;have HV3:Hid (wc.grownBy V2 (some g)):=grown2 (below_grown (Below.refl _ _).drew) HV2.out.2;have e0:V2.cell? ⟨D,0,none⟩=some (.slice tn.a tn.n tn.c):=(HQD.out V2 HV3.out).box.1;have e1:V2.cell? ⟨D,1,none⟩=some (.slice su.a su.n su.c):=(HQD.out V2 HV3.out).box.2.1;have e2:V2.cell? ⟨D,2,none⟩=some (.slice sx.a sx.n sx.c):=(HQD.out V2 HV3.out).box.2.2.1;have e3:V2.cell? ⟨D,3,none⟩=some (.slice none 0 0):=(HQD.out V2 HV3.out).box.2.2.2.1;have er0:V2.cell? ⟨b+1,0,none⟩=some (.slice none 0 0):=(HRB.out V2 HV2.out.1.kp).box.1;have ez0:=(HRB.out V2 HV2.out.1.kp).fz 0;have er1:V2.cell? ⟨b+1,1,none⟩=some (.slice none 0 0):=(HRB.out V2 HV2.out.1.kp).box.2.1;have ez1:=(HRB.out V2 HV2.out.1.kp).fz 1;have er2:V2.cell? ⟨b+1,2,none⟩=some (.slice none 0 0):=(HRB.out V2 HV2.out.1.kp).box.2.2.1;have ez2:=(HRB.out V2 HV2.out.1.kp).fz 2;have er3:V2.cell? ⟨b+1,3,none⟩=some (.slice none 0 0):=(HRB.out V2 HV2.out.1.kp).box.2.2.2.1;have ez3:=(HRB.out V2 HV2.out.1.kp).fz 3;have el:b+1<V2.heap.size:=(HRB.out V2 HV2.out.1.kp).lt)))
      |fail
     all_goals
      go_wp2_with fail
      have HX:Hid (DBlk ((((V2.setCell ⟨b+1,0,none⟩ (.slice tn.a tn.n tn.c)).setCell ⟨b+1,1,none⟩ (.slice su.a su.n su.c)).setCell ⟨b+1,2,none⟩ (.slice sx.a sx.n sx.c)).setCell ⟨b+1,3,none⟩ (.slice none 0 0)) (b+1) ⟨tn,su,sx,⟨none,0,0⟩⟩/\DOwn w.heap.size ((((V2.setCell ⟨b+1,0,none⟩ (.slice tn.a tn.n tn.c)).setCell ⟨b+1,1,none⟩ (.slice su.a su.n su.c)).setCell ⟨b+1,2,none⟩ (.slice sx.a sx.n sx.c)).setCell ⟨b+1,3,none⟩ (.slice none 0 0)) ⟨tn,su,sx,⟨none,0,0⟩⟩ d/\Below w.heap.size w ((((V2.setCell ⟨b+1,0,none⟩ (.slice tn.a tn.n tn.c)).setCell ⟨b+1,1,none⟩ (.slice su.a su.n su.c)).setCell ⟨b+1,2,none⟩ (.slice sx.a sx.n sx.c)).setCell ⟨b+1,3,none⟩ (.slice none 0 0))):=(HQ.out.rd HV2.out.1 HV3.out).ret (HRB.out V2 HV2.out.1.kp) HBB.out.2.2.2.2.2 (by have:=Hb.out;omega) (HBW.out V2 HV2.out.1.kp)
      generalize ((((V2.setCell ⟨b+1,0,none⟩ (.slice tn.a tn.n tn.c)).setCell ⟨b+1,1,none⟩ (.slice su.a su.n su.c)).setCell ⟨b+1,2,none⟩ (.slice sx.a sx.n sx.c)).setCell ⟨b+1,3,none⟩ (.slice none 0 0))=W9 at*
      have k0:=HX.out.1.box.1
      have k1:=HX.out.1.box.2.1
      have k2:=HX.out.1.box.2.2.1
      have k3:=HX.out.1.box.2.2.2.1
      simp only at k0 k1 k2 k3
      exact bodyPost_ret (v:=.tuple #[.agg #[.slice tn.a tn.n tn.c,.slice su.a su.n su.c,.slice sx.a sx.n sx.c,.slice none 0 0],.bool false]) (by simp[results,Tryz.results171,go_sem,k0,k1,k2,k3]) rfl ⟨⟨tn,su,sx,⟨none,0,0⟩⟩,by simp,HX.out.2.1,HX.out.2.2⟩
  ·have hnr':(nr != 0)=true:=by simp[hnr]
   have K1:Hid (Calls Tryz.prog 184 #[.pointer (some ⟨g,0,none⟩)] wc fun e w'=>e=.returned (.int .i64 (lft len r4.2))/\Hid (RS Wb w' g a' len ca zs r4.2/\wc.grownBy w' (some g))):=KL.out wc r4.2 HC.out.rs
   have K2:Hid (∀W,RS Wb W g a' len ca zs r4.2->Calls Tryz.prog 183 #[.pointer (some ⟨g,0,none⟩),.int .i64 (lft len r4.2)] W fun e w'=>∃s:Sl,e=.returned (.slice s.a s.n s.c)/\Hid (BOwn Wb.heap.size w' s (tk zs r4.2 (lft len r4.2))/\RS Wb w' g a' len ca zs (mv len r4.2 (lft len r4.2))/\W.grownBy w' (some g))):=fun W hW=>KT.out W r4.2 _ hW
   have HPR2:Hid (PR=(⟨r1.1++r3.1,r2.1,r4.1,tk zs r4.2 (lft len r4.2)⟩,mv len r4.2 (lft len r4.2))):=by
    have e:=HPR.out
    rw[if_neg hnr] at e
    exact e
   clear HPR HN
   obtain ⟨z,hz⟩:∃z,lft len r4.2=z:=⟨_,rfl⟩
   rw[hz] at K1 K2 HPR2
   clear hz
   go_wp2_with fail
   refine K1.out.mono ?_
   rintro e W7 ⟨rfl,H7⟩
   go_wp2_with fail
   refine (K2.out _ H7.out.1).mono ?_
   rintro e W8 ⟨s8,rfl,H8⟩
   have HC8:Hid (CutS Wb W8 g a' len ca zs (mv len r4.2 z) D ⟨tn,su,sx,⟨none,0,0⟩⟩ ⟨r1.1++r3.1,r2.1,r4.1,[]⟩):=(HC.out.rd H7.out.1 H7.out.2).rd H8.out.2.1 H8.out.2.2
   have HQ:Hid (CutS Wb (W8.setCell ⟨D,3,none⟩ (.slice s8.a s8.n s8.c)) g a' len ca zs PR.2 D ⟨tn,su,sx,s8⟩ PR.1):=by
    rw[HPR2.out]
    exact HC8.out.raw H8.out.1
   have c3:=HC8.out.blk.box.2.2.2.1
   have c4:=HC8.out.blk.fz 3
   have c5:=HC8.out.blk.lt
   simp only at c3
   clear HC HPR2 K1 K2 H7 H8 f7
   obtain ⟨d,st⟩:=PR
   obtain ⟨a8,n8,c8⟩:=s8
   simp only at HQ ⊢
   go_upto_region 8 with fail
   generalize W8.setCell ⟨D,3,none⟩ (.slice a8 n8 c8)=W9 at*
   clear HC8 c3 c4 c5
   have d0:W9.cell? ⟨D,0,none⟩=some (.slice tn.a tn.n tn.c):=HQ.out.blk.box.1
   have d1:W9.cell? ⟨D,1,none⟩=some (.slice su.a su.n su.c):=HQ.out.blk.box.2.1
   have d2:W9.cell? ⟨D,2,none⟩=some (.slice sx.a sx.n sx.c):=HQ.out.blk.box.2.2.1
   have d3:W9.cell? ⟨D,3,none⟩=some (.slice a8 n8 c8):=HQ.out.blk.box.2.2.2.1
   have HQD:Hid (∀W,W9.grownBy W (some g)->DBlk W D ⟨tn,su,sx,⟨a8,n8,c8⟩⟩):=fun W hW=>HQ.out.blk.call hW (Nat.lt_of_lt_of_le HQ.out.rs.gl HQ.out.low)
   have HVD:Hid (RS Wb W9.drew g a' len ca zs st):=HQ.out.rs.below (Below.refl _ _).drew
   have hDb:¬ b+1=D:=by have h1:=HBB.out.2.2.2.2.2;have h2:=HQ.out.low;omega
   have hDb2:¬ D=b+1:=by omega
   cases st with
   |none=>
    have KLs:=KL.out _ none HVD.out
    have K1:Hid (Calls Tryz.prog 184 #[.pointer (some ⟨g,0,none⟩)] W9.drew fun e w'=>e=.returned (.int .i64 0)/\Hid (RS Wb w' g a' len ca zs none/\W9.drew.grownBy w' (some g))):=KLs
    have K2:Hid (∀W,RS Wb W g a' len ca zs none->Calls Tryz.prog 185 #[.pointer (some ⟨g,0,none⟩)] W fun e w'=>e=.returned (.bool true)/\Hid (RS Wb w' g a' len ca zs none/\W.grownBy w' (some g))):=fun W hW=>KB.out W none hW
    clear KL KB KT KLs
    go_wp2_with fail
    go_region_held3 (fun W=>W.cell? ⟨D,0,none⟩=some (.slice tn.a tn.n tn.c)/\W.cell? ⟨D,1,none⟩=some (.slice su.a su.n su.c)/\W.cell? ⟨D,2,none⟩=some (.slice sx.a sx.n sx.c)/\W.cell? ⟨D,3,none⟩=some (.slice a8 n8 c8)) (exact ⟨by go_keep,by go_keep,by go_keep,by go_keep⟩) (first
     |(go_at_call 184;refine K1.out.mono ?_;rintro e V1 ⟨rfl,H1⟩;have HG1:Hid (W9.grownBy V1 (some g)):=grown2 (below_grown (Below.refl _ _).drew) H1.out.2;have e0:V1.cell? ⟨D,0,none⟩=some (.slice tn.a tn.n tn.c):=(HQD.out V1 HG1.out).box.1;have e1:V1.cell? ⟨D,1,none⟩=some (.slice su.a su.n su.c):=(HQD.out V1 HG1.out).box.2.1;have e2:V1.cell? ⟨D,2,none⟩=some (.slice sx.a sx.n sx.c):=(HQD.out V1 HG1.out).box.2.2.1;have e3:V1.cell? ⟨D,3,none⟩=some (.slice a8 n8 c8):=(HQD.out V1 HG1.out).box.2.2.2.1;have er0:V1.cell? ⟨b+1,0,none⟩=some (.slice none 0 0):=(HRB.out V1 H1.out.1.kp).box.1;have ez0:=(HRB.out V1 H1.out.1.kp).fz 0;have er1:V1.cell? ⟨b+1,1,none⟩=some (.slice none 0 0):=(HRB.out V1 H1.out.1.kp).box.2.1;have ez1:=(HRB.out V1 H1.out.1.kp).fz 1;have er2:V1.cell? ⟨b+1,2,none⟩=some (.slice none 0 0):=(HRB.out V1 H1.out.1.kp).box.2.2.1;have ez2:=(HRB.out V1 H1.out.1.kp).fz 2;have er3:V1.cell? ⟨b+1,3,none⟩=some (.slice none 0 0):=(HRB.out V1 H1.out.1.kp).box.2.2.2.1;have ez3:=(HRB.out V1 H1.out.1.kp).fz 3;have el:b+1<V1.heap.size:=(HRB.out V1 H1.out.1.kp).lt)
     |(go_at_call 185;refine (K2.out _ H1.out.1).mono ?_;rintro e V2 ⟨rfl,H2⟩;have HV2:Hid (RS Wb V2 g a' len ca zs none/\W9.grownBy V2 (some g)):=⟨H2.out.1,grown2 HG1.out H2.out.2⟩;have f0:V2.cell? ⟨D,0,none⟩=some (.slice tn.a tn.n tn.c):=(HQD.out V2 HV2.out.2).box.1;have f1:V2.cell? ⟨D,1,none⟩=some (.slice su.a su.n su.c):=(HQD.out V2 HV2.out.2).box.2.1;have f2:V2.cell? ⟨D,2,none⟩=some (.slice sx.a sx.n sx.c):=(HQD.out V2 HV2.out.2).box.2.2.1;have f3:V2.cell? ⟨D,3,none⟩=some (.slice a8 n8 c8):=(HQD.out V2 HV2.out.2).box.2.2.2.1;have fr0:V2.cell? ⟨b+1,0,none⟩=some (.slice none 0 0):=(HRB.out V2 H2.out.1.kp).box.1;have fz0:=(HRB.out V2 H2.out.1.kp).fz 0;have fr1:V2.cell? ⟨b+1,1,none⟩=some (.slice none 0 0):=(HRB.out V2 H2.out.1.kp).box.2.1;have fz1:=(HRB.out V2 H2.out.1.kp).fz 1;have fr2:V2.cell? ⟨b+1,2,none⟩=some (.slice none 0 0):=(HRB.out V2 H2.out.1.kp).box.2.2.1;have fz2:=(HRB.out V2 H2.out.1.kp).fz 2;have fr3:V2.cell? ⟨b+1,3,none⟩=some (.slice none 0 0):=(HRB.out V2 H2.out.1.kp).box.2.2.2.1;have fz3:=(HRB.out V2 H2.out.1.kp).fz 3;have fl:b+1<V2.heap.size:=(HRB.out V2 H2.out.1.kp).lt))
    all_goals
     go_wp2_with fail
     have HX:Hid (DBlk ((((V2.setCell ⟨b+1,0,none⟩ (.slice tn.a tn.n tn.c)).setCell ⟨b+1,1,none⟩ (.slice su.a su.n su.c)).setCell ⟨b+1,2,none⟩ (.slice sx.a sx.n sx.c)).setCell ⟨b+1,3,none⟩ (.slice a8 n8 c8)) (b+1) ⟨tn,su,sx,⟨a8,n8,c8⟩⟩/\DOwn w.heap.size ((((V2.setCell ⟨b+1,0,none⟩ (.slice tn.a tn.n tn.c)).setCell ⟨b+1,1,none⟩ (.slice su.a su.n su.c)).setCell ⟨b+1,2,none⟩ (.slice sx.a sx.n sx.c)).setCell ⟨b+1,3,none⟩ (.slice a8 n8 c8)) ⟨tn,su,sx,⟨a8,n8,c8⟩⟩ d/\Below w.heap.size w ((((V2.setCell ⟨b+1,0,none⟩ (.slice tn.a tn.n tn.c)).setCell ⟨b+1,1,none⟩ (.slice su.a su.n su.c)).setCell ⟨b+1,2,none⟩ (.slice sx.a sx.n sx.c)).setCell ⟨b+1,3,none⟩ (.slice a8 n8 c8))):=(HQ.out.rd HV2.out.1 HV2.out.2).ret (HRB.out V2 HV2.out.1.kp) HBB.out.2.2.2.2.2 (by have:=Hb.out;omega) (HBW.out V2 HV2.out.1.kp)
     generalize ((((V2.setCell ⟨b+1,0,none⟩ (.slice tn.a tn.n tn.c)).setCell ⟨b+1,1,none⟩ (.slice su.a su.n su.c)).setCell ⟨b+1,2,none⟩ (.slice sx.a sx.n sx.c)).setCell ⟨b+1,3,none⟩ (.slice a8 n8 c8))=W99 at*
     have k0:=HX.out.1.box.1
     have k1:=HX.out.1.box.2.1
     have k2:=HX.out.1.box.2.2.1
     have k3:=HX.out.1.box.2.2.2.1
     simp only at k0 k1 k2 k3
     exact bodyPost_ret (v:=.tuple #[.agg #[.slice tn.a tn.n tn.c,.slice su.a su.n su.c,.slice sx.a sx.n sx.c,.slice a8 n8 c8],.bool false]) (by simp[results,Tryz.results171,go_sem,k0,k1,k2,k3]) rfl ⟨⟨tn,su,sx,⟨a8,n8,c8⟩⟩,by simp,HX.out.2.1,HX.out.2.2⟩
   |some k=>
    have KLs:=KL.out _ (some k) HVD.out
    have hkl:k<=len:=HQ.out.rs.rst.le k rfl
    by_cases hke:k=len
    ·subst hke
     have hz:lft k (some k)=0:=by simp[lft]
     rw[hz] at KLs
     clear hz
     have K1:Hid (Calls Tryz.prog 184 #[.pointer (some ⟨g,0,none⟩)] W9.drew fun e w'=>e=.returned (.int .i64 0)/\Hid (RS Wb w' g a' k ca zs (some k)/\W9.drew.grownBy w' (some g))):=KLs
     have K2:Hid (∀W,RS Wb W g a' k ca zs (some k)->Calls Tryz.prog 185 #[.pointer (some ⟨g,0,none⟩)] W fun e w'=>e=.returned (.bool false)/\Hid (RS Wb w' g a' k ca zs (some k)/\W.grownBy w' (some g))):=fun W hW=>KB.out W (some k) hW
     clear KL KB KT KLs
     go_wp2_with fail
     go_region_held3 (fun W=>W.cell? ⟨D,0,none⟩=some (.slice tn.a tn.n tn.c)/\W.cell? ⟨D,1,none⟩=some (.slice su.a su.n su.c)/\W.cell? ⟨D,2,none⟩=some (.slice sx.a sx.n sx.c)/\W.cell? ⟨D,3,none⟩=some (.slice a8 n8 c8)) (exact ⟨by go_keep,by go_keep,by go_keep,by go_keep⟩) (first
      |(go_at_call 184;refine K1.out.mono ?_;rintro e V1 ⟨rfl,H1⟩;have HG1:Hid (W9.grownBy V1 (some g)):=grown2 (below_grown (Below.refl _ _).drew) H1.out.2;have e0:V1.cell? ⟨D,0,none⟩=some (.slice tn.a tn.n tn.c):=(HQD.out V1 HG1.out).box.1;have e1:V1.cell? ⟨D,1,none⟩=some (.slice su.a su.n su.c):=(HQD.out V1 HG1.out).box.2.1;have e2:V1.cell? ⟨D,2,none⟩=some (.slice sx.a sx.n sx.c):=(HQD.out V1 HG1.out).box.2.2.1;have e3:V1.cell? ⟨D,3,none⟩=some (.slice a8 n8 c8):=(HQD.out V1 HG1.out).box.2.2.2.1;have er0:V1.cell? ⟨b+1,0,none⟩=some (.slice none 0 0):=(HRB.out V1 H1.out.1.kp).box.1;have ez0:=(HRB.out V1 H1.out.1.kp).fz 0;have er1:V1.cell? ⟨b+1,1,none⟩=some (.slice none 0 0):=(HRB.out V1 H1.out.1.kp).box.2.1;have ez1:=(HRB.out V1 H1.out.1.kp).fz 1;have er2:V1.cell? ⟨b+1,2,none⟩=some (.slice none 0 0):=(HRB.out V1 H1.out.1.kp).box.2.2.1;have ez2:=(HRB.out V1 H1.out.1.kp).fz 2;have er3:V1.cell? ⟨b+1,3,none⟩=some (.slice none 0 0):=(HRB.out V1 H1.out.1.kp).box.2.2.2.1;have ez3:=(HRB.out V1 H1.out.1.kp).fz 3;have el:b+1<V1.heap.size:=(HRB.out V1 H1.out.1.kp).lt)
      |(go_at_call 185;refine (K2.out _ H1.out.1).mono ?_;rintro e V2 ⟨rfl,H2⟩;have HV2:Hid (RS Wb V2 g a' k ca zs (some k)/\W9.grownBy V2 (some g)):=⟨H2.out.1,grown2 HG1.out H2.out.2⟩;have f0:V2.cell? ⟨D,0,none⟩=some (.slice tn.a tn.n tn.c):=(HQD.out V2 HV2.out.2).box.1;have f1:V2.cell? ⟨D,1,none⟩=some (.slice su.a su.n su.c):=(HQD.out V2 HV2.out.2).box.2.1;have f2:V2.cell? ⟨D,2,none⟩=some (.slice sx.a sx.n sx.c):=(HQD.out V2 HV2.out.2).box.2.2.1;have f3:V2.cell? ⟨D,3,none⟩=some (.slice a8 n8 c8):=(HQD.out V2 HV2.out.2).box.2.2.2.1;have fr0:V2.cell? ⟨b+1,0,none⟩=some (.slice none 0 0):=(HRB.out V2 H2.out.1.kp).box.1;have fz0:=(HRB.out V2 H2.out.1.kp).fz 0;have fr1:V2.cell? ⟨b+1,1,none⟩=some (.slice none 0 0):=(HRB.out V2 H2.out.1.kp).box.2.1;have fz1:=(HRB.out V2 H2.out.1.kp).fz 1;have fr2:V2.cell? ⟨b+1,2,none⟩=some (.slice none 0 0):=(HRB.out V2 H2.out.1.kp).box.2.2.1;have fz2:=(HRB.out V2 H2.out.1.kp).fz 2;have fr3:V2.cell? ⟨b+1,3,none⟩=some (.slice none 0 0):=(HRB.out V2 H2.out.1.kp).box.2.2.2.1;have fz3:=(HRB.out V2 H2.out.1.kp).fz 3;have fl:b+1<V2.heap.size:=(HRB.out V2 H2.out.1.kp).lt))
     all_goals
      go_wp2_with fail
      have HX:Hid (DBlk ((((V2.setCell ⟨b+1,0,none⟩ (.slice tn.a tn.n tn.c)).setCell ⟨b+1,1,none⟩ (.slice su.a su.n su.c)).setCell ⟨b+1,2,none⟩ (.slice sx.a sx.n sx.c)).setCell ⟨b+1,3,none⟩ (.slice a8 n8 c8)) (b+1) ⟨tn,su,sx,⟨a8,n8,c8⟩⟩/\DOwn w.heap.size ((((V2.setCell ⟨b+1,0,none⟩ (.slice tn.a tn.n tn.c)).setCell ⟨b+1,1,none⟩ (.slice su.a su.n su.c)).setCell ⟨b+1,2,none⟩ (.slice sx.a sx.n sx.c)).setCell ⟨b+1,3,none⟩ (.slice a8 n8 c8)) ⟨tn,su,sx,⟨a8,n8,c8⟩⟩ d/\Below w.heap.size w ((((V2.setCell ⟨b+1,0,none⟩ (.slice tn.a tn.n tn.c)).setCell ⟨b+1,1,none⟩ (.slice su.a su.n su.c)).setCell ⟨b+1,2,none⟩ (.slice sx.a sx.n sx.c)).setCell ⟨b+1,3,none⟩ (.slice a8 n8 c8))):=(HQ.out.rd HV2.out.1 HV2.out.2).ret (HRB.out V2 HV2.out.1.kp) HBB.out.2.2.2.2.2 (by have:=Hb.out;omega) (HBW.out V2 HV2.out.1.kp)
      generalize ((((V2.setCell ⟨b+1,0,none⟩ (.slice tn.a tn.n tn.c)).setCell ⟨b+1,1,none⟩ (.slice su.a su.n su.c)).setCell ⟨b+1,2,none⟩ (.slice sx.a sx.n sx.c)).setCell ⟨b+1,3,none⟩ (.slice a8 n8 c8))=W99 at*
      have k0:=HX.out.1.box.1
      have k1:=HX.out.1.box.2.1
      have k2:=HX.out.1.box.2.2.1
      have k3:=HX.out.1.box.2.2.2.1
      simp only at k0 k1 k2 k3
      exact bodyPost_ret (v:=.tuple #[.agg #[.slice tn.a tn.n tn.c,.slice su.a su.n su.c,.slice sx.a sx.n sx.c,.slice a8 n8 c8],.bool true]) (by simp[results,Tryz.results171,go_sem,k0,k1,k2,k3]) rfl ⟨⟨tn,su,sx,⟨a8,n8,c8⟩⟩,by simp,HX.out.2.1,HX.out.2.2⟩
    ·obtain ⟨m,hm2⟩:∃m:Nat,len=k+m+1:=⟨len - k - 1,by omega⟩
     have hz:lft len (some k)=(m:Int)+1:=by
      show (len:Int) - (k:Int)=_
      omega
     rw[hz] at KLs
     clear hz hm2
     have hm0:¬ ((m:Int)+1=0):=by omega
     have hm1:((m:Int)+1 == 0)=false:=by simpa using hm0
     have K1:Hid (Calls Tryz.prog 184 #[.pointer (some ⟨g,0,none⟩)] W9.drew fun e w'=>e=.returned (.int .i64 ((m:Int)+1))/\Hid (RS Wb w' g a' len ca zs (some k)/\W9.drew.grownBy w' (some g))):=KLs
     clear KL KB KT KLs
     go_wp2_with fail
     first
      |(go_region_with (first
      |(go_at_call 184;refine K1.out.mono ?_;rintro e V2 ⟨rfl,HV2⟩;have HV3:Hid (W9.grownBy V2 (some g)):=grown2 (below_grown (Below.refl _ _).drew) HV2.out.2;have e0:V2.cell? ⟨D,0,none⟩=some (.slice tn.a tn.n tn.c):=(HQD.out V2 HV3.out).box.1;have e1:V2.cell? ⟨D,1,none⟩=some (.slice su.a su.n su.c):=(HQD.out V2 HV3.out).box.2.1;have e2:V2.cell? ⟨D,2,none⟩=some (.slice sx.a sx.n sx.c):=(HQD.out V2 HV3.out).box.2.2.1;have e3:V2.cell? ⟨D,3,none⟩=some (.slice a8 n8 c8):=(HQD.out V2 HV3.out).box.2.2.2.1;have er0:V2.cell? ⟨b+1,0,none⟩=some (.slice none 0 0):=(HRB.out V2 HV2.out.1.kp).box.1;have ez0:=(HRB.out V2 HV2.out.1.kp).fz 0;have er1:V2.cell? ⟨b+1,1,none⟩=some (.slice none 0 0):=(HRB.out V2 HV2.out.1.kp).box.2.1;have ez1:=(HRB.out V2 HV2.out.1.kp).fz 1;have er2:V2.cell? ⟨b+1,2,none⟩=some (.slice none 0 0):=(HRB.out V2 HV2.out.1.kp).box.2.2.1;have ez2:=(HRB.out V2 HV2.out.1.kp).fz 2;have er3:V2.cell? ⟨b+1,3,none⟩=some (.slice none 0 0):=(HRB.out V2 HV2.out.1.kp).box.2.2.2.1;have ez3:=(HRB.out V2 HV2.out.1.kp).fz 3;have el:b+1<V2.heap.size:=(HRB.out V2 HV2.out.1.kp).lt)))
      |fail
     all_goals
      go_wp2_with fail
      have HX:Hid (DBlk ((((V2.setCell ⟨b+1,0,none⟩ (.slice tn.a tn.n tn.c)).setCell ⟨b+1,1,none⟩ (.slice su.a su.n su.c)).setCell ⟨b+1,2,none⟩ (.slice sx.a sx.n sx.c)).setCell ⟨b+1,3,none⟩ (.slice a8 n8 c8)) (b+1) ⟨tn,su,sx,⟨a8,n8,c8⟩⟩/\DOwn w.heap.size ((((V2.setCell ⟨b+1,0,none⟩ (.slice tn.a tn.n tn.c)).setCell ⟨b+1,1,none⟩ (.slice su.a su.n su.c)).setCell ⟨b+1,2,none⟩ (.slice sx.a sx.n sx.c)).setCell ⟨b+1,3,none⟩ (.slice a8 n8 c8)) ⟨tn,su,sx,⟨a8,n8,c8⟩⟩ d/\Below w.heap.size w ((((V2.setCell ⟨b+1,0,none⟩ (.slice tn.a tn.n tn.c)).setCell ⟨b+1,1,none⟩ (.slice su.a su.n su.c)).setCell ⟨b+1,2,none⟩ (.slice sx.a sx.n sx.c)).setCell ⟨b+1,3,none⟩ (.slice a8 n8 c8))):=(HQ.out.rd HV2.out.1 HV3.out).ret (HRB.out V2 HV2.out.1.kp) HBB.out.2.2.2.2.2 (by have:=Hb.out;omega) (HBW.out V2 HV2.out.1.kp)
      generalize ((((V2.setCell ⟨b+1,0,none⟩ (.slice tn.a tn.n tn.c)).setCell ⟨b+1,1,none⟩ (.slice su.a su.n su.c)).setCell ⟨b+1,2,none⟩ (.slice sx.a sx.n sx.c)).setCell ⟨b+1,3,none⟩ (.slice a8 n8 c8))=W99 at*
      have k0:=HX.out.1.box.1
      have k1:=HX.out.1.box.2.1
      have k2:=HX.out.1.box.2.2.1
      have k3:=HX.out.1.box.2.2.2.1
      simp only at k0 k1 k2 k3
      exact bodyPost_ret (v:=.tuple #[.agg #[.slice tn.a tn.n tn.c,.slice su.a su.n su.c,.slice sx.a sx.n sx.c,.slice a8 n8 c8],.bool false]) (by simp[results,Tryz.results171,go_sem,k0,k1,k2,k3]) rfl ⟨⟨tn,su,sx,⟨a8,n8,c8⟩⟩,by simp,HX.out.2.1,HX.out.2.2⟩
theorem nread_small(zs:List Int)(p:Int):(nread zs p).1.length<=255:=by
 unfold nread
 split
 ·simp
 ·split
  ·simp
  ·split
   ·rename_i h
    have h1:=(nck_small h).1
    have h2:=nsz_len ‹List ByteArray›
    simp only
    omega
   ·simp
theorem pnms_small(zs:List Int)(len:Nat)(st:Option Nat):∀k,∀n∈(pnms zs len st k).1,n.length<=255
 |0=>by simp[pnms]
 |k+1=>by
  intro n hn
  simp only[pnms,List.mem_append,List.mem_singleton] at hn
  rcases hn with hn|hn
  ·exact pnms_small zs len st k n hn
  ·subst hn;exact nread_small _ _
theorem ptxF_small(zs:List Int):∀(k:Nat) (st:Option Nat),(ptxF zs zs.length k st).1.length<=k/\∀s∈(ptxF zs zs.length k st).1,s.size<=zs.length
 |0,st=>by simp[ptxF]
 |k+1,st=>by
  by_cases h:0<lft zs.length st
  ·have ih:=ptxF_small zs k (mv zs.length (mv zs.length st 1) (val (tk zs st 1)))
   unfold ptxF
   rw[if_pos h]
   refine ⟨by simp;exact ih.1,?_⟩
   intro s hs
   simp only[List.mem_cons] at hs
   rcases hs with rfl|hs
   ·rw[lb_size];exact tk_size zs zs.length rfl _ _
   ·exact ih.2 s hs
  ·rw[ptxF_end zs zs.length (k+1) st h];simp
theorem tsum_small(l:List ByteArray)(m:Nat)(h:∀s∈l,s.size<=m):(l.map tz).sum<=l.length*(m+1):=by
 have:=sum_le (l.map tz) (m+1) (by
  intro x hx
  obtain ⟨s,hs,rfl⟩:=List.mem_map.1 hx
  have:=h s hs
  simp only[tz];omega)
 simpa using this
theorem pread_bd(t:Nat)(zs:List Int)(hl:zs.length<=65535):Bd (pread (fs t) zs zs.length).1:=by
 have hfc:(fs t).nf<=(fs t).nn/\(fs t).nn<=2/\(fs t).nu<=5:=by
  rcases fs_cases t with ⟨_,e⟩|⟨_,e⟩|⟨_,e⟩|⟨_,e⟩|⟨_,e⟩|⟨_,e⟩|⟨_,e⟩|⟨_,e⟩|⟨_,e⟩ <;> rw[e] <;> simp
 refine ⟨?_,?_,?_,?_,?_⟩
 ·show (_++_:List (List ByteArray)).length<=1000
  rw[List.length_append,pnms_len,pnms_len];omega
 ·intro x hx
  have hx':x∈(_++_:List (List ByteArray)):=hx
  rcases List.mem_append.1 hx' with h|h
  ·have:=pnms_small _ _ _ _ x h;omega
  ·have:=pnms_small _ _ _ _ x h;omega
 ·show (pnus _ _ _ _ _).1.length<=1000
  rw[pnus_len];omega
 ·have h:∀st,((ptxs (fs t) zs zs.length st).1.length<=65537/\∀s∈(ptxs (fs t) zs zs.length st).1,s.size<=65535):=by
   intro st
   unfold ptxs
   split
   ·have:=ptxF_small zs (zs.length+1) st
    exact ⟨by omega,fun s hs=>by have:=this.2 s hs;omega⟩
   ·split
    ·refine ⟨by rw[ptx2_len];omega,?_⟩
     intro s hs
     simp only[ptx2,List.mem_cons,List.not_mem_nil,or_false] at hs
     rcases hs with rfl|rfl
     ·have:=tk_size zs zs.length rfl (mv zs.length st 1) (val (tk zs st 1))
      rw[lb_size];omega
     ·have:=tk_size zs zs.length rfl (mv zs.length (mv zs.length st 1) (val (tk zs st 1))) (lft zs.length (mv zs.length (mv zs.length st 1) (val (tk zs st 1))))
      rw[lb_size];omega
    ·simp
  have h2:=h (pnms zs zs.length (pnus zs zs.length (pnms zs zs.length (some 0) (fs t).nf).2 (fs t).wd (fs t).nu).2 ((fs t).nn - (fs t).nf)).2
  have h3:=tsum_small _ 65535 h2.2
  show ((ptxs (fs t) zs zs.length (pnms zs zs.length (pnus zs zs.length (pnms zs zs.length (some 0) (fs t).nf).2 (fs t).wd (fs t).nu).2 ((fs t).nn - (fs t).nf)).2).1.map tz).sum<=_
  have h4:=Nat.mul_le_mul_right (65535+1) h2.1
  omega
 ·show (List.length (if (fs t).nr=0 then (([]:List Int),_) else (_,_)).1)<=_
  split
  ·simp
  ·have:=tk_size zs zs.length rfl (ptxs (fs t) zs zs.length (pnms zs zs.length (pnus zs zs.length (pnms zs zs.length (some 0) (fs t).nf).2 (fs t).wd (fs t).nu).2 ((fs t).nn - (fs t).nf)).2).2 (lft zs.length (ptxs (fs t) zs zs.length (pnms zs zs.length (pnus zs zs.length (pnms zs zs.length (some 0) (fs t).nf).2 (fs t).wd (fs t).nu).2 ((fs t).nn - (fs t).nf)).2).2)
   simp only
   omega
def nilD:Dat:=⟨[],[],[],[]⟩
def readF(t:Nat)(zs:List Int):Dat × Int:=if mayT t then (if zs.length<=65535 then (match dreadF t zs with|some d=>(d,0)|none=>(nilD,8)) else (nilD,8)) else (nilD,6)
def RdP(r:Dat × Int)(w:World)(e:Ending)(w':World):Prop:=∃x:DA,e=.returned (.tuple #[.agg #[.slice x.p1.a x.p1.n x.p1.c,.slice x.p2.a x.p2.n x.p2.c,.slice x.p3.a x.p3.n x.p3.c,.slice x.p4.a x.p4.n x.p4.c],.int .i64 r.2])/\Hid (DOwn w.heap.size w' x r.1/\Below w.heap.size w w')
theorem nil_down(B:Nat)(w:World):DOwn B w nilDA nilD:=⟨OwnN.nil B w,nil_uown B w,⟨[],OwnT.nil _ _ _,rfl⟩,bown_nil _ _⟩
theorem rdp_nil{w w':World}{c:Int}(hb:Below w.heap.size w w'):RdP (nilD,c) w (.returned (.tuple #[.agg #[.slice none 0 0,.slice none 0 0,.slice none 0 0,.slice none 0 0],.int .i64 c])) w':=⟨nilDA,rfl,nil_down _ _,hb⟩
theorem readF_at(t:Nat)(zs:List Int)(hb:∀z∈zs,0<=z/\z<=255)(hm:mayT t=true)(hl:zs.length<=65535):readF t zs=if (pread (fs t) zs zs.length).2=some zs.length then (if checkF t (pread (fs t) zs zs.length).1=0 then ((pread (fs t) zs zs.length).1,0) else (nilD,8)) else (nilD,8):=by
 unfold readF
 rw[if_pos hm,if_pos hl,<- pread_doc t zs hb]
 by_cases h1:(pread (fs t) zs zs.length).2=some zs.length
 ·by_cases h2:checkF t (pread (fs t) zs zs.length).1=0
  ·rw[if_pos ⟨h1,h2⟩,if_pos h1,if_pos h2]
  ·rw[if_neg (fun h=>h2 h.2),if_pos h1,if_neg h2]
 ·rw[if_neg (fun h=>h1 h.1),if_neg h1]
theorem read5_no(t:Nat)(a:Option Addr)(len cap:Nat)(zs:List Int)(w:World)(hl:zs.length=len)(hlm:len<=9223372036854775807)(h:mayT t=false∨65535<len) :
  Calls Tryz.prog 153 #[.int .u16 t,.slice a len cap] w (RdP (readF t zs) w):=by
 have KH:Hid (∀W,Calls Tryz.prog 137 #[.int .u16 t] W fun e w'=>e=.returned (.bool (mayT t))/\w'=W):=fun W=>hasdata_any t W
 by_cases hm:mayT t=false
 ·have e:readF t zs=(nilD,6):=by unfold readF;rw[if_neg (by simp[hm])]
  rw[e]
  rw[hm] at KH
  clear e
  go_enter Tryz.func153,Tryz.ntmps153
  go_wp2_with (go_at_call 137;refine (KH.out _).mono ?_;rintro e w' ⟨rfl,rfl⟩)
  exact bodyPost_ret (v:=.tuple #[.agg #[.slice none 0 0,.slice none 0 0,.slice none 0 0,.slice none 0 0],.int .i64 6]) (by simp[results,Tryz.results153,go_sem]) rfl (rdp_nil (new_below _ _))
 ·have hm':mayT t=true:=by simpa using hm
  have hgt:65535<len:=h.resolve_left hm
  have hgt':(65535:Int)<(len:Int):=by omega
  have e:readF t zs=(nilD,8):=by unfold readF;rw[if_pos hm',if_neg (by omega)]
  rw[e]
  rw[hm'] at KH
  clear e
  go_enter Tryz.func153,Tryz.ntmps153
  go_wp2_with (go_at_call 137;refine (KH.out _).mono ?_;rintro e w' ⟨rfl,rfl⟩)
  exact bodyPost_ret (v:=.tuple #[.agg #[.slice none 0 0,.slice none 0 0,.slice none 0 0,.slice none 0 0],.int .i64 8]) (by simp[results,Tryz.results153,go_sem]) rfl (rdp_nil (new_below _ _))
theorem ret4{w W:World}{b:Nat}{y:DA}(h:DBlk W b y)(hb:Below w.heap.size w W)(hw:w.heap.size<=b)(x:DA):DBlk (set4 W b x) b x/\Below w.heap.size w (set4 W b x):=
 ⟨set4_blk h x,(((hb.setCell (p:=⟨b,0,none⟩) hw _).setCell (p:=⟨b,1,none⟩) hw _).setCell (p:=⟨b,2,none⟩) hw _).setCell (p:=⟨b,3,none⟩) hw _⟩
theorem DOwn.ret4{B B':Nat}{W:World}{b:Nat}{x:DA}{d:Dat}(h:DOwn B W x d)(hb:b<B)(hB:B'<=B):DOwn B' (set4 W b x) x d:=(h.keep (fun j hj _=>set4_off W b x j (by omega))).mono hB
theorem DOwn.stays{B:Nat}{w w':World}{x:DA}{d:Dat}(h:DOwn B w x d)(hb:Below w.heap.size w w'):DOwn B w' x d:=h.keep fun j _ hj=>hb.block j hj
theorem read5_in(t:Nat)(a:Option Addr)(len cap:Nat)(zs:List Int)(w:World)(hr:Rd w a zs)(hl:zs.length=len)(hm:len<=65535)(hc:len<=cap/\cap<=9223372036854775807)(hnil:a=none->cap=0)(hmay:mayT t=true) :
  Calls Tryz.prog 153 #[.int .u16 t,.slice a len cap] w (RdP (readF t zs) w):=by
 have KH:Hid (∀W,Calls Tryz.prog 137 #[.int .u16 t] W fun e w'=>e=.returned (.bool true)/\w'=W):=fun W=>by have:=hasdata_any t W;rw[hmay] at this;exact this
 have KO:Hid (∀W,Calls Tryz.prog 138 #[.int .u16 t] W fun e w'=>e=.returned (.agg #[.int .i64 (fs t).nn,.int .i64 (fs t).nf,.int .i64 (fs t).nu,.int .i64 (fs t).wd,.int .i64 (fs t).nt,.int .i64 (fs t).tg,.int .i64 (fs t).tl,.int .i64 (fs t).nr])/\Hid (Below W.heap.size W w')):=fun W=>fieldsof_any t W
 have KR:Hid (∀W,Rd W a zs->Calls Tryz.prog 171 #[.agg #[.int .i64 (fs t).nn,.int .i64 (fs t).nf,.int .i64 (fs t).nu,.int .i64 (fs t).wd,.int .i64 (fs t).nt,.int .i64 (fs t).tg,.int .i64 (fs t).tl,.int .i64 (fs t).nr],.slice a len cap] W fun e w'=>∃x:DA,e=.returned (.tuple #[.agg #[.slice x.p1.a x.p1.n x.p1.c,.slice x.p2.a x.p2.n x.p2.c,.slice x.p3.a x.p3.n x.p3.c,.slice x.p4.a x.p4.n x.p4.c],.bool (decide ((pread (fs t) zs len).2=some len))])/\Hid (DOwn W.heap.size w' x (pread (fs t) zs len).1/\Below W.heap.size W w')):=fun W hW=>pread_fields t a len cap zs W hW hl hm hc hnil
 have KC:Hid (∀W x,DRd W x (pread (fs t) zs len).1->Calls Tryz.prog 112 #[.int .u16 t,.agg #[.slice x.p1.a x.p1.n x.p1.c,.slice x.p2.a x.p2.n x.p2.c,.slice x.p3.a x.p3.n x.p3.c,.slice x.p4.a x.p4.n x.p4.c]] W fun e w'=>e=.returned (.int .i64 (checkF t (pread (fs t) zs len).1))/\Hid (Below W.heap.size W w')):=fun W x hd=>check_any t x _ W hd (by rw[<- hl];exact pread_bd t zs (by omega))
 have HRF:=readF_at t zs hr.2 hmay (by omega)
 rw[hl] at HRF
 have HB1:=new_below w (.cells #[.slice none 0 0,.slice none 0 0,.slice none 0 0,.slice none 0 0] 48)
 have HR1:Hid (Rd (w.alloc (.cells #[.slice none 0 0,.slice none 0 0,.slice none 0 0,.slice none 0 0] 48)) a zs):=hr.below HB1
 have HD1:Hid (DBlk (w.alloc (.cells #[.slice none 0 0,.slice none 0 0,.slice none 0 0,.slice none 0 0] 48)) w.heap.size nilDA/\Below w.heap.size w (w.alloc (.cells #[.slice none 0 0,.slice none 0 0,.slice none 0 0,.slice none 0 0] 48))):=⟨heap_alloc_new _ _,HB1⟩
 have HR:Hid (readF t zs=_):=HRF
 clear HRF hr HB1
 generalize readF t zs=RR at*
 generalize checkF t (pread (fs t) zs len).1=C at*
 generalize pread (fs t) zs len=PR at*
 generalize (fs t)=f at*
 obtain ⟨nn,nf,nu,wd,nt,tg,tl,nr⟩:=f
 obtain ⟨d,st⟩:=PR
 simp only at KO KR KC HR
 have hle:¬ (65535:Int)<(len:Int):=by omega
 go_enter Tryz.func153,Tryz.ntmps153
 go_wp2_with (go_at_call 137;refine (KH.out _).mono ?_;rintro e w' ⟨rfl,rfl⟩)
 generalize (w.alloc (.cells #[.slice none 0 0,.slice none 0 0,.slice none 0 0,.slice none 0 0] 48))=W1 at*
 obtain ⟨b,hb⟩:∃b,b=w.heap.size:=⟨_,rfl⟩
 rw[<- hb] at HD1 ⊢
 have Hb:Hid (b=w.heap.size):=hb
 clear hb
 refine (KO.out _).mono ?_
 rintro e W2 ⟨rfl,H2⟩
 have HD2:Hid (DBlk W2 b nilDA/\Below w.heap.size w W2/\Rd W2 a zs):=⟨HD1.out.1.same (H2.out.block b HD1.out.1.lt),by have:=HD1.out.2;rw[Hb.out] at this;exact this.trans (H2.out.mono this.size),HR1.out.below H2.out⟩
 clear HD1 HR1 H2 KO KH
 go_wp2_with fail
 refine (KR.out _ HD2.out.2.2).mono ?_
 rintro e W3 ⟨x,rfl,H3⟩
 have hn3:=new_below W3 (.cells #[.slice x.p1.a x.p1.n x.p1.c,.slice x.p2.a x.p2.n x.p2.c,.slice x.p3.a x.p3.n x.p3.c,.slice x.p4.a x.p4.n x.p4.c] 48)
 have HD3:Hid (DBlk (W3.alloc (.cells #[.slice x.p1.a x.p1.n x.p1.c,.slice x.p2.a x.p2.n x.p2.c,.slice x.p3.a x.p3.n x.p3.c,.slice x.p4.a x.p4.n x.p4.c] 48)) b nilDA/\DBlk (W3.alloc (.cells #[.slice x.p1.a x.p1.n x.p1.c,.slice x.p2.a x.p2.n x.p2.c,.slice x.p3.a x.p3.n x.p3.c,.slice x.p4.a x.p4.n x.p4.c] 48)) W3.heap.size x/\Below w.heap.size w (W3.alloc (.cells #[.slice x.p1.a x.p1.n x.p1.c,.slice x.p2.a x.p2.n x.p2.c,.slice x.p3.a x.p3.n x.p3.c,.slice x.p4.a x.p4.n x.p4.c] 48))/\DOwn W2.heap.size (W3.alloc (.cells #[.slice x.p1.a x.p1.n x.p1.c,.slice x.p2.a x.p2.n x.p2.c,.slice x.p3.a x.p3.n x.p3.c,.slice x.p4.a x.p4.n x.p4.c] 48)) x d/\b<W3.heap.size/\b<W2.heap.size):=by
  obtain ⟨p1,p2,p3⟩:=HD2.out
  obtain ⟨q1,q2⟩:=H3.out
  have hbl:=p1.lt
  refine ⟨(p1.same (q2.block b hbl)).same (hn3.block b (Nat.lt_of_lt_of_le hbl q2.size)),heap_alloc_new _ _,(p2.trans (q2.mono p2.size)).trans (hn3.mono (Nat.le_trans p2.size q2.size)),q1.stays hn3,Nat.lt_of_lt_of_le hbl q2.size,hbl⟩
 clear hn3 H3 KR
 have hbne:¬ b=W3.heap.size:=by have:=HD3.out.2.2.2.2;omega
 have hbne2:¬ W3.heap.size=b:=by omega
 by_cases hw:st=some len
 ·have hdw:decide (st=some len)=true:=by simp[hw]
  have HR2:Hid (RR=if C=0 then (d,0) else (nilD,8)):=by have:=HR.out;rw[if_pos hw] at this;exact this
  clear HR hw
  rw[hdw]
  clear hdw
  go_upto_region 6 with fail
  generalize (W3.alloc (.cells #[.slice x.p1.a x.p1.n x.p1.c,.slice x.p2.a x.p2.n x.p2.c,.slice x.p3.a x.p3.n x.p3.c,.slice x.p4.a x.p4.n x.p4.c] 48))=W4 at*
  obtain ⟨D,hD⟩:∃D,D=W3.heap.size:=⟨_,rfl⟩
  rw[<- hD] at HD3 hbne hbne2 ⊢
  clear hD
  have hbl:=HD3.out.2.2.2.2.2
  have KC2:=KC.out W4 x HD3.out.2.2.2.1.rd
  have HKC:Hid (Calls Tryz.prog 112 #[.int .u16 t,.agg #[.slice x.p1.a x.p1.n x.p1.c,.slice x.p2.a x.p2.n x.p2.c,.slice x.p3.a x.p3.n x.p3.c,.slice x.p4.a x.p4.n x.p4.c]] W4 fun e w'=>e=.returned (.int .i64 C)/\Hid (Below W4.heap.size W4 w')):=KC2
  clear KC KC2
  have d0:W4.cell? ⟨D,0,none⟩=some (.slice x.p1.a x.p1.n x.p1.c):=HD3.out.2.1.box.1
  have d1:W4.cell? ⟨D,1,none⟩=some (.slice x.p2.a x.p2.n x.p2.c):=HD3.out.2.1.box.2.1
  have d2:W4.cell? ⟨D,2,none⟩=some (.slice x.p3.a x.p3.n x.p3.c):=HD3.out.2.1.box.2.2.1
  have d3:W4.cell? ⟨D,3,none⟩=some (.slice x.p4.a x.p4.n x.p4.c):=HD3.out.2.1.box.2.2.2.1
  go_wp2_with fail
  refine HKC.out.mono ?_
  rintro e W5 ⟨rfl,H5⟩
  have HRB:Hid (DBlk W5 b nilDA):=HD3.out.1.same (H5.out.block b HD3.out.1.lt)
  have HBW:Hid (Below w.heap.size w W5):=HD3.out.2.2.1.trans (H5.out.mono HD3.out.2.2.1.size)
  have HDD:Hid (DBlk W5 D x):=HD3.out.2.1.same (H5.out.block D HD3.out.2.1.lt)
  have HOW:Hid (DOwn W2.heap.size W5 x d):=HD3.out.2.2.2.1.stays H5.out
  clear HKC HD3 H5 d0 d1 d2 d3
  have d0:W5.cell? ⟨D,0,none⟩=some (.slice x.p1.a x.p1.n x.p1.c):=HDD.out.box.1
  have d1:W5.cell? ⟨D,1,none⟩=some (.slice x.p2.a x.p2.n x.p2.c):=HDD.out.box.2.1
  have d2:W5.cell? ⟨D,2,none⟩=some (.slice x.p3.a x.p3.n x.p3.c):=HDD.out.box.2.2.1
  have d3:W5.cell? ⟨D,3,none⟩=some (.slice x.p4.a x.p4.n x.p4.c):=HDD.out.box.2.2.2.1
  have r0:W5.cell? ⟨b,0,none⟩=some (.slice none 0 0):=HRB.out.box.1
  have r1:W5.cell? ⟨b,1,none⟩=some (.slice none 0 0):=HRB.out.box.2.1
  have r2:W5.cell? ⟨b,2,none⟩=some (.slice none 0 0):=HRB.out.box.2.2.1
  have r3:W5.cell? ⟨b,3,none⟩=some (.slice none 0 0):=HRB.out.box.2.2.2.1
  have z0:=HRB.out.fz 0
  have z1:=HRB.out.fz 1
  have z2:=HRB.out.fz 2
  have z3:=HRB.out.fz 3
  have hl5:=HRB.out.lt
  by_cases hC:C=0
  ·have hC':(C != 0)=false:=by simp[hC]
   have HR2':Hid (RR=(d,0)):=by have:=HR2.out;rw[if_pos hC] at this;exact this
   clear HR2
   have HR2:Hid (RR=(d,0)):=HR2'.out
   clear HR2'
   have HC0:Hid (C=0):=hC
   clear hC
   go_wp2_with fail
   have HX:Hid (DBlk ((((W5.setCell ⟨b,0,none⟩ (.slice x.p1.a x.p1.n x.p1.c)).setCell ⟨b,1,none⟩ (.slice x.p2.a x.p2.n x.p2.c)).setCell ⟨b,2,none⟩ (.slice x.p3.a x.p3.n x.p3.c)).setCell ⟨b,3,none⟩ (.slice x.p4.a x.p4.n x.p4.c)) b x/\Below w.heap.size w ((((W5.setCell ⟨b,0,none⟩ (.slice x.p1.a x.p1.n x.p1.c)).setCell ⟨b,1,none⟩ (.slice x.p2.a x.p2.n x.p2.c)).setCell ⟨b,2,none⟩ (.slice x.p3.a x.p3.n x.p3.c)).setCell ⟨b,3,none⟩ (.slice x.p4.a x.p4.n x.p4.c))):=ret4 HRB.out HBW.out (by have:=Hb.out;omega) x
   have HY:Hid (DOwn w.heap.size ((((W5.setCell ⟨b,0,none⟩ (.slice x.p1.a x.p1.n x.p1.c)).setCell ⟨b,1,none⟩ (.slice x.p2.a x.p2.n x.p2.c)).setCell ⟨b,2,none⟩ (.slice x.p3.a x.p3.n x.p3.c)).setCell ⟨b,3,none⟩ (.slice x.p4.a x.p4.n x.p4.c)) x d):=(HOW.out).ret4 (by omega) (by have:=Hb.out;omega)
   clear HRB HBW
   generalize ((((W5.setCell ⟨b,0,none⟩ (.slice x.p1.a x.p1.n x.p1.c)).setCell ⟨b,1,none⟩ (.slice x.p2.a x.p2.n x.p2.c)).setCell ⟨b,2,none⟩ (.slice x.p3.a x.p3.n x.p3.c)).setCell ⟨b,3,none⟩ (.slice x.p4.a x.p4.n x.p4.c))=W9 at*
   have k0:=HX.out.1.box.1
   have k1:=HX.out.1.box.2.1
   have k2:=HX.out.1.box.2.2.1
   have k3:=HX.out.1.box.2.2.2.1
   try simp only at k0 k1 k2 k3
   exact bodyPost_ret (v:=.tuple #[.agg #[.slice x.p1.a x.p1.n x.p1.c,.slice x.p2.a x.p2.n x.p2.c,.slice x.p3.a x.p3.n x.p3.c,.slice x.p4.a x.p4.n x.p4.c],.int .i64 0]) (by simp[results,Tryz.results153,go_sem,k0,k1,k2,k3]) rfl (by rw[HR2.out];exact ⟨x,rfl,HY.out,HX.out.2⟩)
  ·have hC':(C != 0)=true:=by simp[hC]
   have HR2':Hid (RR=(nilD,8)):=by have:=HR2.out;rw[if_neg hC] at this;exact this
   clear HR2
   have HR2:Hid (RR=(nilD,8)):=HR2'.out
   clear HR2'
   clear hC
   go_wp2_with fail
   have HX:Hid (DBlk ((((W5.setCell ⟨b,0,none⟩ (.slice none 0 0)).setCell ⟨b,1,none⟩ (.slice none 0 0)).setCell ⟨b,2,none⟩ (.slice none 0 0)).setCell ⟨b,3,none⟩ (.slice none 0 0)) b nilDA/\Below w.heap.size w ((((W5.setCell ⟨b,0,none⟩ (.slice none 0 0)).setCell ⟨b,1,none⟩ (.slice none 0 0)).setCell ⟨b,2,none⟩ (.slice none 0 0)).setCell ⟨b,3,none⟩ (.slice none 0 0))):=ret4 HRB.out HBW.out (by have:=Hb.out;omega) nilDA
   have HY:Hid (DOwn w.heap.size ((((W5.setCell ⟨b,0,none⟩ (.slice none 0 0)).setCell ⟨b,1,none⟩ (.slice none 0 0)).setCell ⟨b,2,none⟩ (.slice none 0 0)).setCell ⟨b,3,none⟩ (.slice none 0 0)) nilDA nilD):=nil_down _ _
   clear HRB HBW
   generalize ((((W5.setCell ⟨b,0,none⟩ (.slice none 0 0)).setCell ⟨b,1,none⟩ (.slice none 0 0)).setCell ⟨b,2,none⟩ (.slice none 0 0)).setCell ⟨b,3,none⟩ (.slice none 0 0))=W9 at*
   have k0:=HX.out.1.box.1
   have k1:=HX.out.1.box.2.1
   have k2:=HX.out.1.box.2.2.1
   have k3:=HX.out.1.box.2.2.2.1
   try simp only at k0 k1 k2 k3
   exact bodyPost_ret (v:=.tuple #[.agg #[.slice none 0 0,.slice none 0 0,.slice none 0 0,.slice none 0 0],.int .i64 8]) (by simp[results,Tryz.results153,go_sem,k0,k1,k2,k3]) rfl (by rw[HR2.out];exact ⟨nilDA,rfl,HY.out,HX.out.2⟩)
 ·have hdw:decide (st=some len)=false:=by simp[hw]
  have HR2:Hid (RR=(nilD,8)):=by have:=HR.out;rw[if_neg hw] at this;exact this
  clear HR hw KC
  rw[hdw]
  clear hdw
  go_upto_region 6 with fail
  generalize (W3.alloc (.cells #[.slice x.p1.a x.p1.n x.p1.c,.slice x.p2.a x.p2.n x.p2.c,.slice x.p3.a x.p3.n x.p3.c,.slice x.p4.a x.p4.n x.p4.c] 48))=W4 at*
  obtain ⟨D,hD⟩:∃D,D=W3.heap.size:=⟨_,rfl⟩
  rw[<- hD] at HD3 hbne hbne2 ⊢
  clear hD
  have hbl:=HD3.out.2.2.2.2.2
  have HRB:Hid (DBlk W4 b nilDA):=HD3.out.1
  have HBW:Hid (Below w.heap.size w W4):=HD3.out.2.2.1
  have r0:W4.cell? ⟨b,0,none⟩=some (.slice none 0 0):=HRB.out.box.1
  have r1:W4.cell? ⟨b,1,none⟩=some (.slice none 0 0):=HRB.out.box.2.1
  have r2:W4.cell? ⟨b,2,none⟩=some (.slice none 0 0):=HRB.out.box.2.2.1
  have r3:W4.cell? ⟨b,3,none⟩=some (.slice none 0 0):=HRB.out.box.2.2.2.1
  have z0:=HRB.out.fz 0
  have z1:=HRB.out.fz 1
  have z2:=HRB.out.fz 2
  have z3:=HRB.out.fz 3
  have hl5:=HRB.out.lt
  go_wp2_with fail
  have HX:Hid (DBlk ((((W4.setCell ⟨b,0,none⟩ (.slice none 0 0)).setCell ⟨b,1,none⟩ (.slice none 0 0)).setCell ⟨b,2,none⟩ (.slice none 0 0)).setCell ⟨b,3,none⟩ (.slice none 0 0)) b nilDA/\Below w.heap.size w ((((W4.setCell ⟨b,0,none⟩ (.slice none 0 0)).setCell ⟨b,1,none⟩ (.slice none 0 0)).setCell ⟨b,2,none⟩ (.slice none 0 0)).setCell ⟨b,3,none⟩ (.slice none 0 0))):=ret4 HRB.out HBW.out (by have:=Hb.out;omega) nilDA
  have HY:Hid (DOwn w.heap.size ((((W4.setCell ⟨b,0,none⟩ (.slice none 0 0)).setCell ⟨b,1,none⟩ (.slice none 0 0)).setCell ⟨b,2,none⟩ (.slice none 0 0)).setCell ⟨b,3,none⟩ (.slice none 0 0)) nilDA nilD):=nil_down _ _
  clear HRB HBW
  generalize ((((W4.setCell ⟨b,0,none⟩ (.slice none 0 0)).setCell ⟨b,1,none⟩ (.slice none 0 0)).setCell ⟨b,2,none⟩ (.slice none 0 0)).setCell ⟨b,3,none⟩ (.slice none 0 0))=W9 at*
  have k0:=HX.out.1.box.1
  have k1:=HX.out.1.box.2.1
  have k2:=HX.out.1.box.2.2.1
  have k3:=HX.out.1.box.2.2.2.1
  try simp only at k0 k1 k2 k3
  exact bodyPost_ret (v:=.tuple #[.agg #[.slice none 0 0,.slice none 0 0,.slice none 0 0,.slice none 0 0],.int .i64 8]) (by simp[results,Tryz.results153,go_sem,k0,k1,k2,k3]) rfl (by rw[HR2.out];exact ⟨nilDA,rfl,HY.out,HX.out.2⟩)
theorem read5_any(t:Nat)(a:Option Addr)(len cap:Nat)(zs:List Int)(w:World)(hr:Rd w a zs)(hl:zs.length=len)(hc:len<=cap/\cap<=9223372036854775807)(hnil:a=none->cap=0) :
  Calls Tryz.prog 153 #[.int .u16 t,.slice a len cap] w (RdP (readF t zs) w):=by
 by_cases h:mayT t=true/\len<=65535
 ·exact read5_in t a len cap zs w hr hl h.2 hc hnil h.1
 ·refine read5_no t a len cap zs w hl (by omega) ?_
  by_cases hm:mayT t=true
  ·exact .inr (Nat.lt_of_not_le (fun h2=>h ⟨hm,h2⟩))
  ·exact .inl (by simpa using hm)
theorem plab_nsz(s:ByteArray)(hs:s.size<=1000000000):nsz (plab s).1<=1000000000000:=by
 unfold plab
 by_cases hd:s.toList=[46]
 ·rw[if_pos hd];decide
 ·rw[if_neg hd];exact lgo_nsz s hs
def nmay(l:List ByteArray):List ByteArray × Int:=(if nck l=0 then l else [],nck l)
theorem nparse_plab(s:ByteArray):nparse s=if (plab s).2.2=0 then (if (plab s).2.1 then nmay (plab s).1 else ([],5)) else ([],(plab s).2.2):=by
 unfold nparse plab nmay
 by_cases hd:s.toList=[46]
 ·rw[if_pos hd,if_pos hd]
  have:nck []=0:=by decide
  simp[this]
 ·rw[if_neg hd,if_neg hd]
  by_cases h0:(lgo (nums s) []).2.2=0
  ·rw[if_pos h0,if_pos h0]
   cases (lgo (nums s) []).2.1 with
   |false=>rfl
   |true=>
    simp only[if_true]
    by_cases hk:nck (lgo (nums s) []).1=0
    ·rw[if_pos hk,if_pos hk,hk]
    ·rw[if_neg hk,if_neg hk]
  ·rw[if_neg h0,if_neg h0]
theorem nrel_plab(s:ByteArray)(og:List ByteArray)(hk:nck og=0)(h1:¬ s.toList=[64]):nrel s og=if (plab s).2.2=0 then (if (plab s).2.1 then nmay (plab s).1 else njoin (plab s).1 og) else ([],(plab s).2.2):=by
 unfold nrel
 rw[if_pos hk,if_neg h1]
 by_cases hd:s.toList=[46]
 ·rw[if_pos hd]
  unfold plab nmay
  rw[if_pos hd]
  have:nck []=0:=by decide
  simp[this]
 ·rw[if_neg hd]
  have hp:=nparse_plab s
  have e:plab s=lgo (nums s) []:=by unfold plab;rw[if_neg hd]
  rw[e] at hp ⊢
  by_cases h0:(lgo (nums s) []).2.2=0
  ·rw[if_pos h0,if_pos h0]
   rw[if_pos h0] at hp
   cases hb:(lgo (nums s) []).2.1 with
   |false=>rfl
   |true=>rw[hb] at hp;simpa using hp
  ·rw[if_neg h0,if_neg h0]
theorem prel_any(s:ByteArray)(a:Option Addr)(n c:Nat)(og:List ByteArray)(w:World)(h:s.size<=1000000000)(h':Nm w a n og):Calls Tryz.prog 85 #[.string s,.slice a n c] w (NPost (nrel s og).1 (nrel s og).2 w):=by
 have KC:Hid (Calls Tryz.prog 17 #[.slice a n c] w fun e w'=>e=.returned (.int .i64 (nck og))/\w'=w):=pm_check c h'
 have HN:Hid (Nm w a n og):=h'
 by_cases hk:nck og=0
 ·rw[hk] at KC
  by_cases h1:s.toList=[64]
  ·have hp:nrel s og=(og,0):=by unfold nrel;rw[if_pos hk,if_pos h1]
   rw[hp]
   have h1t:(s.toList == [64])=true:=by simpa using h1
   clear hp h h' hk h1
   go_enter Tryz.func85,Tryz.ntmps85
   go_wp2_with fail
   refine KC.out.mono ?_
   rintro e w1 ⟨rfl,rfl⟩
   go_wp2_with fail
   refine (pm_copy c HN.out).mono ?_
   rintro e w2 ⟨v,ys,rfl,H2⟩
   go_wp2
   go_ret2
   exact ⟨v,ys,rfl,H2⟩
  have h1f:(s.toList == [64])=false:=by simpa using h1
  have KL:Hid (Calls Tryz.prog 108 #[.string s] w (LPost (plab s) w)):=plabels_any s w h
  have HZ:Hid (nsz (plab s).1<=1000000000000):=plab_nsz s h
  have HP:Hid (nrel s og=if (plab s).2.2=0 then (if (plab s).2.1 then nmay (plab s).1 else njoin (plab s).1 og) else ([],(plab s).2.2)):=nrel_plab s og hk h1
  obtain ⟨R,hR⟩:∃R,nrel s og=R:=⟨_,rfl⟩
  rw[hR] at HP ⊢
  clear hR h h' hk h1
  generalize plab s=r at*
  obtain ⟨l,b,k⟩:=r
  simp only at HP HZ
  by_cases hk:k=0
  ·rw[if_pos hk] at HP
   subst hk
   cases b with
   |true=>
    rw[if_pos rfl] at HP
    have e:=HP.out
    subst e
    clear HP
    go_enter Tryz.func85,Tryz.ntmps85
    go_wp2_with fail
    refine KC.out.mono ?_
    rintro e w1 ⟨rfl,rfl⟩
    go_wp2_with fail
    refine KL.out.mono ?_
    rintro e w2 ⟨v,ys,rfl,H2⟩
    obtain ⟨ao,hv,hao⟩:=H2.out.1.shape
    subst hv
    have KM:Hid (Calls Tryz.prog 28 #[.slice ao l.length ys.length] w2 fun e w'=>NPost (nmay l).1 (nmay l).2 w1 e w'):=may_own w1.heap.size w1 ao l.length ys.length l ys w2 rfl H2.out.1 H2.out.2.1 HZ.out H2.out.2.2 rfl
    generalize nmay l=R at*
    clear H2 KL KC
    go_wp2_with fail
    refine KM.out.mono ?_
    rintro e w3 ⟨v3,ys3,rfl,H3⟩
    go_wp2
    go_ret2
    exact ⟨v3,ys3,rfl,H3⟩
   |false=>
    rw[if_neg (by decide)] at HP
    go_enter Tryz.func85,Tryz.ntmps85
    go_wp2_with fail
    refine KC.out.mono ?_
    rintro e w1 ⟨rfl,rfl⟩
    go_wp2_with fail
    refine KL.out.mono ?_
    rintro e w2 ⟨v,ys,rfl,H2⟩
    obtain ⟨ao,hv,hao⟩:=H2.out.1.shape
    subst hv
    have hnm:Nm w2 ao l.length l:=⟨by have:=H2.out.1.rd l.length;rw[H2.out.2.1] at this;exact this,rfl,HZ.out⟩
    have KJ:Hid (Calls Tryz.prog 13 #[.slice ao l.length ys.length,.slice a n c] w2 (NPost (njoin l og).1 (njoin l og).2 w2)):=pjoin_any ao a l.length n ys.length c l og w2 hnm (HN.out.below H2.out.2.2)
    clear hnm
    have e:=HP.out
    subst e
    clear HP
    generalize njoin l og=jj at*
    go_wp2_with fail
    refine KJ.out.mono ?_
    rintro e w3 ⟨v3,ys3,rfl,H3⟩
    go_wp2
    go_ret2
    exact ⟨v3,ys3,rfl,H3.out.1.mono H2.out.2.2.size,H3.out.2.1,H2.out.2.2.trans (H3.out.2.2.mono H2.out.2.2.size)⟩
  ·rw[if_neg hk] at HP
   have e:=HP.out
   subst e
   have hq:(k != 0)=true:=bne_iff_ne.2 hk
   clear HP hk
   go_enter Tryz.func85,Tryz.ntmps85
   go_wp2_with fail
   refine KC.out.mono ?_
   rintro e w1 ⟨rfl,rfl⟩
   go_wp2_with fail
   refine KL.out.mono ?_
   rintro e w2 ⟨v,ys,rfl,H2⟩
   go_wp2
   go_ret2
   exact npost_none rfl H2.out.2.2
 ·have hp:nrel s og=([],nck og):=by unfold nrel;rw[if_neg hk]
  rw[hp]
  generalize nck og=q at*
  have hq:(q != 0)=true:=bne_iff_ne.2 hk
  clear h h' hk hp
  go_enter Tryz.func85,Tryz.ntmps85
  go_wp2_with fail
  refine KC.out.mono ?_
  rintro e w1 ⟨rfl,rfl⟩
  go_wp2
  go_ret2
  exact npost_none rfl (Below.refl _ _)
abbrev Wd:=ByteArray × Bool
def RdW(w:World)(a:Option Addr)(ws:List Wd):Prop:=
 ws=[]∨∃b o,a=some ⟨b,o,none⟩/\b<w.heap.size/\∀i (h:i<ws.length),w.cell? ⟨b,o+2*i,none⟩=some (.string ws[i].1)/\w.cell? ⟨b,o+2*i+1,none⟩=some (.bool ws[i].2)
theorem RdW.below{w w':World}{a:Option Addr}{ws:List Wd}(h:RdW w a ws)(hb:Below w.heap.size w w'):RdW w' a ws:=by
 rcases h with h|⟨b,o,h1,h2,h3⟩
 ·exact .inl h
 ·exact .inr ⟨b,o,h1,Nat.lt_of_lt_of_le h2 hb.size,fun i hi=>⟨(hb.cell (p:=⟨b,o+2*i,none⟩) h2).trans (h3 i hi).1,(hb.cell (p:=⟨b,o+2*i+1,none⟩) h2).trans (h3 i hi).2⟩⟩
theorem RdW.head{w:World}{a:Option Addr}{s:ByteArray}{q:Bool}{r:List Wd}(h:RdW w a ((s,q)::r)):∃b o,a=some ⟨b,o,none⟩/\b<w.heap.size/\w.cell? ⟨b,o,none⟩=some (.string s)/\w.cell? ⟨b,o+1,none⟩=some (.bool q)/\RdW w (some ⟨b,o+2,none⟩) r:=by
 rcases h with h|⟨b,o,h1,h2,h3⟩
 ·cases h
 ·refine ⟨b,o,h1,h2,(h3 0 (by simp)).1,(h3 0 (by simp)).2,?_⟩
  refine .inr ⟨b,o+2,rfl,h2,fun i hi=>?_⟩
  have:=h3 (i+1) (by simp;omega)
  rw[show o+2*(i+1)=o+2+2*i by omega] at this
  exact this
def RBk(w0 w:World)(wa:Option Addr)(n c:Nat)(oa:Option Addr)(on oc:Nat)(x:DA)(bad:Bool):Prop:=
 w.heap[w0.heap.size]?=some (.cells #[.slice wa n c,.slice oa on oc,.slice x.p1.a x.p1.n x.p1.c,.slice x.p2.a x.p2.n x.p2.c,.slice x.p3.a x.p3.n x.p3.c,.slice x.p4.a x.p4.n x.p4.c,.bool bad] 198 (0,0))
theorem RBk.lt{w0 w:World}{wa:Option Addr}{n c:Nat}{oa:Option Addr}{on oc:Nat}{x:DA}{bad:Bool}(h:RBk w0 w wa n c oa on oc x bad):w0.heap.size<w.heap.size:=(Array.getElem?_eq_some_iff.1 h).1
theorem RBk.cells{w0 w:World}{wa:Option Addr}{n c:Nat}{oa:Option Addr}{on oc:Nat}{x:DA}{bad:Bool}(h:RBk w0 w wa n c oa on oc x bad) :
  w.cell? ⟨w0.heap.size,0,none⟩=some (.slice wa n c)/\w.cell? ⟨w0.heap.size,1,none⟩=some (.slice oa on oc)/\w.cell? ⟨w0.heap.size,2,none⟩=some (.slice x.p1.a x.p1.n x.p1.c)/\w.cell? ⟨w0.heap.size,3,none⟩=some (.slice x.p2.a x.p2.n x.p2.c)/\w.cell? ⟨w0.heap.size,4,none⟩=some (.slice x.p3.a x.p3.n x.p3.c)/\w.cell? ⟨w0.heap.size,5,none⟩=some (.slice x.p4.a x.p4.n x.p4.c)/\w.cell? ⟨w0.heap.size,6,none⟩=some (.bool bad):=by
 unfold World.cell?
 rw[show w.heap[w0.heap.size]?=_ from h]
 exact ⟨rfl,rfl,rfl,rfl,rfl,rfl,rfl⟩
theorem RBk.fz{w0 w:World}{wa:Option Addr}{n c:Nat}{oa:Option Addr}{on oc:Nat}{x:DA}{bad:Bool}(h:RBk w0 w wa n c oa on oc x bad)(i:Nat):w.frozen? ⟨w0.heap.size,i,none⟩=false:=by
 unfold World.frozen?
 rw[show w.heap[w0.heap.size]?=_ from h]
 simp
structure RX(w0 w:World)(wa:Option Addr)(n c:Nat)(oa:Option Addr)(on oc:Nat)(x:DA)(bad:Bool)(d:Dat):Prop where
 blk:RBk w0 w wa n c oa on oc x bad
 own:DOwn (w0.heap.size+1) w x d
 bel:Below w0.heap.size w0 w
theorem RX.step{w0 w w':World}{wa:Option Addr}{n c:Nat}{oa:Option Addr}{on oc:Nat}{x:DA}{bad:Bool}{d:Dat}(h:RX w0 w wa n c oa on oc x bad d)(hb:Below w.heap.size w w'):RX w0 w' wa n c oa on oc x bad d:=
 ⟨(hb.block _ h.blk.lt).trans h.blk,h.own.stays hb,h.bel.trans (hb.mono h.bel.size)⟩
theorem RX.set{w0 w:World}{wa wa':Option Addr}{n c n' c':Nat}{oa:Option Addr}{on oc:Nat}{x x':DA}{bad bad':Bool}{d:Dat}(h:RX w0 w wa n c oa on oc x bad d)(i:Nat)(v:Value)
  (hb:RBk w0 (w.setCell ⟨w0.heap.size,i,none⟩ v) wa' n' c' oa on oc x' bad'):RBk w0 (w.setCell ⟨w0.heap.size,i,none⟩ v) wa' n' c' oa on oc x' bad'/\DOwn (w0.heap.size+1) (w.setCell ⟨w0.heap.size,i,none⟩ v) x d/\Below w0.heap.size w0 (w.setCell ⟨w0.heap.size,i,none⟩ v):=
 ⟨hb,h.own.keep (fun j hj _=>Below.heap_setCell _ _ _ j (by show j≠w0.heap.size;omega)),h.bel.setCell (show w0.heap.size<=(⟨w0.heap.size,i,none⟩:Addr).block from Nat.le_refl _) _⟩
theorem RBk.set0{w0 w:World}{wa:Option Addr}{n c:Nat}{oa:Option Addr}{on oc:Nat}{x:DA}{bad:Bool}(h:RBk w0 w wa n c oa on oc x bad)(wa':Option Addr)(n' c':Nat):RBk w0 (w.setCell ⟨w0.heap.size,0,none⟩ (.slice wa' n' c')) wa' n' c' oa on oc x bad:=by
 have:=heap_set h 0 (.slice wa' n' c');simpa [RBk] using this
theorem RBk.set2{w0 w:World}{wa:Option Addr}{n c:Nat}{oa:Option Addr}{on oc:Nat}{x:DA}{bad:Bool}(h:RBk w0 w wa n c oa on oc x bad)(s:Sl):RBk w0 (w.setCell ⟨w0.heap.size,2,none⟩ (.slice s.a s.n s.c)) wa n c oa on oc ⟨s,x.p2,x.p3,x.p4⟩ bad:=by
 have:=heap_set h 2 (.slice s.a s.n s.c);simpa [RBk] using this
theorem RBk.set3{w0 w:World}{wa:Option Addr}{n c:Nat}{oa:Option Addr}{on oc:Nat}{x:DA}{bad:Bool}(h:RBk w0 w wa n c oa on oc x bad)(s:Sl):RBk w0 (w.setCell ⟨w0.heap.size,3,none⟩ (.slice s.a s.n s.c)) wa n c oa on oc ⟨x.p1,s,x.p3,x.p4⟩ bad:=by
 have:=heap_set h 3 (.slice s.a s.n s.c);simpa [RBk] using this
theorem RBk.set4{w0 w:World}{wa:Option Addr}{n c:Nat}{oa:Option Addr}{on oc:Nat}{x:DA}{bad:Bool}(h:RBk w0 w wa n c oa on oc x bad)(s:Sl):RBk w0 (w.setCell ⟨w0.heap.size,4,none⟩ (.slice s.a s.n s.c)) wa n c oa on oc ⟨x.p1,x.p2,s,x.p4⟩ bad:=by
 have:=heap_set h 4 (.slice s.a s.n s.c);simpa [RBk] using this
theorem RBk.set5{w0 w:World}{wa:Option Addr}{n c:Nat}{oa:Option Addr}{on oc:Nat}{x:DA}{bad:Bool}(h:RBk w0 w wa n c oa on oc x bad)(s:Sl):RBk w0 (w.setCell ⟨w0.heap.size,5,none⟩ (.slice s.a s.n s.c)) wa n c oa on oc ⟨x.p1,x.p2,x.p3,s⟩ bad:=by
 have:=heap_set h 5 (.slice s.a s.n s.c);simpa [RBk] using this
theorem RBk.set6{w0 w:World}{wa:Option Addr}{n c:Nat}{oa:Option Addr}{on oc:Nat}{x:DA}{bad:Bool}(h:RBk w0 w wa n c oa on oc x bad)(b:Bool):RBk w0 (w.setCell ⟨w0.heap.size,6,none⟩ (.bool b)) wa n c oa on oc x b:=by
 have:=heap_set h 6 (.bool b);simpa [RBk] using this
def NxPost(s:ByteArray)(r:List Wd)(w0:World)(c:Nat)(oa:Option Addr)(on oc:Nat)(x:DA)(bad:Bool)(d:Dat)(e:Ending)(w':World):Prop:=
 ∃wa',e=.returned (.string s)/\Hid (RdW w0 wa' r)/\Hid (RX w0 w' wa' r.length (c - 1) oa on oc x bad d)
theorem next_ok(w0 w:World)(wa:Option Addr)(s:ByteArray)(q:Bool)(r:List Wd)(c:Nat)(oa:Option Addr)(on oc:Nat)(x:DA)(bad:Bool)(d:Dat)(hw:RdW w0 wa ((s,q)::r))(hc:r.length+1<=c)(h63:c<=9223372036854775807)(h:RX w0 w wa (r.length+1) c oa on oc x bad d) :
  Calls Tryz.prog 175 #[.pointer (some ⟨w0.heap.size,0,none⟩)] w (NxPost s r w0 c oa on oc x bad d):=by
 obtain ⟨b,o,rfl,hb,c1,c2,hrr⟩:=hw.head
 have HRR:=Lib.hid hrr
 have HX:=Lib.hid h
 have d0:=h.blk.cells.1
 have hf0:=h.blk.fz 0
 have c1':=(h.bel.cell (p:=⟨b,o,none⟩) hb).trans c1
 have c2':=(h.bel.cell (p:=⟨b,o+1,none⟩) hb).trans c2
 clear hw h hrr c1 c2
 obtain ⟨n,hn⟩:∃n,r.length=n:=⟨_,rfl⟩
 have HN:Hid (r.length=n):=hn
 rw[hn] at hc d0
 clear hn
 have hn0:(((n:Int)+1) == 0)=false:=by rw[beq_eq_false_iff_ne];omega
 have hlt:=HX.out.blk.lt
 have hne:¬ w.heap.size=w0.heap.size:=by omega
 have HF:Hid (∀wa' n' c',RX w0 ((w.setCell ⟨w0.heap.size,0,none⟩ (.slice wa' n' c')).alloc (.cells #[.string s,.bool q] 77)) wa' n' c' oa on oc x bad d):=fun wa' n' c'=>
  have H:=HX.out.set 0 _ (HX.out.blk.set0 wa' n' c')
  RX.step ⟨H.1,H.2.1,H.2.2⟩ ((Below.refl _ _).alloc (Nat.le_refl _) _)
 by_cases hc1:c=1
 ·have hn1:n=0:=by omega
  subst hc1;subst hn1
  go_enter Tryz.func175,Tryz.ntmps175
  go_wp2_with fail
  go_ret
  have er:r=[]:=List.length_eq_zero_iff.1 HN.out
  subst er
  exact ⟨_,rfl,.inl rfl,HF.out _ 0 0⟩
 ·have hc1':¬ c - 1=0:=by omega
  have hc2:¬ (c:Int) - 1=0:=by omega
  go_enter Tryz.func175,Tryz.ntmps175
  go_wp2_with fail
  go_ret
  refine ⟨_,rfl,HRR,?_⟩
  rw[HN.out]
  exact HF.out _ n (c - 1)
def SdSt(w W:World)(b:Nat)(x y:DA)(d:Dat):Prop:=DBox W b x/\DBox W (b+1) y/\DRd W x d/\DRd W y d/\Below w.heap.size w W
theorem SdSt.go{w W W':World}{b:Nat}{x y:DA}{d:Dat}(h:SdSt w W b x y d)(hb:Below W.heap.size W W'):SdSt w W' b x y d:=
 ⟨h.1.below hb,h.2.1.below hb,h.2.2.1.below hb,h.2.2.2.1.below hb,h.2.2.2.2.trans (hb.mono h.2.2.2.2.size)⟩
theorem samedata_yes(x y:DA)(d:Dat)(w:World)(hx:DRd w x d)(hy:DRd w y d) :
  Calls Tryz.prog 47 #[.agg #[.slice x.p1.a x.p1.n x.p1.c,.slice x.p2.a x.p2.n x.p2.c,.slice x.p3.a x.p3.n x.p3.c,.slice x.p4.a x.p4.n x.p4.c],.agg #[.slice y.p1.a y.p1.n y.p1.c,.slice y.p2.a y.p2.n y.p2.c,.slice y.p3.a y.p3.n y.p3.c,.slice y.p4.a y.p4.n y.p4.c]] w fun e w'=>e=.returned (.bool true)/\Hid (Below w.heap.size w w'):=by
 have hb1:Below w.heap.size w (w.alloc (.cells #[.slice x.p1.a x.p1.n x.p1.c,.slice x.p2.a x.p2.n x.p2.c,.slice x.p3.a x.p3.n x.p3.c,.slice x.p4.a x.p4.n x.p4.c] 48)):=(Below.refl _ _).alloc (Nat.le_refl _) _
 have HX:=DBox.new w x
 have hx1:=hx.below hb1
 have hy1:=hy.below hb1
 have e1:y.p1.n=x.p1.n:=by rw[<- hx.h1.len,<- hy.h1.len]
 have e2:y.p2.n=x.p2.n:=by rw[<- hx.h2.len,<- hy.h2.len]
 have e3:y.p3.n=x.p3.n:=by rw[<- hx.h3.len,<- hy.h3.len]
 have e4:y.p4.n=x.p4.n:=by rw[<- hx.h4.len,<- hy.h4.len]
 obtain ⟨W0,hW0⟩:∃W,W=w.alloc (.cells #[.slice x.p1.a x.p1.n x.p1.c,.slice x.p2.a x.p2.n x.p2.c,.slice x.p3.a x.p3.n x.p3.c,.slice x.p4.a x.p4.n x.p4.c] 48):=⟨_,rfl⟩
 have hs0:W0.heap.size=w.heap.size+1:=by rw[hW0];simp
 rw[<- hW0] at hb1 HX hx1 hy1
 have hb2:Below W0.heap.size W0 (W0.alloc (.cells #[.slice y.p1.a y.p1.n y.p1.c,.slice y.p2.a y.p2.n y.p2.c,.slice y.p3.a y.p3.n y.p3.c,.slice y.p4.a y.p4.n y.p4.c] 48)):=(Below.refl _ _).alloc (Nat.le_refl _) _
 have HY:=DBox.new W0 y
 have H:Hid (∃b c,b=w.heap.size/\c=w.heap.size+1/\DBox (W0.alloc (.cells #[.slice y.p1.a y.p1.n y.p1.c,.slice y.p2.a y.p2.n y.p2.c,.slice y.p3.a y.p3.n y.p3.c,.slice y.p4.a y.p4.n y.p4.c] 48)) b x/\DBox (W0.alloc (.cells #[.slice y.p1.a y.p1.n y.p1.c,.slice y.p2.a y.p2.n y.p2.c,.slice y.p3.a y.p3.n y.p3.c,.slice y.p4.a y.p4.n y.p4.c] 48)) c y/\
   DRd (W0.alloc (.cells #[.slice y.p1.a y.p1.n y.p1.c,.slice y.p2.a y.p2.n y.p2.c,.slice y.p3.a y.p3.n y.p3.c,.slice y.p4.a y.p4.n y.p4.c] 48)) x d/\DRd (W0.alloc (.cells #[.slice y.p1.a y.p1.n y.p1.c,.slice y.p2.a y.p2.n y.p2.c,.slice y.p3.a y.p3.n y.p3.c,.slice y.p4.a y.p4.n y.p4.c] 48)) y d/\Below w.heap.size w (W0.alloc (.cells #[.slice y.p1.a y.p1.n y.p1.c,.slice y.p2.a y.p2.n y.p2.c,.slice y.p3.a y.p3.n y.p3.c,.slice y.p4.a y.p4.n y.p4.c] 48))):=
  ⟨w.heap.size,w.heap.size+1,rfl,rfl,HX.below hb2,by rw[<- hs0];exact HY,hx1.below hb2,hy1.below hb2,hb1.trans (hb2.mono hb1.size)⟩
 clear hx hy hb1 HX hx1 hy1 hb2 HY hs0
 rw[hW0] at H
 clear hW0 W0
 obtain ⟨⟨a1,n1,k1⟩,⟨a2,n2,k2⟩,⟨a3,n3,k3⟩,⟨a4,n4,k4⟩⟩:=x
 obtain ⟨⟨b1,m1,j1⟩,⟨b2,m2,j2⟩,⟨b3,m3,j3⟩,⟨b4,m4,j4⟩⟩:=y
 simp only at e1 e2 e3 e4 H ⊢
 subst e1 e2 e3 e4
 go_enter Tryz.func47,Tryz.ntmps47
 go_upto_region 1 with fail
 generalize ((w.alloc (.cells #[.slice a1 m1 k1,.slice a2 m2 k2,.slice a3 m3 k3,.slice a4 m4 k4] 48)).alloc (.cells #[.slice b1 m1 j1,.slice b2 m2 j2,.slice b3 m3 j3,.slice b4 m4 j4] 48))=W1 at*
 obtain ⟨b,b',hb,hb',X,Y,DX,DY,BB⟩:=H.out
 clear H
 rw[<- hb]
 rw[<- hb] at hb'
 subst hb'
 have Hb:Hid (b=w.heap.size):=hb
 clear hb
 have H:Hid (SdSt w W1 b ⟨⟨a1,m1,k1⟩,⟨a2,m2,k2⟩,⟨a3,m3,k3⟩,⟨a4,m4,k4⟩⟩ ⟨⟨b1,m1,j1⟩,⟨b2,m2,j2⟩,⟨b3,m3,j3⟩,⟨b4,m4,j4⟩⟩ d):=⟨X,Y,DX,DY,BB⟩
 clear X Y DX DY BB
 have x0:=H.out.1.1
 have x1:=H.out.1.2.1
 have x2:=H.out.1.2.2.1
 have y0:=H.out.2.1.1
 have y1:=H.out.2.1.2.1
 have y2:=H.out.2.1.2.2.1
 simp only at x0 x1 x2 y0 y1 y2
 go_wp2_with fail
 refine (sameT_yes a3 b3 m3 k3 j3 d.ts W1 H.out.2.2.1.h3.rd H.out.2.2.2.1.h3.rd H.out.2.2.1.h3.len (Nat.le_trans H.out.2.2.1.h3.cap.1 H.out.2.2.1.h3.cap.2)).mono ?_
 rintro e W2 ⟨rfl,H2⟩
 have H':Hid (SdSt w W2 b ⟨⟨a1,m1,k1⟩,⟨a2,m2,k2⟩,⟨a3,m3,k3⟩,⟨a4,m4,k4⟩⟩ ⟨⟨b1,m1,j1⟩,⟨b2,m2,j2⟩,⟨b3,m3,j3⟩,⟨b4,m4,j4⟩⟩ d):=H.out.go H2.out
 clear H2 H x0 x1 x2 y0 y1 y2
 have x3:=H'.out.1.2.2.2.1
 have y3:=H'.out.2.1.2.2.2.1
 simp only at x3 y3
 go_wp2_with fail
 refine (same_yes a4 b4 m4 k4 j4 d.raw W2 H'.out.2.2.1.h4.rd H'.out.2.2.2.1.h4.rd H'.out.2.2.1.h4.len).mono ?_
 rintro e W3 ⟨rfl,rfl⟩
 clear x3 y3
 have hn1:d.ns.length=m1:=H'.out.2.2.1.h1.len
 have hn2:d.us.length=m2:=H'.out.2.2.1.h2.len
 have hm1:m1<=9223372036854775807:=Nat.le_trans H'.out.2.2.1.h1.cap.1 H'.out.2.2.1.h1.cap.2
 have hm2:m2<=9223372036854775807:=Nat.le_trans H'.out.2.2.1.h2.cap.1 H'.out.2.2.1.h2.cap.2
 have HN:Hid (d.ns.length=m1/\d.us.length=m2):=⟨hn1,hn2⟩
 clear hn1 hn2
 go_wp2_with fail
 go_loopw [5] (fun v wr=>∃k:Nat,k<=m1/\v=.int .i64 (k:Int)/\Hid (SdSt w wr b ⟨⟨a1,m1,k1⟩,⟨a2,m2,k2⟩,⟨a3,m3,k3⟩,⟨a4,m4,k4⟩⟩ ⟨⟨b1,m1,j1⟩,⟨b2,m2,j2⟩,⟨b3,m3,j3⟩,⟨b4,m4,j4⟩⟩ d)) (fun v _=>m1 - (intOf v).toNat)
 case atStart=>exact ⟨0,Nat.zero_le _,rfl,H'⟩
 case round=>
  obtain ⟨k,hk,rfl,H⟩:=hrel
  clear H'
  have x0:=H.out.1.1
  have y0:=H.out.2.1.1
  simp only at x0 y0
  by_cases hlt:k<m1
  ·have hlt':(k:Int)<(m1:Int):=by omega
   have hki:k<d.ns.length:=by rw[HN.out.1];exact hlt
   obtain ⟨B1,o1,ha1,hl1,z1,hz1,hr1⟩:=H.out.2.2.1.h1.at k hki
   obtain ⟨B2,o2,ha2,hl2,z2,hz2,hr2⟩:=H.out.2.2.2.1.h1.at k hki
   simp only at ha1 ha2
   subst ha1 ha2
   have ez:z2.n=z1.n:=by rw[<- hr1.len,<- hr2.len]
   rw[ez] at hz2
   have KS:Hid (∀W',Below wr.heap.size wr W'->Calls Tryz.prog 46 #[.slice z1.a z1.n z1.c,.slice z2.a z1.n z2.c] W' fun e w'=>e=.returned (.bool true)/\Hid (Below W'.heap.size W' w')):=
    fun W' hb=>sameN_yes z1.a z2.a z1.n z1.c z2.c d.ns[k] W' (hr1.rd.below hb) (hr2.rd.below hb) hr1.len (Nat.le_trans hr1.cap.1 hr1.cap.2)
   have HBx:Hid (Below wr.heap.size wr wr.drew):=(Below.refl _ _).drew
   have hbx:=H.out.1.2.2.2.2
   have hby:=H.out.2.1.2.2.2.2
   clear hr1 hr2 ez
   generalize z1.a=za1 at*
   generalize z1.n=zn1 at*
   generalize z1.c=zc1 at*
   generalize z2.a=za2 at*
   generalize z2.c=zc2 at*
   go_wp2_with fail
   go_region_held3 (fun W=>W.cell? ⟨b,0,none⟩=some (.slice (some ⟨B1,o1,none⟩) m1 k1)/\W.cell? ⟨b+1,0,none⟩=some (.slice (some ⟨B2,o2,none⟩) m1 j1)/\W.cell? ⟨B1,o1+k,none⟩=some (.slice za1 zn1 zc1)/\W.cell? ⟨B2,o2+k,none⟩=some (.slice za2 zn1 zc2)) (go_keep) (first
    |(go_at_call 46;refine (KS.out _ HBx.out).mono ?_;rintro e wy ⟨rfl,HY⟩;have q0:wy.cell? ⟨b,0,none⟩=some (.slice (some ⟨B1,o1,none⟩) m1 k1):=(HY.out.cell (p:=⟨b,0,none⟩) hbx).trans x0;have q1:wy.cell? ⟨b+1,0,none⟩=some (.slice (some ⟨B2,o2,none⟩) m1 j1):=(HY.out.cell (p:=⟨b+1,0,none⟩) hby).trans y0;have q2:wy.cell? ⟨B1,o1+k,none⟩=some (.slice za1 zn1 zc1):=(HY.out.cell (p:=⟨B1,o1+k,none⟩) hl1).trans hz1;have q3:wy.cell? ⟨B2,o2+k,none⟩=some (.slice za2 zn1 zc2):=(HY.out.cell (p:=⟨B2,o2+k,none⟩) hl2).trans hz2))
   have H2:Hid (SdSt w wy b ⟨⟨some ⟨B1,o1,none⟩,m1,k1⟩,⟨a2,m2,k2⟩,⟨a3,m3,k3⟩,⟨a4,m4,k4⟩⟩ ⟨⟨some ⟨B2,o2,none⟩,m1,j1⟩,⟨b2,m2,j2⟩,⟨b3,m3,j3⟩,⟨b4,m4,j4⟩⟩ d):=H.out.go (HBx.out.trans HY.out)
   clear q0 q1 q2 q3 x0 y0 hz1 hz2 HY KS H HBx
   go_wp2_with fail
   exact ⟨⟨k+1,by omega,by go_num,H2⟩,by simp[intOf];omega⟩
  ·have hge:¬ (k:Int)<(m1:Int):=by omega
   go_wp2_with fail
   obtain ⟨wz,hz⟩:∃z,z=wr:=⟨_,rfl⟩
   subst hz
   clear x0 y0
   go_loopw [6] (fun v wr=>∃k:Nat,k<=m2/\v=.int .i64 (k:Int)/\Hid (SdSt w wr b ⟨⟨a1,m1,k1⟩,⟨a2,m2,k2⟩,⟨a3,m3,k3⟩,⟨a4,m4,k4⟩⟩ ⟨⟨b1,m1,j1⟩,⟨b2,m2,j2⟩,⟨b3,m3,j3⟩,⟨b4,m4,j4⟩⟩ d)) (fun v _=>m2 - (intOf v).toNat)
   case atStart=>exact ⟨0,Nat.zero_le _,rfl,H⟩
   case round=>
    obtain ⟨i,hi,rfl,H'⟩:=hrel
    clear H
    have x1:=H'.out.1.2.1
    have y1:=H'.out.2.1.2.1
    simp only at x1 y1
    by_cases hit:i<m2
    ·have hit':(i:Int)<(m2:Int):=by omega
     have hii:i<d.us.length:=by rw[HN.out.2];exact hit
     obtain ⟨B1,o1,ha1,hl1,hz1⟩:=H'.out.2.2.1.h2.at i hii
     obtain ⟨B2,o2,ha2,hl2,hz2⟩:=H'.out.2.2.2.1.h2.at i hii
     simp only at ha1 ha2
     subst ha1 ha2
     generalize d.us[i]=u at*
     go_wp2_with fail
     go_quiet (fail)
     have H2:Hid (SdSt w (wr.drewN nq) b ⟨⟨a1,m1,k1⟩,⟨some ⟨B1,o1,none⟩,m2,k2⟩,⟨a3,m3,k3⟩,⟨a4,m4,k4⟩⟩ ⟨⟨b1,m1,j1⟩,⟨some ⟨B2,o2,none⟩,m2,j2⟩,⟨b3,m3,j3⟩,⟨b4,m4,j4⟩⟩ d):=H'.out.go ⟨rfl,rfl,rfl,Nat.le_refl _,fun _ _=>rfl⟩
     clear x1 y1 hz1 hz2 H'
     generalize wr.drewN nq=Wq at*
     go_wp2_with fail
     exact ⟨⟨i+1,by omega,by go_num,H2⟩,by simp[intOf];omega⟩
    ·have hige:¬ (i:Int)<(m2:Int):=by omega
     go_wp2_with fail
     go_ret
     exact ⟨rfl,H'.out.2.2.2.2⟩
theorem rdv_new(w:World)(xs:List Value)(t:TypeId):RdV (w.alloc (.cells xs.toArray t)) (some ⟨w.heap.size,0,none⟩) xs:=by
 refine .inr ⟨w.heap.size,0,rfl,by simp,fun i hi=>?_⟩
 rw[Nat.zero_add]
 exact (show BlkV (w.alloc (.cells xs.toArray t)) w.heap.size t xs from heap_alloc_new _ _).cell i hi
theorem new_t(w:World)(ss:List ByteArray)(n:Nat)(hn:ss.length=n)(hm:n<=1000)(hb:∀x∈ss,x.size<=9223372036854775807):TRd (w.alloc (.cells (tv ss).toArray 9)) ⟨some ⟨w.heap.size,0,none⟩,n,n⟩ ss:=
 ⟨rdv_new w (tv ss) 9,hn,⟨Nat.le_refl _,by simp only;omega⟩,by simp,hb⟩
theorem new_b(w:World)(zs:List Int)(n:Nat)(hn:zs.length=n)(hm:n<=1000)(hb:∀z∈zs,0<=z/\z<=255):BRd (w.alloc (.cells (zs.map (Value.int .u8)).toArray 5)) ⟨some ⟨w.heap.size,0,none⟩,n,n⟩ zs:=by
 refine ⟨⟨?_,hb⟩,hn,⟨Nat.le_refl _,by simp only;omega⟩,by simp⟩
 have hblk:Blk (w.alloc (.cells (zs.map (Value.int .u8)).toArray 5)) w.heap.size zs:=⟨heap_alloc_new _ _,hb⟩
 exact .inr ⟨w.heap.size,0,rfl,hblk.lt,fun i hi=>by rw[Nat.zero_add];exact hblk.cell i hi⟩
theorem readF_ok{t:Nat}{zs:List Int}(h:(readF t zs).2=0):checkF t (readF t zs).1=0/\writeF t (readF t zs).1=zs/\zs.length<=65535:=by
 unfold readF at h ⊢
 by_cases h1:mayT t=true
 ·rw[if_pos h1] at h ⊢
  by_cases h2:zs.length<=65535
  ·rw[if_pos h2] at h ⊢
   cases hd:dreadF t zs with
   |none=>rw[hd] at h;cases h
   |some d=>
    have:=write_read hd
    exact ⟨this.1,this.2,h2⟩
  ·rw[if_neg h2] at h;cases h
 ·rw[if_neg h1] at h;cases h
end Go.Proofs.YtjkljpdolhglcaaGreatDoor
