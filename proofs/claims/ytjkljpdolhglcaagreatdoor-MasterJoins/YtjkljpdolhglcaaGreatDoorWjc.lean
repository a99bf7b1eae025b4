/- Texts laid together, in parts: Dsp Dbk Nxi Pz Pc Pd Pe Dor Kb Dm Lg Ha Hb Hc Hd He. -/
import Derived.Test.YtjkljpdolhglcaaGreatDoorWjb
import Derived.Lib.AppendStr
import Derived.Lib.AppendZerosOnto
import Derived.Deep.QuietTactic
import Derived.BigQuiet
import Derived.Deep.RegionHeld3
import Derived.WalkSpells
import Derived.WalkKit
import Derived.ProofKit
import Derived.OpenShut
import Derived.ShutString
import Derived.ChangeOld
import Derived.Below
import Derived.JoinedCond
import Derived.Deep.Strs
import Derived.Deep.Slices
import Derived.Lib.SmallJoins
import Derived.Deep.CutBlock
import Derived.Lib.Bytealg
set_option maxRecDepth 100000
set_option maxHeartbeats 8000000
set_option linter.unusedVariables false
set_option linter.unusedSimpArgs false
namespace Go.Proofs.YtjkljpdolhglcaaGreatDoor
open Go.ChangeShapes Go.WideShapes Go.ChangeAt Go.RowKit
structure Dat where
 ns:List (List ByteArray)
 us:List Nat
 ts:List ByteArray
 raw:List Int
structure Shp where
 nn:Nat
 nu:Nat
 nt:Int
 nr:Int
 wd:Nat
def shp(t:Nat):Shp:=
 if t=1 then ⟨0,0,0,4,0⟩ else if t=28 then ⟨0,0,0,16,0⟩ else if t=2∨t=5∨t=12 then ⟨1,0,0,0,0⟩ else if t=6 then ⟨2,5,0,0,4⟩ else
 if t=15 then ⟨1,1,0,0,2⟩ else if t=33 then ⟨1,3,0,0,2⟩ else if t=16 then ⟨0,0,-1,0,0⟩ else if t=257 then ⟨0,1,2,0,1⟩ else ⟨0,0,0,-1,0⟩
def mayT(t:Nat):Bool:=decide (t≠0) && (decide (t<128) || decide (255<t))
def most(wd:Nat):Nat:=if wd=1 then 255 else if wd=2 then 65535 else 4294967295
def alnum(z:Int):Bool:=(decide (97<=z) && decide (z<=122)) || (decide (65<=z) && decide (z<=90)) || (decide (48<=z) && decide (z<=57))
def tagB(s:ByteArray):Bool:=decide (1<=s.size) && decide (s.size<=15) && (nums s).all alnum
def fitsB(t:Nat)(d:Dat):Bool:=
 decide (d.ns.length=(shp t).nn) && decide (d.us.length=(shp t).nu) && (decide ((shp t).nt<0) || decide ((d.ts.length:Int)=(shp t).nt)) && (decide (0<=(shp t).nt) || decide (d.ts.length≠0)) &&
 (decide ((shp t).nr<0) || decide ((d.raw.length:Int)=(shp t).nr)) && d.us.all (fun n=>decide (n<=most (shp t).wd)) && (decide (t≠16) || d.ts.all (fun s=>decide (s.size<=255))) && (decide (t≠257) || tagB (d.ts.getD 0 ⟨#[]⟩))
def tsz(t:Nat)(l:List ByteArray):Nat:=if t=16 then (nby l).length else (match l with|[]=>0|s::r=>s.size+1+(r.flatMap nums).length)
def sizesF(t:Nat)(d:Dat):Nat:=d.raw.length+d.us.length*(shp t).wd+(d.ns.map nsz).sum+tsz t d.ts
def nsErr:List (List ByteArray)->Int
 |[]=>0
 |n::r=>if nck n=0 then nsErr r else nck n
def checkF(t:Nat)(d:Dat):Int:=if mayT t then (if fitsB t d then (if nsErr d.ns=0 then (if 65535<sizesF t d then 3 else 0) else nsErr d.ns) else 7) else 6
def numB(n wd:Nat):List Int:=if wd=1 then [(n:Int)] else if wd=2 then [((n / 256:Nat):Int),((n % 256:Nat):Int)] else [((n / 16777216:Nat):Int),((n / 65536 % 256:Nat):Int),((n / 256 % 256:Nat):Int),((n % 256:Nat):Int)]
def nmB(n:List ByteArray):List Int:=nby n++[0]
def tsB(t:Nat)(l:List ByteArray):List Int:=if t=16 then nby l else (match l with|[]=>[]|s::r=>((s.size:Int)::nums s)++r.flatMap nums)
def writeF(t:Nat)(d:Dat):List Int:=if t=6 then d.ns.flatMap nmB++d.us.flatMap (fun n=>numB n 4) else d.us.flatMap (fun n=>numB n (shp t).wd)++d.ns.flatMap nmB++tsB t d.ts++d.raw
def gName(b:List Int)(p:Nat):Option (List ByteArray × Nat):=if p<b.length then (match rgo b p [] with|some (o,q)=>if nck o=0 then some (o,q) else none|none=>none) else none
def gNum(b:List Int)(p wd:Nat):Nat:=(val ((b.drop p).take wd)).toNat
def gTexts(b:List Int)(p:Nat):Option (List ByteArray):=
 if h:p<b.length then (if p+1+(b.getD p 0).toNat<=b.length then (gTexts b (p+1+(b.getD p 0).toNat)).map (lb ((b.drop (p+1)).take (b.getD p 0).toNat)::·) else none) else some []
termination_by b.length - p
decreasing_by omega
def guessF(t:Nat)(b:List Int):Option Dat:=
 if t=6 then (gName b 0).bind fun x=>(gName b x.2).bind fun y=>if y.2+20<=b.length then some ⟨[x.1,y.1],[gNum b y.2 4,gNum b (y.2+4) 4,gNum b (y.2+8) 4,gNum b (y.2+12) 4,gNum b (y.2+16) 4],[],[]⟩ else none
 else if (shp t).nn=1 then (if (shp t).nu*(shp t).wd<=b.length then (gName b ((shp t).nu*(shp t).wd)).map fun x=>⟨[x.1],(List.range (shp t).nu).map (fun i=>gNum b (i*(shp t).wd) (shp t).wd),[],[]⟩ else none)
 else if t=16 then (gTexts b 0).map fun l=>⟨[],[],l,[]⟩
 else if t=257 then (if 2<=b.length/\2+(b.getD 1 0).toNat<=b.length then some ⟨[],[gNum b 0 1],[lb ((b.drop 2).take (b.getD 1 0).toNat),lb (b.drop (2+(b.getD 1 0).toNat))],[]⟩ else none)
 else some ⟨[],[],[],b⟩
def dreadF(t:Nat)(b:List Int):Option Dat:=(guessF t b).bind fun d=>if checkF t d=0/\writeF t d=b then some d else none
theorem nmB_len(n:List ByteArray):(nmB n).length=nsz n:=by
 have:=nby_len n
 simp[nmB];omega
theorem gName_at(P R:List Int)(n:List ByteArray)(h:nck n=0):gName (P++(nmB n++R)) P.length=some (n,P.length+nsz n):=by
 unfold gName
 have hl:=nmB_len n
 have hz:1<=nsz n:=by have:=nsz_len n;omega
 have e:P++(nmB n++R)=P++(nby n++(0::R)):=by simp[nmB]
 rw[if_pos (by simp[hl];omega),e,rgo_nby n P R [] (nck_small h).2]
 have:=nby_len n
 simp[h]
 omega
theorem numB_len(n wd:Nat)(h:wd=1∨wd=2∨wd=4):(numB n wd).length=wd:=by
 rcases h with rfl|rfl|rfl <;> simp[numB]
theorem val_numB(n wd:Nat)(h:(wd=1/\n<=255)∨(wd=2/\n<=65535)∨(wd=4/\n<=4294967295)):(val (numB n wd)).toNat=n:=by
 rcases h with ⟨rfl,h⟩|⟨rfl,h⟩|⟨rfl,h⟩
 ·simp[numB,val]
 ·simp only[numB,val]
  simp
  omega
 ·simp only[numB,val]
  simp
  omega
theorem gNum_at(P R:List Int)(n wd p:Nat)(h:(wd=1/\n<=255)∨(wd=2/\n<=65535)∨(wd=4/\n<=4294967295))(hp:p=P.length):gNum (P++(numB n wd++R)) p wd=n:=by
 subst hp
 unfold gNum
 have hl:=numB_len n wd (by omega)
 rw[List.drop_left,List.take_append_of_le_length (by omega),List.take_of_length_le (by omega)]
 exact val_numB n wd h
theorem gTexts_at:∀(l:List ByteArray) (P:List Int),gTexts (P++nby l) P.length=some l
 |[],P=>by
  rw[gTexts,dif_neg (by simp[nby])]
 |s::r,P=>by
  have hf:nby (s::r)=(s.size:Int)::(nums s++nby r):=by simp[nby]
  have hg:(P++nby (s::r)).getD P.length 0=(s.size:Int):=by rw[hf];simp[List.getD_eq_getElem?_getD]
  have hl:(P++nby (s::r)).length=P.length+(1+(s.size+(nby r).length)):=by rw[hf];simp[nums_len];omega
  rw[gTexts,dif_pos (by rw[hl];omega),hg,Int.toNat_natCast,if_pos (by rw[hl];omega)]
  have ih:=gTexts_at r (P++((s.size:Int)::nums s))
  have e1:P++nby (s::r)=P++((s.size:Int)::nums s)++nby r:=by rw[hf];simp
  have e2:(P++((s.size:Int)::nums s)).length=P.length+1+s.size:=by simp[nums_len];omega
  have hd:((P++nby (s::r)).drop (P.length+1)).take s.size=nums s:=by
   rw[hf,List.drop_append,List.drop_eq_nil_of_le (by omega),Nat.add_sub_cancel_left,List.nil_append]
   show (nums s++_).take s.size=nums s
   rw[List.take_append_of_le_length (by rw[nums_len];exact Nat.le_refl _),List.take_of_length_le (by rw[nums_len];exact Nat.le_refl _)]
  have hlb:lb (nums s)=s:=txt_back s
  rw[e2] at ih
  rw[hd,hlb]
  conv=>lhs;arg 2;rw[e1]
  rw[ih]
  rfl
theorem nsErr_all:∀l:List (List ByteArray),nsErr l=0↔∀n∈l,nck n=0
 |[]=>by simp[nsErr]
 |n::r=>by
  have ih:=nsErr_all r
  unfold nsErr
  by_cases h:nck n=0
  ·rw[if_pos h,ih];simp[h]
  ·rw[if_neg h];simp[h]
theorem check_parts{t:Nat}{d:Dat}(h:checkF t d=0):mayT t=true/\fitsB t d=true/\(∀n∈d.ns,nck n=0)/\sizesF t d<=65535:=by
 unfold checkF at h
 split at h
 ·rename_i h1
  split at h
  ·rename_i h2
   split at h
   ·rename_i h3
    split at h
    ·cases h
    ·rename_i h4
     exact ⟨h1,h2,(nsErr_all _).1 h3,by omega⟩
   ·rename_i h3;exact absurd h h3
  ·cases h
 ·cases h
structure Fit(t:Nat)(d:Dat):Prop where
 ns:d.ns.length=(shp t).nn
 us:d.us.length=(shp t).nu
 ts:(shp t).nt<0∨(d.ts.length:Int)=(shp t).nt
 t1:0<=(shp t).nt∨d.ts.length≠0
 raw:(shp t).nr<0∨(d.raw.length:Int)=(shp t).nr
 un:∀n∈d.us,n<=most (shp t).wd
 tx:t=16->∀s∈d.ts,s.size<=255
 tg:t=257->tagB (d.ts.getD 0 ⟨#[]⟩)=true
theorem fit_iff(t:Nat)(d:Dat):fitsB t d=true↔Fit t d:=by
 unfold fitsB
 simp only[Bool.and_eq_true,Bool.or_eq_true,decide_eq_true_eq,List.all_eq_true]
 constructor
 ·rintro ⟨⟨⟨⟨⟨⟨⟨a,b⟩,c⟩,e⟩,f⟩,g⟩,h⟩,i⟩
  exact ⟨a,b,c,e,f,g,fun ht=>h.resolve_left (fun hn=>hn ht),fun ht=>i.resolve_left (fun hn=>hn ht)⟩
 ·rintro ⟨a,b,c,e,f,g,h,i⟩
  refine ⟨⟨⟨⟨⟨⟨⟨a,b⟩,c⟩,e⟩,f⟩,g⟩,?_⟩,?_⟩
  ·by_cases ht:t=16
   ·exact .inr (h ht)
   ·exact .inl ht
  ·by_cases ht:t=257
   ·exact .inr (i ht)
   ·exact .inl ht
theorem len0{α:Type}{l:List α}(h:l.length=0):l=[]:=List.eq_nil_of_length_eq_zero h
theorem len1{α:Type}{l:List α}(h:l.length=1):∃a,l=[a]:=List.length_eq_one_iff.1 h
theorem len2{α:Type}{l:List α}(h:l.length=2):∃a b,l=[a,b]:=by
 match l,h with
 |[a,b],_=>exact ⟨a,b,rfl⟩
theorem len3{α:Type}{l:List α}(h:l.length=3):∃a b c,l=[a,b,c]:=by
 match l,h with
 |[a,b,c],_=>exact ⟨a,b,c,rfl⟩
theorem len5{α:Type}{l:List α}(h:l.length=5):∃a b c e f,l=[a,b,c,e,f]:=by
 match l,h with
 |[a,b,c,e,f],_=>exact ⟨a,b,c,e,f,rfl⟩
theorem shp_cases(t:Nat):(t=1/\shp t=⟨0,0,0,4,0⟩)∨(t=28/\shp t=⟨0,0,0,16,0⟩)∨((t=2∨t=5∨t=12)/\shp t=⟨1,0,0,0,0⟩)∨(t=6/\shp t=⟨2,5,0,0,4⟩)∨(t=15/\shp t=⟨1,1,0,0,2⟩)∨(t=33/\shp t=⟨1,3,0,0,2⟩)∨(t=16/\shp t=⟨0,0,-1,0,0⟩)∨(t=257/\shp t=⟨0,1,2,0,1⟩) ∨
  ((t≠1/\t≠28/\t≠2/\t≠5/\t≠12/\t≠6/\t≠15/\t≠33/\t≠16/\t≠257)/\shp t=⟨0,0,0,-1,0⟩):=by
 by_cases h1:t=1
 ·subst h1;left;exact ⟨rfl,rfl⟩
 by_cases h2:t=28
 ·subst h2;right;left;exact ⟨rfl,rfl⟩
 by_cases h3:t=2∨t=5∨t=12
 ·right;right;left;refine ⟨h3,?_⟩;rcases h3 with rfl|rfl|rfl <;> rfl
 by_cases h4:t=6
 ·subst h4;right;right;right;left;exact ⟨rfl,rfl⟩
 by_cases h5:t=15
 ·subst h5;right;right;right;right;left;exact ⟨rfl,rfl⟩
 by_cases h6:t=33
 ·subst h6;right;right;right;right;right;left;exact ⟨rfl,rfl⟩
 by_cases h7:t=16
 ·subst h7;right;right;right;right;right;right;left;exact ⟨rfl,rfl⟩
 by_cases h8:t=257
 ·subst h8;right;right;right;right;right;right;right;left;exact ⟨rfl,rfl⟩
 ·right;right;right;right;right;right;right;right
  refine ⟨⟨h1,h2,fun e=>h3 (.inl e),fun e=>h3 (.inr (.inl e)),fun e=>h3 (.inr (.inr e)),h4,h5,h6,h7,h8⟩,?_⟩
  unfold shp
  rw[if_neg h1,if_neg h2,if_neg h3,if_neg h4,if_neg h5,if_neg h6,if_neg h7,if_neg h8]
theorem guess_write(t:Nat)(d:Dat)(h:checkF t d=0):guessF t (writeF t d)=some d:=by
 obtain ⟨h1,h2,h3,h4⟩:=check_parts h
 have hf:=(fit_iff t d).1 h2
 obtain ⟨ns,us,ts,raw⟩:=d
 obtain ⟨fns,fus,fts,ft1,fraw,fun_,ftx,ftg⟩:=hf
 simp only at fns fus fts ft1 fraw fun_ ftx ftg h3
 rcases shp_cases t with ⟨rfl,e⟩|⟨rfl,e⟩|⟨ht,e⟩|⟨rfl,e⟩|⟨rfl,e⟩|⟨rfl,e⟩|⟨rfl,e⟩|⟨rfl,e⟩|⟨ht,e⟩ <;> rw[e] at fns fus fts ft1 fraw fun_ <;> simp only at fns fus fts ft1 fraw fun_
 ·obtain rfl:=len0 fns
  obtain rfl:=len0 fus
  obtain rfl:=len0 (l:=ts) (by omega)
  simp[guessF,writeF,e,tsB]
 ·obtain rfl:=len0 fns
  obtain rfl:=len0 fus
  obtain rfl:=len0 (l:=ts) (by omega)
  simp[guessF,writeF,e,tsB]
 ·obtain ⟨n,rfl⟩:=len1 fns
  obtain rfl:=len0 fus
  obtain rfl:=len0 (l:=ts) (by omega)
  obtain rfl:=len0 (l:=raw) (by omega)
  have hg:=gName_at [] [] n (h3 n (by simp))
  simp only[List.nil_append,List.length_nil,List.append_nil] at hg
  have h6:t≠6:=by rcases ht with rfl|rfl|rfl <;> decide
  have hw:writeF t ⟨[n],[],[],[]⟩=nmB n:=by
   unfold writeF tsB
   rw[if_neg h6]
   split <;> simp[nby]
  rw[hw]
  unfold guessF
  rw[if_neg h6,e]
  simp[hg]
 ·obtain ⟨n,m,rfl⟩:=len2 fns
  obtain ⟨a,b,c,x,y,rfl⟩:=len5 fus
  obtain rfl:=len0 (l:=ts) (by omega)
  obtain rfl:=len0 (l:=raw) (by omega)
  have hb:∀z∈[a,b,c,x,y],z<=4294967295:=fun_
  have hw:writeF 6 ⟨[n,m],[a,b,c,x,y],[],[]⟩=nmB n++(nmB m++(numB a 4++(numB b 4++(numB c 4++(numB x 4++(numB y 4++[])))))):=by simp[writeF]
  rw[hw]
  have g1:=gName_at [] (nmB m++(numB a 4++(numB b 4++(numB c 4++(numB x 4++(numB y 4++[])))))) n (h3 n (by simp))
  have g2:=gName_at (nmB n) (numB a 4++(numB b 4++(numB c 4++(numB x 4++(numB y 4++[]))))) m (h3 m (by simp))
  have l1:=nmB_len n
  have l2:=nmB_len m
  have na:=numB_len a 4 (by simp)
  have nb:=numB_len b 4 (by simp)
  have nc:=numB_len c 4 (by simp)
  have nx:=numB_len x 4 (by simp)
  have ny:=numB_len y 4 (by simp)
  have k1:=gNum_at (nmB n++nmB m) (numB b 4++(numB c 4++(numB x 4++(numB y 4++[])))) a 4 (nsz n+nsz m) (.inr (.inr ⟨rfl,hb a (by simp)⟩)) (by simp[l1,l2])
  have k2:=gNum_at (nmB n++nmB m++numB a 4) (numB c 4++(numB x 4++(numB y 4++[]))) b 4 (nsz n+nsz m+4) (.inr (.inr ⟨rfl,hb b (by simp)⟩)) (by simp only[List.length_append,l1,l2,na])
  have k3:=gNum_at (nmB n++nmB m++numB a 4++numB b 4) (numB x 4++(numB y 4++[])) c 4 (nsz n+nsz m+8) (.inr (.inr ⟨rfl,hb c (by simp)⟩)) (by simp only[List.length_append,l1,l2,na,nb])
  have k4:=gNum_at (nmB n++nmB m++numB a 4++numB b 4++numB c 4) (numB y 4++[]) x 4 (nsz n+nsz m+12) (.inr (.inr ⟨rfl,hb x (by simp)⟩)) (by simp only[List.length_append,l1,l2,na,nb,nc])
  have k5:=gNum_at (nmB n++nmB m++numB a 4++numB b 4++numB c 4++numB x 4) [] y 4 (nsz n+nsz m+16) (.inr (.inr ⟨rfl,hb y (by simp)⟩)) (by simp only[List.length_append,l1,l2,na,nb,nc,nx])
  simp only[List.append_assoc] at k1 k2 k3 k4 k5
  simp only[List.nil_append,List.length_nil,Nat.zero_add] at g1
  rw[l1] at g2
  unfold guessF
  rw[if_pos rfl,g1]
  simp only[Option.bind_some]
  rw[g2]
  simp only[Option.bind_some]
  rw[if_pos (by simp[l1,l2,na,nb,nc,nx,ny];omega),k1,k2,k3,k4,k5]
 ·obtain ⟨n,rfl⟩:=len1 fns
  obtain ⟨a,rfl⟩:=len1 fus
  obtain rfl:=len0 (l:=ts) (by omega)
  obtain rfl:=len0 (l:=raw) (by omega)
  have hb:∀z∈[a],z<=65535:=fun_
  have hw:writeF 15 ⟨[n],[a],[],[]⟩=numB a 2++(nmB n++[]):=by simp[writeF,e,tsB]
  rw[hw]
  have na:=numB_len a 2 (by simp)
  have g1:=gName_at (numB a 2) [] n (h3 n (by simp))
  have k1:=gNum_at [] (nmB n++[]) a 2 0 (.inr (.inl ⟨rfl,hb a (by simp)⟩)) rfl
  rw[na] at g1
  simp only[List.nil_append] at k1
  unfold guessF
  rw[if_neg (by decide),e]
  simp only[if_true]
  rw[if_pos (by simp[na]),show 1*2=2 from rfl,g1]
  simp[List.range_succ]
  simpa using k1
 ·obtain ⟨n,rfl⟩:=len1 fns
  obtain ⟨a,b,c,rfl⟩:=len3 fus
  obtain rfl:=len0 (l:=ts) (by omega)
  obtain rfl:=len0 (l:=raw) (by omega)
  have hb:∀z∈[a,b,c],z<=65535:=fun_
  have hw:writeF 33 ⟨[n],[a,b,c],[],[]⟩=numB a 2++(numB b 2++(numB c 2++(nmB n++[]))):=by simp[writeF,e,tsB]
  rw[hw]
  have na:=numB_len a 2 (by simp)
  have nb:=numB_len b 2 (by simp)
  have nc:=numB_len c 2 (by simp)
  have g1:=gName_at (numB a 2++numB b 2++numB c 2) [] n (h3 n (by simp))
  have k1:=gNum_at [] (numB b 2++(numB c 2++(nmB n++[]))) a 2 0 (.inr (.inl ⟨rfl,hb a (by simp)⟩)) rfl
  have k2:=gNum_at (numB a 2) (numB c 2++(nmB n++[])) b 2 2 (.inr (.inl ⟨rfl,hb b (by simp)⟩)) (by rw[na])
  have k3:=gNum_at (numB a 2++numB b 2) (nmB n++[]) c 2 4 (.inr (.inl ⟨rfl,hb c (by simp)⟩)) (by simp[na,nb])
  simp only[List.append_assoc,List.length_append,na,nb,nc,List.nil_append] at g1 k1 k2 k3
  unfold guessF
  rw[if_neg (by decide),e]
  simp only[if_true]
  rw[if_pos (by simp[na,nb,nc];omega),show 3*2=2+(2+2) from rfl,g1]
  simp only[Option.map_some]
  rw[show List.range 3=[0,1,2] from rfl]
  simp only[List.map_cons,List.map_nil,Nat.zero_mul,Nat.one_mul]
  rw[k1,k2,show 2*2=4 from rfl,k3]
 ·obtain rfl:=len0 fns
  obtain rfl:=len0 fus
  obtain rfl:=len0 (l:=raw) (by omega)
  have hw:writeF 16 ⟨[],[],ts,[]⟩=nby ts:=by simp[writeF,tsB]
  have g1:=gTexts_at ts []
  simp only[List.nil_append,List.length_nil] at g1
  rw[hw]
  unfold guessF
  rw[if_neg (by decide),e]
  simp[g1]
 ·obtain rfl:=len0 fns
  obtain ⟨a,rfl⟩:=len1 fus
  obtain ⟨s,u,rfl⟩:=len2 (l:=ts) (by omega)
  obtain rfl:=len0 (l:=raw) (by omega)
  have hb:∀z∈[a],z<=255:=fun_
  have hw:writeF 257 ⟨[],[a],[s,u],[]⟩=(a:Int)::(s.size:Int)::(nums s++nums u):=by simp[writeF,e,tsB,numB]
  rw[hw]
  have hl:((a:Int)::(s.size:Int)::(nums s++nums u)).length=2+(s.size+u.size):=by simp[nums_len];omega
  have hd:((a:Int)::(s.size:Int)::(nums s++nums u)).getD 1 0=(s.size:Int):=rfl
  unfold guessF
  rw[if_neg (by decide),e,if_neg (by decide),if_neg (by decide),if_pos rfl,hd,Int.toNat_natCast,hl,if_pos ⟨by omega,by omega⟩]
  have d1:(((a:Int)::(s.size:Int)::(nums s++nums u)).drop 2).take s.size=nums s:=by
   show (nums s++nums u).take s.size=nums s
   rw[List.take_append_of_le_length (by rw[nums_len];exact Nat.le_refl _),List.take_of_length_le (by rw[nums_len];exact Nat.le_refl _)]
  have d2:((a:Int)::(s.size:Int)::(nums s++nums u)).drop (2+s.size)=nums u:=by
   rw[Nat.add_comm]
   show (nums s++nums u).drop s.size=nums u
   rw[List.drop_append_of_le_length (by rw[nums_len];exact Nat.le_refl _),List.drop_eq_nil_of_le (by rw[nums_len];exact Nat.le_refl _),List.nil_append]
  have d3:gNum ((a:Int)::(s.size:Int)::(nums s++nums u)) 0 1=a:=by simp[gNum,val]
  rw[d1,d2,d3,show lb (nums s)=s from txt_back s,show lb (nums u)=u from txt_back u]
 ·obtain rfl:=len0 fns
  obtain rfl:=len0 fus
  obtain rfl:=len0 (l:=ts) (by omega)
  have hw:writeF t ⟨[],[],[],raw⟩=raw:=by
   unfold writeF tsB
   rw[if_neg ht.2.2.2.2.2.1,if_neg ht.2.2.2.2.2.2.2.2.1]
   simp
  rw[hw]
  unfold guessF
  rw[if_neg ht.2.2.2.2.2.1,e,if_neg (by decide),if_neg ht.2.2.2.2.2.2.2.2.1,if_neg ht.2.2.2.2.2.2.2.2.2]
theorem read_write(t:Nat)(d:Dat)(h:checkF t d=0):dreadF t (writeF t d)=some d:=by
 unfold dreadF
 rw[guess_write t d h]
 simp[h]
theorem write_read{t:Nat}{b:List Int}{d:Dat}(h:dreadF t b=some d):checkF t d=0/\writeF t d=b:=by
 unfold dreadF at h
 cases hg:guessF t b with
 |none=>rw[hg] at h;cases h
 |some x=>
  rw[hg] at h
  simp only[Option.bind_some] at h
  split at h
  ·rename_i hc;cases h;exact hc
  ·cases h
theorem read_unique{t:Nat}{b:List Int}{o:Option Dat}(h1:∀d,o=some d->checkF t d=0/\writeF t d=b)(h2:o=none->∀d,checkF t d=0->writeF t d≠b):o=dreadF t b:=by
 cases ho:o with
 |none=>
  cases hd:dreadF t b with
  |none=>rfl
  |some d=>exact absurd (write_read hd).2 (h2 ho d (write_read hd).1)
 |some d=>
  obtain ⟨a,e⟩:=h1 d ho
  rw[<- e,read_write t d a]
theorem strCells_eq(s:ByteArray):Lib.strCells s=Lib.byteCells s.data.toList:=by
 simp[Lib.strCells,Lib.byteCells]
theorem wstr(B b:Nat)(bs:List Value)(s:ByteArray)(w:World)(h:GS B w b bs)(hB:B<=b)(hs0:0<s.size)(hl:bs.length+s.size<=140737488355328) :
  Calls Tryz.prog 20 #[.pointer (some ⟨b,0,none⟩),.string s] w fun e w'=>e=.returned (.tuple #[.int .i64 s.size,.nilIface])/\Hid (GS B w' b (bs++Lib.byteCells s.data.toList)/\Below B w w'):=by
 have HG:Hid (GS B w b bs):=h
 have hcl:(Lib.byteCells s.data.toList).length=s.size:=by rw[Lib.byteCells_length];rfl
 have HCL:Hid ((Lib.byteCells s.data.toList).length=s.size):=hcl
 clear h hcl
 go_enter Tryz.func20,Tryz.ntmps20
 go_wp2_with fail
 refine (bcheck_any B b bs _ HG.out hB).mono ?_
 rintro e w1 ⟨rfl,H1⟩
 obtain ⟨v,h1,h2,h4⟩:=H1.out.1
 have HB1:Hid (Below B w w1):=H1.out.2
 have HB:Hid (BB w1 b (.pointer (some ⟨b,0,none⟩)) v/\w1.ownsRow B 5 1 v bs.length bs):=⟨h1,h2⟩
 have c1:=h1.c1
 have hlt:=h1.lt
 clear h1 h2 H1 HG
 obtain ⟨i5,hi,hz0,hz1,hz2⟩:=info_parts Tryz.info5
 have HI:Hid (Tryz.prog.info? 5=some i5/\i5.zero=some (.int .u8 0)/\i5.size=1/\i5.bytes=1):=⟨hi,hz0,hz1,hz2⟩
 clear hi hz0 hz1 hz2
 go_wp2_with (at_builtin;refine Lib.wpList_append_own_string _ rfl _ _ 46 9 rfl B 5 i5 Tryz.underlying46 Tryz.underlying9 HI.out.1 HI.out.2.1 HI.out.2.2.1 HI.out.2.2.2 v bs.length bs rfl HB.out.2 s rfl (by simp only[maxLen];omega) (by omega) (by omega) ?_;intro v' w2 hown2 hgr2 hnil;obtain ⟨ao,cc,rfl⟩:=row_shape hown2;have hbk:Hid (w2.heap[b]?=w1.heap[b]?):=(hgr2.block b hlt (fun e=>h4 e.symm));have d1:=(HB.out.1.same hbk.out).c1;have d2:=(HB.out.1.same hbk.out).fz 1;have HG2:Hid (w1.grownBy w2 v.ownBlock/\w2.ownsRow B 5 1 (.slice ao (bs.length+s.size) cc) (bs.length+s.size) (bs++Lib.byteCells s.data.toList)):=⟨hgr2,by rw[<- strCells_eq];exact hown2⟩;clear hown2 hgr2 hnil)
 go_ret2
 have hb2:=HB.out.1.same hbk.out
 have hrow:∀g,v.ownBlock=some g->B<=g:=fun g hg=>(HB.out.2.lt g hg).1
 have hbel:Below B w1 w2:=(Below.refl B w1).grown HG2.out.1 (by omega) hrow
 have hne:(Value.slice ao (bs.length+s.size) cc).ownBlock≠some b:=by
  intro e
  obtain ⟨_,hc|⟨g,cap,cur,hv,_,hg,_⟩⟩:=HG2.out.2
  ·rw[hc.1] at e;simp[Value.ownBlock] at e
  ·rw[hv] at e
   have e2:g=b:=by simpa [Value.ownBlock] using e
   rw[e2] at hg
   have hb3:w2.heap[b]?=_:=hb2
   rw[hb3] at hg
   injection hg with hg
   injection hg with _ hg _
   exact absurd hg (by decide)
 have hn2:bs++Lib.byteCells s.data.toList≠[]:=by
  intro e
  have:=congrArg List.length e
  rw[List.length_append,HCL.out,List.length_nil] at this
  omega
 refine ⟨rfl,.inr ⟨⟨.slice ao (bs.length+s.size) cc,?_,?_,hne⟩,hn2⟩,HB1.out.trans (hbel.setCell hB _)⟩
 ·have:=heap_set hb2 1 (.slice ao (bs.length+s.size) cc)
  simpa [BB] using this
 ·have:=row_set HG2.out.2 hne 1 (.slice ao (bs.length+s.size) cc)
  rw[List.length_append,HCL.out]
  exact this
theorem cells_append(a b:ByteArray):Lib.byteCells (a++b).data.toList=Lib.byteCells a.data.toList++Lib.byteCells b.data.toList:=by
 simp[Lib.byteCells]
theorem tb_pos(s:ByteArray)(h:1<=s.size):0<(tb s).size:=by
 have e:(tb s).size=(tx (nums s)).length:=txt_size _
 have hl:=nums_len s
 rw[e]
 cases hn:nums s with
 |nil=>rw[hn] at hl;simp at hl;omega
 |cons x l=>
  have:=(tx1_len x).2
  simp only[tx,List.flatMap_cons,List.length_append]
  omega
theorem ptext_any(a:Option Addr)(n c:Nat)(ss:List ByteArray)(w:World)(h:Nm w a n ss):Calls Tryz.prog 9 #[.slice a n c] w fun e w'=>e=.returned (.tuple #[.string (ntext ss).1,.int .i64 (ntext ss).2])/\Hid (Below w.heap.size w w'):=by
 have KC:Hid (Calls Tryz.prog 17 #[.slice a n c] w fun e w'=>e=.returned (.int .i64 (nck ss))/\w'=w):=pm_check c h
 have HN:Hid (Nm w a n ss):=h
 have hn:=h.n63
 have HL:Hid (ss.length=n):=h.len
 by_cases hk:nck ss=0
 ·rw[hk] at KC
  have hsm:=(nck_small hk).1
  have HLB:Hid (∀s∈ss,1<=s.size):=fun s hs=>(chk_ok ((nck_small hk).2 s hs)).1
  by_cases h0:n=0
  ·have hp:ntext ss=(⟨#[46]⟩,0):=by unfold ntext;rw[if_pos hk,if_pos (by rw[h.len];exact h0)]
   rw[hp]
   subst h0
   clear h hk hp
   go_enter Tryz.func9,Tryz.ntmps9
   go_wp2_with fail
   refine KC.out.mono ?_
   rintro e w1 ⟨rfl,rfl⟩
   go_wp2
   go_ret2
   exact ⟨rfl,Below.refl _ _⟩
  ·have hp:ntext ss=(ntxt ss,0):=by unfold ntext;rw[if_pos hk,if_neg (by rw[h.len];exact h0)]
   rw[hp]
   have h0':((n:Int) == 0)=false:=by simp;omega
   have HSZ:Hid (∀k,k<=ss.length->(ntxt (ss.take k)).size<=1020):=fun k hk=>by have:=ntxt_size ss k hk;omega
   obtain ⟨R,hR⟩:∃R,ntxt ss=R:=⟨_,rfl⟩
   have HRR:Hid (ntxt ss=R):=hR
   rw[hR]
   clear h hk hp hR
   have H0:Hid (GS w.heap.size (w.alloc (.cells #[.pointer none,.slice none 0 0] 66)) w.heap.size []/\Below w.heap.size w (w.alloc (.cells #[.pointer none,.slice none 0 0] 66))):=⟨GS.fresh w,(Below.refl _ _).alloc (Nat.le_refl _) _⟩
   go_enter Tryz.func9,Tryz.ntmps9
   go_wp2_with fail
   refine KC.out.mono ?_
   rintro e w1 ⟨rfl,rfl⟩
   go_wp2_with fail
   go_loopw [18] (fun x wr=>∃(k:Nat) (t:ByteArray),k<=n/\x=.int .i64 k/\t.size<=1020/\Hid (ntxt (ss.take k)=t)/\Hid (GS w1.heap.size wr w1.heap.size (Lib.byteCells t.data.toList)/\Below w1.heap.size w1 wr)) (fun x _=>n - (intOf x).toNat)
   case atStart=>exact ⟨0,⟨#[]⟩,Nat.zero_le _,rfl,by decide,rfl,H0⟩
   case round=>
    clear H0
    obtain ⟨k,t,hkn,rfl,htz,HT,HB⟩:=hrel
    by_cases hlt:k<n
    ·have hlt':(k:Int)<(n:Int):=by omega
     have hks:k<ss.length:=by rw[HL.out];exact hlt
     obtain ⟨b,o,rfl,hb,hc⟩:=(HN.out.below HB.out.2).rd.at k hks
     have hsz:=Nat.le_trans (nsz_mem ss _ (List.getElem_mem hks)) hsm
     have HT2:Hid (ntxt (ss.take (k+1))=t++tb ss[k]++⟨#[46]⟩):=by show _=_;rw[take_snocT ss k hks,ntxt_snoc,HT.out]
     have hz2:=HSZ.out (k+1) (by omega)
     rw[HT2.out] at hz2
     have KT:Hid (∀W,Calls Tryz.prog 21 #[.string ss[k]] W fun e w'=>e=.returned (.string (tb ss[k]))/\Hid (Below W.heap.size W w')):=fun W=>text_any ss[k] W (by omega)
     have htb:(tb ss[k]).size<=1020:=by have:=tb_size ss[k];omega
     have htp:0<(tb ss[k]).size:=tb_pos _ (HLB.out _ (List.getElem_mem hks))
     generalize tb ss[k]=f at*
     generalize ss[k]=s at*
     have KW1:Hid (∀W,GS w1.heap.size W w1.heap.size (Lib.byteCells t.data.toList)->Calls Tryz.prog 20 #[.pointer (some ⟨w1.heap.size,0,none⟩),.string f] W fun e w'=>e=.returned (.tuple #[.int .i64 f.size,.nilIface])/\Hid (GS w1.heap.size w' w1.heap.size (Lib.byteCells (t++f).data.toList)/\Below w1.heap.size W w')):=fun W hW=>by
      have:=wstr w1.heap.size w1.heap.size _ f W hW (Nat.le_refl _) htp (by rw[Lib.byteCells_length];have:t.data.toList.length=t.size:=rfl;omega)
      rw[<- cells_append] at this
      exact this
     have KW2:Hid (∀W,GS w1.heap.size W w1.heap.size (Lib.byteCells (t++f).data.toList)->Calls Tryz.prog 20 #[.pointer (some ⟨w1.heap.size,0,none⟩),.string ⟨#[46]⟩] W fun e w'=>e=.returned (.tuple #[.int .i64 1,.nilIface])/\Hid (GS w1.heap.size w' w1.heap.size (Lib.byteCells (t++f++⟨#[46]⟩).data.toList)/\Below w1.heap.size W w')):=fun W hW=>by
      have:=wstr w1.heap.size w1.heap.size _ ⟨#[46]⟩ W hW (Nat.le_refl _) (by decide) (by rw[Lib.byteCells_length];have:(t++f).data.toList.length=(t++f).size:=rfl;rw[this,ByteArray.size_append];show _+1<=_;omega)
      rw[<- cells_append] at this
      exact this
     go_wp2_with fail
     refine (KT.out _).mono ?_
     rintro e w2 ⟨rfl,H2⟩
     have HG2:Hid (GS w1.heap.size w2 w1.heap.size (Lib.byteCells t.data.toList)/\Below w1.heap.size w1 w2):=by
      refine ⟨?_,HB.out.2.trans (H2.out.mono HB.out.2.size)⟩
      rcases HB.out.1 with ⟨g1,g2⟩|⟨⟨v,g1,g2,g3⟩,g4⟩
      ·exact .inl ⟨g1.same (H2.out.block _ g1.lt),g2⟩
      ·exact .inr ⟨⟨v,g1.same (H2.out.block _ g1.lt),g2.kept (row:=none) ⟨H2.out.os,H2.out.tape,H2.out.output,H2.out.size,fun k hk _=>H2.out.block k hk⟩ (by rcases hv:v.ownBlock with _|g;exact .inl rfl;exact .inr (by simp)),g3⟩,g4⟩
     clear hc KT HB H2
     go_wp2_with fail
     refine (KW1.out _ HG2.out.1).mono ?_
     rintro e w3 ⟨rfl,H3⟩
     go_wp2_with fail
     refine (KW2.out _ H3.out.1).mono ?_
     rintro e w4 ⟨rfl,H4⟩
     go_wp2
     refine ⟨⟨k+1,_,by omega,by go_num,hz2,HT2,H4.out.1,(HG2.out.2.trans H3.out.2).trans H4.out.2⟩,by simp[intOf];omega⟩
    ·have hge:(n:Int)<=(k:Int):=by omega
     have e:t=R:=by rw[<- HT.out,<- HRR.out,List.take_of_length_le (by rw[HL.out];omega)]
     subst e
     go_wp2_with fail
     refine (wstring w1.heap.size w1.heap.size t.data.toList _ HB.out.1 (by have:t.data.toList.length=t.size:=rfl;omega)).mono ?_
     rintro e w2 ⟨rfl,H2⟩
     go_wp2
     go_ret2
     exact ⟨rfl,HB.out.2.trans H2.out⟩
 ·have hp:ntext ss=(⟨#[]⟩,nck ss):=by unfold ntext;rw[if_neg hk]
  rw[hp]
  generalize nck ss=q at*
  have hq:(q != 0)=true:=bne_iff_ne.2 hk
  clear h hk hp
  go_enter Tryz.func9,Tryz.ntmps9
  go_wp2_with fail
  refine KC.out.mono ?_
  rintro e w1 ⟨rfl,rfl⟩
  go_wp2
  go_ret2
  exact ⟨rfl,Below.refl _ _⟩
def zstr(k:Nat):ByteArray:=⟨Array.replicate k 0⟩
theorem zstr_size(k:Nat):(zstr k).size=k:=by show (Array.replicate k (0:UInt8)).size=k;simp
theorem zeros_as (w : World) (ty : TypeId) (base : Option Addr) (sLen sCap k : Nat) (hk : k <= 1000) (hs : sLen <= 1000000) :
    (Builtin.append_ #[46, 3] ty #[.slice base sLen sCap, .int .i64 (k : Int)]).run Tryz.prog w = (Builtin.append_ #[46, 9] ty #[.slice base sLen sCap, .string (zstr k)]).run Tryz.prog w := by
  obtain ⟨i, hi, hz0, hz1, hz2⟩ := info_parts Tryz.info5
  have hw : IntKind.i64.wrap (k : Int) = k := by rw [IntKind.wrap_i64]; omega
  have hneg : ¬ ((k : Int) < 0) := by omega
  have h48 : ¬ (281474976710656 < (k : Int) * (i.bytes : Int)) := by rw [hz2]; omega
  have h48k : ¬ (281474976710656 < (k : Int)) := by omega
  have h63' : ¬ (9223372036854775807 < ((sLen : Int) + (k : Int))) := by omega
  have e1 : ∀ W, (Builtin.firstCells 1 k (.string (zstr k))).run Tryz.prog W = .ok (Array.replicate k (.int .u8 0)) W := fun W => by
    have := firstCells_string (P := Tryz.prog) (zstr k) W
    rw [zstr_size] at this
    rw [this]
    congr 1
    apply Array.ext'
    simp [byteCells, zstr]
  have e2 : Builtin.zeroCells (Value.int .u8 0).cells k = Array.replicate k (.int .u8 0) := by rw [zeros_eq]; simp
  have e3 : ∀ W : World, (if k * 1 = 0 then (pure #[] : Sem (Array Value)) else pure (Array.replicate k (.int .u8 0))).run Tryz.prog W = .ok (Array.replicate k (.int .u8 0)) W := fun W => by
    split
    · next h => have : k = 0 := by omega
                subst this; rfl
    · rfl
  have hw0 : IntKind.i64.wrap 0 = 0 := by rfl
  by_cases hr : sLen + k <= sCap
  · by_cases h0 : k = 0
    · subst h0
      have hr0 : sLen <= sCap := hr
      simp [Builtin.append_, run_underlying Tryz.underlying46, run_underlying Tryz.underlying3, run_underlying Tryz.underlying9, sizeOf, typeInfo, zeroValue, hi, hz0, hz1, hz2, asInt, asIntOf, hw, hneg, h48, h63', h48k, Builtin.lenOf, zstr_size, e1, e2, hw0, hr0]
    · simp [Builtin.append_, run_underlying Tryz.underlying46, run_underlying Tryz.underlying3, run_underlying Tryz.underlying9, sizeOf, typeInfo, zeroValue, hi, hz0, hz1, hz2, asInt, asIntOf, hw, hneg, h48, h63', h48k, Builtin.lenOf, zstr_size, e1, e2, h0, hr]
  · have hfit : ¬ 281474976710656 < Builtin.nextslicecap (sLen + k) sCap := by
      have := nextslicecap_le (need := sLen + k) (old := sCap) (by omega)
      omega
    by_cases h0 : k = 0
    · subst h0
      have hr0 : ¬ sLen <= sCap := hr
      have hfit0 : ¬ 281474976710656 < Builtin.nextslicecap sLen sCap := hfit
      have h630 : ¬ (9223372036854775807 < (sLen : Int)) := by omega
      simp [Builtin.append_, run_underlying Tryz.underlying46, run_underlying Tryz.underlying3, run_underlying Tryz.underlying9, sizeOf, typeInfo, zeroValue, hi, hz0, hz1, hz2, asInt, asIntOf, hw, hneg, h48, h63', h48k, Builtin.lenOf, zstr_size, e1, e2, hw0, hr0, hfit0, h630]
    · simp [Builtin.append_, run_underlying Tryz.underlying46, run_underlying Tryz.underlying3, run_underlying Tryz.underlying9, sizeOf, typeInfo, zeroValue, hi, hz0, hz1, hz2, asInt, asIntOf, hw, hneg, h48, h63', h48k, Builtin.lenOf, zstr_size, e1, e2, h0, hr, hfit]
theorem wpList_append_zeros(w:World){ops:Array Oper}{rest:List Oper}{o:Oper}{a:Act}{Q:Exit->Act->World->Prop}(hgd:o.guard=none)(s x:Operand)
  (ho:o.op=.call { callee:=.builtin .append,args:=#[s,x],argTypes:=#[46,3] }) (B:Nat) (v:Value) (n:Nat) (zs:List Int) (hs:a.eval s=v) (hown:Own B w v n zs)
  (k:Nat) (X:Int) (hx:a.eval x=.int .i64 X) (hX:X=(k:Int)) (hk:k<=1000) (hn:n<=1000000) (hB:B<=w.heap.size)
  (h:∀v' w' zs',Hid (Own B w' v' (n+k) zs')->Hid (zs'.take (n+k)=zs.take n++List.replicate k 0)->w.grownBy w' v.ownBlock->wpList Tryz.prog ops Q rest (a.put o.dst v') w'):wpList Tryz.prog ops Q (o::rest) a w:=by
 subst hX
 obtain ⟨ao,rfl,hA⟩:=hown.addr
 have hV:OwnV B w 5 (.slice ao n zs.length) n (zs.map (Value.int .u8)):=by
  rcases hown with ⟨h1,h2,h3⟩|⟨g,h1,h2,h3,h4,h5⟩
  ·subst h3;injection h1 with h1 _ _;subst h1;subst h2;exact .inl ⟨rfl,rfl,rfl⟩
  ·exact .inr ⟨g,by rw[h1];simp,h2,h3.1,by simpa using h4,by simpa using h5⟩
 obtain ⟨v',w',xs',hr,h1,h2,h3,h4,h5⟩:=run_append_row tyB w B 9 o.type _ n _ hV (.string (zstr k)) k _ (by have:=Src.ofString (P:=Tryz.prog) w (tx:=9) Tryz.underlying9 (zstr k);rw[zstr_size] at this;exact this) (by simp;omega) (by simp only[maxLen];omega) hB
 rw[<- zeros_as w o.type ao n zs.length k hk hn] at hr
 have hb:byteCells (zstr k)=(List.replicate k (0:Int)).map (Value.int .u8):=by simp[byteCells,zstr]
 obtain ⟨zs',e1,e2⟩:=bytes_of xs' (h4 QB ⟨0,rfl,by omega,by omega⟩ (by
  intro u hu
  obtain ⟨z,hz,rfl⟩:=List.mem_map.1 hu
  exact ⟨z,rfl,(rd_all hA.rd) z hz⟩) (by
  rw[hb]
  intro u hu
  obtain ⟨z,hz,rfl⟩:=List.mem_map.1 hu
  rw[List.mem_replicate] at hz
  exact ⟨z,rfl,by omega,by omega⟩))
 subst e1
 refine Lib.wpList_append_run w hgd s x 46 3 ho _ _ hs hx v' w' hr (h v' w' zs' ?_ ?_ h3)
 ·rcases h1 with ⟨g1,g2,g3⟩|⟨g,g1,g2,g3,g4,g5⟩
  ·have:zs'=[]:=by simpa using g3
   subst this
   exact .inl ⟨g1,g2,rfl⟩
  ·exact .inr ⟨g,by rw[g1];simp,g2,⟨g3,e2⟩,by simpa using g4,by simpa using g5⟩
 ·rw[hb,<- List.map_take,<- List.map_take,<- List.map_append] at h2
  exact int_inj h2
end Go.Proofs.YtjkljpdolhglcaaGreatDoor
namespace Go.Proofs.YtjkljpdolhglcaaGreatDoor
open Go.ChangeShapes Go.WideShapes Go.ChangeAt Go.RowKit Go.Sort
theorem xsplit_len(c:Int)(l:List Int):∀p∈xsplit c l,p.length<=l.length:=by
 induction l with
 |nil=>intro p hp;simp[xsplit] at hp;subst hp;simp
 |cons x l ih=>
  intro p hp
  simp only[xsplit] at hp
  split at hp
  ·rcases List.mem_cons.1 hp with rfl|hp
   ·simp
   ·have:=ih p hp;simp;omega
  ·split at hp
   ·simp at hp;subst hp;simp
   ·next q qs hq=>
    rcases List.mem_cons.1 hp with rfl|hp
    ·have:=ih q (by rw[hq];simp);simp;omega
    ·have:=ih p (by rw[hq];simp[hp]);simp;omega
theorem xsplit_many(c:Int)(l:List Int):(xsplit c l).length<=l.length+1/\1<=(xsplit c l).length:=by
 induction l with
 |nil=>simp[xsplit]
 |cons x l ih=>
  simp only[xsplit]
  split
  ·simp;omega
  ·split
   ·simp
   ·next q qs hq=>rw[hq] at ih;simp at ih ⊢;omega
def SplitPost(c:UInt8)(s:ByteArray)(w:World)(e:Ending)(w':World):Prop:=
 ∃ps,e=.returned (.slice (some ⟨w.heap.size,0,none⟩) ps.length ps.length)/\ps.length<=s.size+1/\Hid (ps.map nums=xsplit c.toNat (nums s))/\Hid (RdT w' (some ⟨w.heap.size,0,none⟩) ps)/\Hid (Below w.heap.size w w')/\Hid (∀p∈ps,p.size<=s.size)
theorem split_any(c:UInt8)(s:ByteArray)(w:World)(hs:s.size<4294967281)(hE:LayE w):Calls Tryz.prog 203 #[.string s,.string ⟨#[c]⟩] w (SplitPost c s w):=by
 obtain ⟨_,_,_,m,hm⟩:=hE
 refine (Tryz.strings_Split s ⟨#[c]⟩ m w hs hm (show 1<=1 from Nat.le_refl _)).mono ?_
 rintro e w' ⟨rfl,rfl⟩
 have hx:(Lib.splitB ⟨#[c]⟩ 0 (Lib.countB s ⟨#[c]⟩) s).map nums=xsplit c.toNat (nums s):=split_b c s
 have hl:=splitB_len c s
 generalize Lib.splitB ⟨#[c]⟩ 0 (Lib.countB s ⟨#[c]⟩) s=ps at*
 refine ⟨ps,by rw[hl],?_,hx,?_,(Below.refl _ _).alloc (Nat.le_refl _) _,?_⟩
 ·have:=(xsplit_many c.toNat (nums s)).1
  rw[<- hx,List.length_map,nums_len] at this
  exact this
 ·have:=(show BlkV (w.alloc (.cells (tv ps).toArray 9)) w.heap.size 9 (tv ps) from heap_alloc_new _ _).rd (tv ps).length
  rw[List.take_length] at this
  exact this
 ·intro p hp
  have:=xsplit_len c.toNat (nums s) (nums p) (by rw[<- hx];exact List.mem_map_of_mem hp)
  rw[nums_len,nums_len] at this
  exact this
theorem mapM_snoc{α β:Type}(f:α->Option β)(l:List α)(ns:List β)(x:α)(h:l.mapM f=some ns):(l++[x]).mapM f=(f x).map (fun y=>ns++[y]):=by
 induction l generalizing ns with
 |nil=>
  simp at h;subst h
  simp[List.mapM_cons]
  cases f x <;> rfl
 |cons a l ih=>
  rw[List.mapM_cons] at h
  rw[List.cons_append,List.mapM_cons]
  cases ha:f a with
  |none=>rw[ha] at h;cases h
  |some b=>
   rw[ha] at h
   cases hl:l.mapM f with
   |none=>rw[hl] at h;cases h
   |some bs=>
    rw[hl] at h
    injection h with h
    subst h
    rw[ih bs hl]
    cases f x <;> rfl
theorem mapM_bad{α β:Type}(f:α->Option β)(l:List α)(x:α)(r:List α)(h:f x=none):(l++x::r).mapM f=none:=by
 induction l with
 |nil=>rw[List.nil_append,List.mapM_cons,h];rfl
 |cons a l ih=>
  rw[List.cons_append,List.mapM_cons,ih]
  cases f a <;> rfl
theorem take_cons(l:List ByteArray)(k:Nat)(h:k<l.length):l=l.take k++l[k]::l.drop (k+1):=by
 rw[<- List.drop_eq_getElem_cons h,List.take_append_drop]
def ByPost(o:Option (List Int))(w:World)(e:Ending)(w':World):Prop:=
 (∀out,o=some out->∃v ys,e=.returned (.tuple #[v,.bool true])/\Hid (Own w.heap.size w' v out.length ys/\ys.take out.length=out/\Below w.heap.size w w'))/\
 (o=none->e=.returned (.tuple #[.slice none 0 0,.bool false])/\Hid (Below w.heap.size w w'))
theorem new_rd2(w:World)(a b:Int)(ha:0<=a/\a<=255)(hb:0<=b/\b<=255):Rd (w.alloc (.cells #[.int .u8 a,.int .u8 b] 5)) (some ⟨w.heap.size,0,none⟩) [a,b]:=by
 refine ⟨.inr ⟨w.heap.size,0,rfl,by simp,fun i hi=>?_⟩,?_⟩
 ·unfold World.cell?
  rw[heap_alloc_new]
  match i,hi with
  |0,_=>rfl
  |1,_=>rfl
 ·intro z hz
  simp at hz
  rcases hz with rfl|rfl
  ·exact ha
  ·exact hb
theorem Own.mono{B B':Nat}{w:World}{v:Value}{n:Nat}{zs:List Int}(h:Own B w v n zs)(hB:B'<=B):Own B' w v n zs:=by
 rcases h with h|⟨g,h1,h2,h3⟩
 ·exact .inl h
 ·exact .inr ⟨g,h1,Nat.le_trans hB h2,h3⟩
theorem pairs_any(s:ByteArray)(w:World)(hs:s.size<4294967281)(hE:LayE w):Calls Tryz.prog 205 #[.string s] w (ByPost (xgrps (nums s)) w):=by
 have HE:Hid (LayE w):=hE
 clear hE
 by_cases h0:s.size=0
 ·have e:=ba_nil (s:=s) (List.length_eq_zero_iff.1 h0)
  subst e
  clear HE
  go_enter Tryz.func205,Tryz.ntmps205
  go_wp2_with fail
  go_ret2
  refine ⟨fun out h=>⟨_,[],rfl,?_⟩,fun h=>?_⟩
  ·have e:out=[]:=by
    have:xgrps (nums ⟨#[]⟩)=some []:=rfl
    rw[this] at h;injection h with h;exact h.symm
   subst e
   exact ⟨.inl ⟨rfl,rfl,rfl⟩,rfl,Below.refl _ _⟩
  ·have:xgrps (nums ⟨#[]⟩)=some []:=rfl
   rw[this] at h;cases h
 ·have hne:(s.toList == [])=false:=by
   rw[ByteArray.toList_eq]
   cases h:s.data.toList with
   |nil=>exact absurd (show s.size=0 by have:s.data.toList.length=s.size:=rfl;rw[h] at this;exact this.symm) h0
   |cons a l=>rfl
  have HG:Hid (xgrps (nums s)=((xsplit 58 (nums s)).mapM xgrp).map fun ns=>ns.flatMap xby):=by
   show _=_
   unfold xgrps
   rw[if_neg]
   intro e
   have:=nums_len s
   rw[e] at this
   exact h0 this.symm
  go_enter Tryz.func205,Tryz.ntmps205
  go_wp2_with fail
  refine (split_any 58 s w hs HE.out).mono ?_
  rintro e w1 ⟨ps,rfl,hpl,HX,HR,HB,HZ⟩
  have HG2:Hid (xgrps (nums s)=((ps.map nums).mapM xgrp).map fun ns=>ns.flatMap xby):=by rw[HX.out];exact HG.out
  clear HG HX
  go_wp2_with fail
  go_loopw [4,14] (fun v x wr=>∃(k:Nat) (ns:List Nat),k<=ps.length/\x=.int .i64 k/\Hid (((ps.take k).map nums).mapM xgrp=some ns/\ns.length=k)/\Hid (∃ys,Own w1.heap.size wr v (2*k) ys/\ys.take (2*k)=ns.flatMap xby)/\Hid (Below w1.heap.size w1 wr)) (fun _ x _=>ps.length - (intOf x).toNat)
  case atStart=>exact ⟨0,[],Nat.zero_le _,rfl,⟨rfl,rfl⟩,⟨[],.inl ⟨rfl,rfl,rfl⟩,rfl⟩,Below.refl _ _⟩
  case round=>
   obtain ⟨k,ns,hk,rfl,HN,HW,HB2⟩:=hrel
   by_cases hlt:k<ps.length
   ·have hlt':(k:Int)<(ps.length:Int):=by omega
    obtain ⟨b,o,hbo,hb,hc⟩:=(HR.out.below HB2.out).at k hlt
    injection hbo with hbo
    injection hbo with hb1 ho1
    subst hb1;subst ho1
    rw[Nat.zero_add] at hc
    have hpz:=HZ.out ps[k] (List.getElem_mem hlt)
    have HE2:=Lib.hid (HE.out.below (HB.out.trans (HB2.out.mono HB.out.size)))
    have HP:Hid (∀u,xgrp (nums ps[k])=some u->((ps.take (k+1)).map nums).mapM xgrp=some (ns++[u])):=by
     intro u hu
     rw[take_snocT ps k hlt,List.map_append]
     have:=mapM_snoc xgrp _ ns (nums ps[k]) HN.out.1
     rw[hu] at this
     exact this
    have HQ:Hid (xgrp (nums ps[k])=none->xgrps (nums s)=none):=by
     intro hu
     rw[HG2.out]
     have e:=congrArg (List.map nums) (take_cons ps k hlt)
     rw[List.map_append,List.map_cons] at e
     rw[e,mapM_bad xgrp _ _ _ hu]
     rfl
    generalize ps[k]=p at*
    by_cases hok:∃u,puH p.data.toList=.ok u
    ·obtain ⟨u,hu⟩:=hok
     have K:=Lib.hid (fun W=>pu16_ok p (by omega) u hu W)
     have hu2:u<=65535:=by
      unfold puH at hu
      split at hu
      ·cases hu
      ·exact puX_lt _ 0 u (by omega) hu
     by_cases h4:p.size<=4
     ·have h4':¬ (4:Int)<(p.size:Int):=by omega
      have hg:=(puH_grp p.data.toList u).1 ⟨hu,h4⟩
      have HNS:=Lib.hid (HP.out u hg)
      clear hu hg HP HQ
      have hw1:IntKind.u8.wrap (u:Int)=((u % 256:Nat):Int):=by rw[IntKind.wrap_u8];omega
      have hw2:IntKind.u8.wrap ((u:Int) / 256)=((u / 256:Nat):Int):=by rw[IntKind.wrap_u8];omega
      go_wp2_with fail
      refine (K.out _).mono ?_
      rintro e w2 ⟨rfl,H2⟩
      obtain ⟨ys,hO,hT⟩:=HW.out
      have hnb:Below w2.heap.size w2 (w2.alloc (.cells #[.int .u8 ((u:Int) / 256),.int .u8 ((u:Int) % 256)] 5)):=(Below.refl _ _).alloc (Nat.le_refl _) _
      have HO2:Hid (Own w1.heap.size (w2.alloc (.cells #[.int .u8 ((u:Int) / 256),.int .u8 ((u:Int) % 256)] 5)) u4 (2*k) ys/\ys.take (2*k)=ns.flatMap xby):=⟨(hO.below H2.out).below hnb,hT⟩
      have HR2:Hid (Rd (w2.alloc (.cells #[.int .u8 ((u:Int) / 256),.int .u8 ((u:Int) % 256)] 5)) (some ⟨w2.heap.size,0,none⟩) [(u:Int) / 256,(u:Int) % 256]):=new_rd2 w2 _ _ (by omega) (by omega)
      have HNB:Hid (Below w2.heap.size w2 (w2.alloc (.cells #[.int .u8 ((u:Int) / 256),.int .u8 ((u:Int) % 256)] 5))):=hnb
      have HB3:Hid (Below w1.heap.size w1 w2):=HB2.out.trans (H2.out.mono HB2.out.size)
      clear hO hT hnb HW H2 HB2
      go_wp2_with (at_builtin;refine wpList_append_blk _ rfl _ _ rfl w1.heap.size _ (2*k) ys rfl HO2.out.1 (some ⟨w2.heap.size,0,none⟩) 2 2 [(u:Int) / 256,(u:Int) % 256] rfl HR2.out rfl (by simp) (by omega) (Nat.le_trans HB3.out.size HNB.out.size) ?_;intro v' w' ys' hO' hT' hG')
      have hrow:=HO2.out.1.lt
      refine ⟨⟨k+1,ns++[u],by omega,by go_num,⟨HNS.out,by rw[List.length_append,HN.out.2];rfl⟩,⟨ys',?_,?_⟩,?_⟩,by simp[intOf];omega⟩
      ·exact hO'.out
      ·rw[show 2*(k+1)=2*k+2 by omega,hT'.out,HO2.out.2,List.flatMap_append]
       simp[xby]
      ·exact (HB3.out.trans (HNB.out.mono HB3.out.size)).grown hG' (Nat.le_trans HB3.out.size HNB.out.size) hrow
     ·have h4':(4:Int)<(p.size:Int):=by omega
      have HQ2:=Lib.hid (HQ.out (by
       cases hx:xgrp (nums p) with
       |none=>rfl
       |some v=>exact absurd ((puH_grp p.data.toList v).2 hx).2 h4))
      clear hu HP HQ
      go_wp2_with fail
      refine (K.out _).mono ?_
      rintro e w2 ⟨rfl,H2⟩
      have HB3:Hid (Below w.heap.size w w2):=HB.out.trans ((HB2.out.trans (H2.out.mono HB2.out.size)).mono HB.out.size)
      go_wp2_with fail
      go_ret2
      exact ⟨fun out h=>(by rw[HQ2.out] at h;cases h),fun _=>⟨rfl,HB3.out⟩⟩
    ·have K:=Lib.hid (pu16_no p (by omega) (fun u hu=>hok ⟨u,hu⟩) wr HE2.out)
     have HQ2:=Lib.hid (HQ.out (by
      cases hx:xgrp (nums p) with
      |none=>rfl
      |some v=>exact absurd ⟨v,((puH_grp p.data.toList v).2 hx).1⟩ hok))
     clear hok HP HQ
     go_wp2_with fail
     refine K.out.mono ?_
     rintro e w2 ⟨x,N,rfl,H2⟩
     have HB3:Hid (Below w.heap.size w w2):=HB.out.trans ((HB2.out.trans (H2.out.mono HB2.out.size)).mono HB.out.size)
     go_wp2_with fail
     go_ret2
     exact ⟨fun out h=>(by rw[HQ2.out] at h;cases h),fun _=>⟨rfl,HB3.out⟩⟩
   ·have hge:¬ (k:Int)<(ps.length:Int):=by omega
    have HF:Hid (xgrps (nums s)=some (ns.flatMap xby)):=by
     show _=_
     have:=HN.out.1
     rw[List.take_of_length_le (by omega)] at this
     rw[HG2.out,this];rfl
    have HB3:Hid (Below w.heap.size w wr):=HB.out.trans (HB2.out.mono HB.out.size)
    go_wp2_with fail
    go_ret2
    refine ⟨fun out h=>?_,fun h=>(by rw[HF.out] at h;cases h)⟩
    rw[HF.out] at h
    injection h with h
    subst h
    obtain ⟨ys,hO,hT⟩:=HW.out
    have hl:(ns.flatMap xby).length=2*k:=by rw[xby_len,HN.out.2]
    rw[hl]
    exact ⟨_,ys,rfl,hO.mono HB.out.size,hT,HB3.out⟩
theorem short_any(s:ByteArray)(w:World)(hs:s.size<4294967281)(hE:LayE w):Calls Tryz.prog 186 #[.string s] w (ByPost (xfour (nums s)) w):=by
 have HE:Hid (LayE w):=hE
 clear hE
 go_enter Tryz.func186,Tryz.ntmps186
 go_wp2_with fail
 refine (split_any 46 s w hs HE.out).mono ?_
 rintro e w1 ⟨ps,rfl,hpl,HX,HR,HB,HZ⟩
 have HG2:Hid (xfour (nums s)=((ps.map nums).mapM fun p=>xnum p 256).bind fun a=>if a.length=4 then some (a.map Int.ofNat) else none):=by show _=_;rw[HX.out];rfl
 clear HX
 by_cases h4:ps.length=4
 ·have h4b:((ps.length:Int) != 4)=false:=by simp;omega
  have H4:Hid (ps.length=4):=h4
  clear h4
  go_wp2_with fail
  go_loopw [5,17] (fun v x wr=>∃(k:Nat) (ns:List Nat),k<=ps.length/\x=.int .i64 k/\Hid (((ps.take k).map nums).mapM (fun p=>xnum p 256)=some ns/\ns.length=k)/\Hid (∃ys,Own w1.heap.size wr v k ys/\ys.take k=ns.map Int.ofNat)/\Hid (Below w1.heap.size w1 wr)) (fun _ x _=>ps.length - (intOf x).toNat)
  case atStart=>exact ⟨0,[],Nat.zero_le _,rfl,⟨rfl,rfl⟩,⟨[],.inl ⟨rfl,rfl,rfl⟩,rfl⟩,Below.refl _ _⟩
  case round=>
   obtain ⟨k,ns,hk,rfl,HN,HW,HB2⟩:=hrel
   by_cases hlt:k<ps.length
   ·have hlt':(k:Int)<(ps.length:Int):=by omega
    obtain ⟨b,o,hbo,hb,hc⟩:=(HR.out.below HB2.out).at k hlt
    injection hbo with hbo
    injection hbo with hb1 ho1
    subst hb1;subst ho1
    rw[Nat.zero_add] at hc
    have hpz:=HZ.out ps[k] (List.getElem_mem hlt)
    have HE2:=Lib.hid (HE.out.below (HB.out.trans (HB2.out.mono HB.out.size)))
    have HP:Hid (∀u,xnum (nums ps[k]) 256=some u->((ps.take (k+1)).map nums).mapM (fun p=>xnum p 256)=some (ns++[u])):=by
     intro u hu
     rw[take_snocT ps k hlt,List.map_append]
     have:=mapM_snoc (fun p=>xnum p 256) _ ns (nums ps[k]) HN.out.1
     rw[hu] at this
     exact this
    have HQ:Hid (xnum (nums ps[k]) 256=none->xfour (nums s)=none):=by
     intro hu
     rw[HG2.out]
     have e:=congrArg (List.map nums) (take_cons ps k hlt)
     rw[List.map_append,List.map_cons] at e
     rw[e,mapM_bad (fun p=>xnum p 256) _ _ _ hu]
     rfl
    generalize ps[k]=p at*
    cases hx:xnum (nums p) 256 with
    |some u=>
     have K:=Lib.hid (fun W=>num_yes 8 (.inl rfl) p (by omega) u hx W)
     have hu2:u<=255:=by have:=(xnum_some hx).2;omega
     have HNS:=Lib.hid (HP.out u hx)
     clear hx HP HQ
     have hw1:IntKind.u8.wrap (u:Int)=(u:Int):=by rw[IntKind.wrap_u8];omega
     go_wp2_with fail
     refine (K.out _).mono ?_
     rintro e w2 ⟨rfl,H2⟩
     obtain ⟨ys,hO,hT⟩:=HW.out
     have hnb:Below w2.heap.size w2 (w2.alloc (.cells #[.int .u8 (u:Int)] 5)):=(Below.refl _ _).alloc (Nat.le_refl _) _
     have HO2:Hid (Own w1.heap.size (w2.alloc (.cells #[.int .u8 (u:Int)] 5)) u5 k ys/\ys.take k=ns.map Int.ofNat):=⟨(hO.below H2.out).below hnb,hT⟩
     have HR2:Hid (Rd (w2.alloc (.cells #[.int .u8 (u:Int)] 5)) (some ⟨w2.heap.size,0,none⟩) [(u:Int)]):=new_rd w2 _ (by omega)
     have HNB:Hid (Below w2.heap.size w2 (w2.alloc (.cells #[.int .u8 (u:Int)] 5))):=hnb
     have HB3:Hid (Below w1.heap.size w1 w2):=HB2.out.trans (H2.out.mono HB2.out.size)
     clear hO hT hnb HW H2 HB2
     go_wp2_with (at_builtin;refine wpList_append_blk _ rfl _ _ rfl w1.heap.size _ k ys rfl HO2.out.1 (some ⟨w2.heap.size,0,none⟩) 1 1 [(u:Int)] rfl HR2.out rfl (by simp) (by omega) (Nat.le_trans HB3.out.size HNB.out.size) ?_;intro v' w' ys' hO' hT' hG')
     have hrow:=HO2.out.1.lt
     refine ⟨⟨k+1,ns++[u],by omega,by go_num,⟨HNS.out,by rw[List.length_append,HN.out.2];rfl⟩,⟨ys',?_,?_⟩,?_⟩,by simp[intOf];omega⟩
     ·exact hO'.out
     ·rw[hT'.out,HO2.out.2,List.map_append];rfl
     ·exact (HB3.out.trans (HNB.out.mono HB3.out.size)).grown hG' (Nat.le_trans HB3.out.size HNB.out.size) hrow
    |none=>
     have K:=Lib.hid (num_no 8 (.inl rfl) p (by omega) hx wr HE2.out)
     have HQ2:=Lib.hid (HQ.out hx)
     clear hx HP HQ
     go_wp2_with fail
     refine K.out.mono ?_
     rintro e w2 ⟨x,rfl,H2⟩
     have HB3:Hid (Below w.heap.size w w2):=HB.out.trans ((HB2.out.trans (H2.out.mono HB2.out.size)).mono HB.out.size)
     go_wp2_with fail
     go_ret2
     exact ⟨fun out h=>(by rw[HQ2.out] at h;cases h),fun _=>⟨rfl,HB3.out⟩⟩
   ·have hge:¬ (k:Int)<(ps.length:Int):=by omega
    have HF:Hid (xfour (nums s)=some (ns.map Int.ofNat)):=by
     show _=_
     have h1:=HN.out.1
     rw[List.take_of_length_le (by omega)] at h1
     rw[HG2.out,h1,Option.bind_some,if_pos (by rw[HN.out.2];have:=H4.out;omega)]
    have HB3:Hid (Below w.heap.size w wr):=HB.out.trans (HB2.out.mono HB.out.size)
    go_wp2_with fail
    go_ret2
    refine ⟨fun out h=>?_,fun h=>(by rw[HF.out] at h;cases h)⟩
    rw[HF.out] at h
    injection h with h
    subst h
    obtain ⟨ys,hO,hT⟩:=HW.out
    have hl:(ns.map Int.ofNat).length=k:=by rw[List.length_map,HN.out.2]
    rw[hl]
    exact ⟨_,ys,rfl,hO.mono HB.out.size,hT,HB3.out⟩
 ·have h4b:((ps.length:Int) != 4)=true:=by simp;omega
  have HQ:Hid (xfour (nums s)=none):=by
   show _=_
   rw[HG2.out]
   cases hm:(ps.map nums).mapM (fun p=>xnum p 256) with
   |none=>rfl
   |some a=>
    rw[Option.bind_some,if_neg]
    have:∀(l:List (List Int)) (a:List Nat),l.mapM (fun p=>xnum p 256)=some a->a.length=l.length:=by
     intro l
     induction l with
     |nil=>intro a h;simp at h;subst h;rfl
     |cons x l ih=>
      intro a h
      rw[List.mapM_cons] at h
      cases hx:xnum x 256 with
      |none=>rw[hx] at h;cases h
      |some u=>
       rw[hx] at h
       cases hl:l.mapM (fun p=>xnum p 256) with
       |none=>rw[hl] at h;cases h
       |some b=>rw[hl] at h;injection h with h;subst h;simp[ih b hl]
    rw[this _ _ hm,List.length_map]
    exact h4
  go_wp2_with fail
  go_ret2
  exact ⟨fun out h=>(by rw[HQ.out] at h;cases h),fun _=>⟨rfl,HB.out⟩⟩
theorem xgrps_even{l out:List Int}(h:xgrps l=some out):∃k,out.length=2*k:=by
 unfold xgrps at h
 split at h
 ·injection h with h;subst h;exact ⟨0,rfl⟩
 ·rw[Option.map_eq_some_iff] at h
  obtain ⟨ns,_,rfl⟩:=h
  exact ⟨ns.length,xby_len ns⟩
theorem mapM_len{α β:Type}(f:α->Option β):∀(l:List α) (a:List β),l.mapM f=some a->a.length=l.length:=by
 intro l
 induction l with
 |nil=>intro a h;simp at h;subst h;rfl
 |cons x l ih=>
  intro a h
  rw[List.mapM_cons] at h
  cases hx:f x with
  |none=>rw[hx] at h;cases h
  |some u=>
   rw[hx] at h
   cases hl:l.mapM f with
   |none=>rw[hl] at h;cases h
   |some b=>rw[hl] at h;injection h with h;subst h;simp[ih b hl]
theorem xgrps_le{l out:List Int}(h:xgrps l=some out):out.length<=2*(l.length+1):=by
 unfold xgrps at h
 split at h
 ·injection h with h;subst h;simp
 ·rw[Option.map_eq_some_iff] at h
  obtain ⟨ns,h1,rfl⟩:=h
  have h2:=mapM_len _ _ _ h1
  have h3:=(xsplit_many 58 l).1
  rw[xby_len]
  omega
def CutF(s f b:ByteArray)(g:Bool):Prop:=(g=true/\xdc (nums s)=some (nums f,nums b))∨(g=false/\xdc (nums s)=none/\f=s/\b=⟨#[]⟩)
theorem cut_any(s:ByteArray)(w:World)(hs:s.size<4294967281)(hE:LayE w) :
  Calls Tryz.prog 204 #[.string s,.string ⟨#[58,58]⟩] w fun e w'=>∃f b g,e=.returned (.tuple #[.string f,.string b,.bool g])/\Hid (CutF s f b g)/\f.size<=s.size/\b.size<=s.size/\Hid (Below w.heap.size w w'):=by
 obtain ⟨_,_,_,m,hm⟩:=hE
 refine (Tryz.strings_Cut s ⟨#[58,58]⟩ m w hs hm).mono ?_
 rintro e w' ⟨rfl,n,rfl⟩
 have hb:Below w.heap.size w (w.drewN n):=⟨rfl,rfl,rfl,Nat.le_refl _,fun _ _=>rfl⟩
 have hmk:∀l:List UInt8,(⟨l.toArray⟩:ByteArray).data.toList=l:=fun l=>by simp
 have hsz:∀l:List UInt8,(⟨l.toArray⟩:ByteArray).size=l.length:=fun l=>by show l.toArray.size=_;simp
 have hself:(⟨s.data.toList.toArray⟩:ByteArray)=s:=by apply ByteArray.ext;simp
 have h58:(⟨#[58,58]⟩:ByteArray).data.toList=[58,58]:=rfl
 rw[h58]
 cases hx:xdc (bi s.data.toList) with
 |none=>
  rw[cut_none _ hx]
  refine ⟨_,_,_,rfl,.inr ⟨rfl,hx,hself,rfl⟩,by rw[hself];exact Nat.le_refl _,by rw[hsz];exact Nat.zero_le _,hb⟩
 |some p=>
  obtain ⟨p,r⟩:=p
  obtain ⟨a,b,e,h1,h2⟩:=cut_some _ p r hx
  obtain ⟨a',b',e',_,_,_⟩:=(index_cc s.data.toList).2 p r hx
  have hl:a.length<=s.size/\b.length<=s.size:=by
   unfold Lib.cut at e
   split at e
   ·have e1:=congrArg (fun x=>x.1.length) e
    have e2:=congrArg (fun x=>x.2.1.length) e
    simp only[List.length_take,List.length_drop] at e1 e2
    have:s.data.toList.length=s.size:=rfl
    omega
   ·exact absurd (congrArg (fun x=>x.2.2) e) (by simp)
  rw[e]
  refine ⟨_,_,_,rfl,.inl ⟨rfl,?_⟩,by rw[hsz];exact hl.1,by rw[hsz];exact hl.2,hb⟩
  rw[nums_bi,hx,nums_bi,nums_bi,hmk,hmk,h1,h2]
theorem tail_rd{B:Nat}{w w':World}{bo:Option Addr}{n:Nat}{zs ob:List Int}{v:Value}(h:Own B w (.slice bo n zs.length) n zs)(ht:zs.take n=ob)(hg:w.grownBy w' v.ownBlock)(hr:∀g,v.ownBlock=some g->g<B):Rd w' bo ob:=by
 obtain ⟨bo',e,hA⟩:=h.addr
 injection e with e _ _
 subst e
 have hk:=hA.keep (w':=w') (fun g h1 h2=>hg.block g h2 (fun e=>by
  have h3:=(hA.lt g h1).1
  have h4:=hr g e.symm
  omega))
 have:=hk.rdTake n
 rw[ht] at this
 exact this
theorem long_any(s:ByteArray)(w:World)(hs:s.size<4294967281)(hE:LayE w):Calls Tryz.prog 187 #[.string s] w (ByPost (xsix (nums s)) w):=by
 have HE:Hid (LayE w):=hE
 clear hE
 go_enter Tryz.func187,Tryz.ntmps187
 go_wp2_with fail
 refine (cut_any s w hs HE.out).mono ?_
 rintro e w1 ⟨f,b,g,rfl,HC,hf,hb,H1⟩
 have K1:=Lib.hid (pairs_any f w1 (by omega) (HE.out.below H1.out))
 go_wp2_with fail
 refine K1.out.mono ?_
 intro e w2 HP1
 have HP1:=Lib.hid HP1
 clear K1
 cases ha:xgrps (nums f) with
 |none=>
  obtain ⟨rfl,H2⟩:=HP1.out.2 ha
  have HB2:Hid (Below w.heap.size w w2):=H1.out.trans (H2.out.mono H1.out.size)
  have K2:=Lib.hid (pairs_any b w2 (by omega) (HE.out.below HB2.out))
  have HX:Hid (xsix (nums s)=none):=by
   show _=_
   unfold xsix
   rcases HC.out with ⟨_,h⟩|⟨_,h,rfl,_⟩
   ·rw[h];simp only;rw[ha];rfl
   ·rw[h];simp only;rw[ha];rfl
  clear HP1 H2
  go_wp2_with fail
  refine K2.out.mono ?_
  intro e w3 HP2
  have HP2:=Lib.hid HP2
  clear K2
  cases hb2:xgrps (nums b) with
  |none=>
   obtain ⟨rfl,H3⟩:=HP2.out.2 hb2
   have HB3:Hid (Below w.heap.size w w3):=HB2.out.trans (H3.out.mono HB2.out.size)
   clear HP2
   go_wp2_with fail
   go_ret2
   exact ⟨fun out h=>(by rw[HX.out] at h;cases h),fun _=>⟨rfl,HB3.out⟩⟩
  |some ob=>
   obtain ⟨v,ys,rfl,H3⟩:=HP2.out.1 ob hb2
   have HB3:Hid (Below w.heap.size w w3):=HB2.out.trans (H3.out.2.2.mono HB2.out.size)
   obtain ⟨ao,rfl,hA⟩:=H3.out.1.addr
   clear HP2 hA
   go_wp2_with fail
   go_ret2
   exact ⟨fun out h=>(by rw[HX.out] at h;cases h),fun _=>⟨rfl,HB3.out⟩⟩
 |some oa=>
  obtain ⟨va,za,rfl,H2⟩:=HP1.out.1 oa ha
  have HB2:Hid (Below w.heap.size w w2):=H1.out.trans (H2.out.2.2.mono H1.out.size)
  have K2:=Lib.hid (pairs_any b w2 (by omega) (HE.out.below HB2.out))
  obtain ⟨ao,rfl,hA⟩:=H2.out.1.addr
  clear HP1 hA
  go_wp2_with fail
  refine K2.out.mono ?_
  intro e w3 HP2
  have HP2:=Lib.hid HP2
  clear K2
  cases hb2:xgrps (nums b) with
  |none=>
   obtain ⟨rfl,H3⟩:=HP2.out.2 hb2
   have HX:Hid (xsix (nums s)=none):=by
    show _=_
    unfold xsix
    rcases HC.out with ⟨_,h⟩|⟨_,h,rfl,rfl⟩
    ·rw[h];simp only;rw[ha,hb2];rfl
    ·exact absurd hb2 (by decide)
   have HB3:Hid (Below w.heap.size w w3):=HB2.out.trans (H3.out.mono HB2.out.size)
   clear HP2
   go_wp2_with fail
   go_ret2
   exact ⟨fun out h=>(by rw[HX.out] at h;cases h),fun _=>⟨rfl,HB3.out⟩⟩
  |some ob=>
   obtain ⟨vb,zb,rfl,H3⟩:=HP2.out.1 ob hb2
   have HB3:Hid (Below w.heap.size w w3):=HB2.out.trans (H3.out.2.2.mono HB2.out.size)
   obtain ⟨bo,rfl,hA⟩:=H3.out.1.addr
   clear HP2 hA
   obtain ⟨ka,hka⟩:=xgrps_even ha
   obtain ⟨kb,hkb⟩:=xgrps_even hb2
   have HX:Hid (xsix (nums s)=if (g=true/\ka+kb<=7)∨(g=false/\ka+kb=8) then some (oa++List.replicate (16 - 2*ka - 2*kb) 0++ob) else none):=by
    show _=_
    unfold xsix
    rcases HC.out with ⟨hg,h⟩|⟨hg,h,rfl,rfl⟩
    ·rw[h]
     simp only
     rw[ha,hb2,Option.bind_some,Option.bind_some,hka,hkb]
     by_cases hc:ka+kb<=7
     ·rw[if_pos (by omega),if_pos (.inl ⟨hg,hc⟩)]
     ·rw[if_neg (by omega),if_neg]
      rintro (⟨_,h⟩|⟨h,_⟩)
      ·exact hc h
      ·rw[hg] at h;cases h
    ·rw[h]
     simp only
     rw[ha,Option.bind_some,hka]
     have e0:ob=[]:=by
      have h0:xgrps (nums ⟨#[]⟩)=some []:=rfl
      rw[h0] at hb2;injection hb2 with hb2;exact hb2.symm
     subst e0
     simp only[List.length_nil] at hkb
     by_cases hc:2*ka=16
     ·rw[if_pos hc,if_pos (.inr ⟨hg,by omega⟩)]
      have:16 - 2*ka - 2*kb=0:=by omega
      rw[this];simp
     ·rw[if_neg hc,if_neg]
      rintro (⟨h,_⟩|⟨_,h⟩)
      ·rw[hg] at h;cases h
      ·omega
   have HA:Hid (Own w1.heap.size w3 (.slice ao oa.length za.length) oa.length za/\za.take oa.length=oa/\(∀g,blk ao=some g->g<w2.heap.size)):=by
    refine ⟨H2.out.1.below H3.out.2.2,H2.out.2.1,fun g hg=>?_⟩
    obtain ⟨ao',e,hA⟩:=H2.out.1.addr
    injection e with e _ _
    subst e
    exact (hA.lt g hg).2
   have HBb:Hid (Own w2.heap.size w3 (.slice bo ob.length zb.length) ob.length zb/\zb.take ob.length=ob):=⟨H3.out.1,H3.out.2.1⟩
   have hs21:w1.heap.size<=w2.heap.size:=H2.out.2.2.size
   have hs32:w2.heap.size<=w3.heap.size:=H3.out.2.2.size
   have HSZ:Hid (Below w.heap.size w w1/\w.heap.size<=w1.heap.size):=⟨H1.out,H1.out.size⟩
   have hba:=xgrps_le ha
   have hbb:=xgrps_le hb2
   rw[nums_len] at hba hbb
   have hba:oa.length<=10000000000:=by omega
   have hbb:ob.length<=10000000000:=by omega
   clear H2 H3 ha hb2 HC HP1 HP2 HB2 H1
   have HKA:Hid (oa.length=2*ka/\ob.length=2*kb):=⟨hka,hkb⟩
   clear hka hkb
   obtain ⟨la,hla⟩:∃la,oa.length=la:=⟨_,rfl⟩
   obtain ⟨lb',hlb⟩:∃lb',ob.length=lb':=⟨_,rfl⟩
   have HLN:Hid (oa.length=la/\ob.length=lb'):=⟨hla,hlb⟩
   rw[hla,hlb] at HKA
   rw[hla] at HA
   rw[hlb] at HBb
   rw[hla] at hba
   rw[hlb] at hbb
   rw[hla,hlb]
   clear hla hlb
   by_cases c1:16<la+lb'
   ·have c1':(16:Int) - (la:Int)<(lb':Int):=by omega
    have HX2:Hid (xsix (nums s)=none):=by
     show _=_
     have h1:=HKA.out.1;have h2:=HKA.out.2
     rw[HX.out,if_neg (by rintro (⟨_,h⟩|⟨_,h⟩) <;> omega)]
    clear HX
    go_wp2_with fail
    go_ret2
    exact ⟨fun out h=>(by rw[HX2.out] at h;cases h),fun _=>⟨rfl,HB3.out⟩⟩
   ·have c1':¬ (16:Int) - (la:Int)<(lb':Int):=by omega
    cases g with
    |true=>
     by_cases c2:la+lb'=16
     ·have c2':¬ (lb':Int)<(16:Int) - (la:Int):=by omega
      have hd:decide ((lb':Int)<(16:Int) - (la:Int))=false:=decide_eq_false c2'
      have HX2:Hid (xsix (nums s)=none):=by
       show _=_
       have h1:=HKA.out.1;have h2:=HKA.out.2
       rw[HX.out,if_neg (by rintro (⟨_,h⟩|⟨h,_⟩);omega;cases h)]
      clear HX
      go_wp2_with fail
      go_ret2
      exact ⟨fun out h=>(by rw[HX2.out] at h;cases h),fun _=>⟨rfl,HB3.out⟩⟩
     ·have c2':(lb':Int)<(16:Int) - (la:Int):=by omega
      have hd:decide ((lb':Int)<(16:Int) - (la:Int))=true:=decide_eq_true c2'
      have HX2:Hid (xsix (nums s)=some (oa++List.replicate (16 - la - lb') 0++ob)):=by
       show _=_
       have h1:=HKA.out.1;have h2:=HKA.out.2
       rw[HX.out,if_pos (.inl ⟨rfl,by omega⟩),h1,h2]
      clear HX
      have HNil:Hid (bo=none->zb.length=0):=by
       obtain ⟨bo',e,hA⟩:=HBb.out.1.addr
       injection e with e _ _
       subst e
       exact hA.nil
      have HRow:Hid (∀g,(Value.slice ao la za.length).ownBlock=some g->w1.heap.size<=g/\g<w2.heap.size):=by
       intro g hg
       refine ⟨HA.out.1.lt g hg,HA.out.2.2 g ?_⟩
       rw[<- hg]
       cases ao <;> rfl
      go_wp2_with (first
       |(at_builtin;refine wpList_append_zeros _ rfl _ _ rfl w1.heap.size _ la za rfl HA.out.1 (16 - la - lb') _ rfl (by omega) (by omega) (by omega) (Nat.le_trans hs21 hs32) ?_;intro v4 w4 z4 hO4 hT4 hG4;have HG4:Hid (w3.grownBy w4 (Value.slice ao la za.length).ownBlock):=hG4;clear hG4;have HR4:=Lib.hid (tail_rd HBb.out.1 HBb.out.2 HG4.out (fun g hg=>(HRow.out g hg).2));have HS4:Hid (w3.heap.size<=w4.heap.size):=HG4.out.size)
       |(at_builtin;refine wpList_append_blk _ rfl _ _ rfl w1.heap.size _ (la+(16 - la - lb')) z4 rfl hO4.out bo lb' zb.length ob rfl HR4.out HLN.out.2 HNil.out (by omega) (Nat.le_trans (Nat.le_trans hs21 hs32) HS4.out) ?_;intro v5 w5 z5 hO5 hT5 hG5;have HG5:Hid (w4.grownBy w5 v4.ownBlock):=hG5;clear hG5))
      go_ret2
      refine ⟨fun out h=>?_,fun h=>(by rw[HX2.out] at h;cases h)⟩
      rw[HX2.out] at h
      injection h with h
      subst h
      have hlen:(oa++List.replicate (16 - la - lb') 0++ob).length=la+(16 - la - lb')+lb':=by
       simp only[List.length_append,List.length_replicate,HLN.out.1,HLN.out.2]
      rw[hlen]
      have hb4:Below w.heap.size w w4:=HB3.out.grown HG4.out HB3.out.size (fun g hg=>Nat.le_trans HSZ.out.2 (HRow.out g hg).1)
      refine ⟨_,z5,rfl,hO5.out.mono HSZ.out.2,?_,hb4.grown HG5.out hb4.size (fun g hg=>Nat.le_trans HSZ.out.2 (hO4.out.lt g hg))⟩
      rw[hT5.out,hT4.out,HA.out.2.1]
    |false=>
     by_cases c2:la+lb'=16
     ·have c2':¬ (lb':Int)<(16:Int) - (la:Int):=by omega
      have hd:decide ((lb':Int)<(16:Int) - (la:Int))=false:=decide_eq_false c2'
      have HX2:Hid (xsix (nums s)=some (oa++List.replicate (16 - la - lb') 0++ob)):=by
       show _=_
       have h1:=HKA.out.1;have h2:=HKA.out.2
       rw[HX.out,if_pos (.inr ⟨rfl,by omega⟩),h1,h2]
      clear HX
      have HNil:Hid (bo=none->zb.length=0):=by
       obtain ⟨bo',e,hA⟩:=HBb.out.1.addr
       injection e with e _ _
       subst e
       exact hA.nil
      have HRow:Hid (∀g,(Value.slice ao la za.length).ownBlock=some g->w1.heap.size<=g/\g<w2.heap.size):=by
       intro g hg
       refine ⟨HA.out.1.lt g hg,HA.out.2.2 g ?_⟩
       rw[<- hg]
       cases ao <;> rfl
      go_wp2_with (first
       |(at_builtin;refine wpList_append_zeros _ rfl _ _ rfl w1.heap.size _ la za rfl HA.out.1 (16 - la - lb') _ rfl (by omega) (by omega) (by omega) (Nat.le_trans hs21 hs32) ?_;intro v4 w4 z4 hO4 hT4 hG4;have HG4:Hid (w3.grownBy w4 (Value.slice ao la za.length).ownBlock):=hG4;clear hG4;have HR4:=Lib.hid (tail_rd HBb.out.1 HBb.out.2 HG4.out (fun g hg=>(HRow.out g hg).2));have HS4:Hid (w3.heap.size<=w4.heap.size):=HG4.out.size)
       |(at_builtin;refine wpList_append_blk _ rfl _ _ rfl w1.heap.size _ (la+(16 - la - lb')) z4 rfl hO4.out bo lb' zb.length ob rfl HR4.out HLN.out.2 HNil.out (by omega) (Nat.le_trans (Nat.le_trans hs21 hs32) HS4.out) ?_;intro v5 w5 z5 hO5 hT5 hG5;have HG5:Hid (w4.grownBy w5 v4.ownBlock):=hG5;clear hG5))
      go_ret2
      refine ⟨fun out h=>?_,fun h=>(by rw[HX2.out] at h;cases h)⟩
      rw[HX2.out] at h
      injection h with h
      subst h
      have hlen:(oa++List.replicate (16 - la - lb') 0++ob).length=la+(16 - la - lb')+lb':=by
       simp only[List.length_append,List.length_replicate,HLN.out.1,HLN.out.2]
      rw[hlen]
      have hb4:Below w.heap.size w w4:=HB3.out.grown HG4.out HB3.out.size (fun g hg=>Nat.le_trans HSZ.out.2 (HRow.out g hg).1)
      refine ⟨_,z5,rfl,hO5.out.mono HSZ.out.2,?_,hb4.grown HG5.out hb4.size (fun g hg=>Nat.le_trans HSZ.out.2 (hO4.out.lt g hg))⟩
      rw[hT5.out,hT4.out,HA.out.2.1]
     ·have c2':(lb':Int)<(16:Int) - (la:Int):=by omega
      have hd:decide ((lb':Int)<(16:Int) - (la:Int))=true:=decide_eq_true c2'
      have HX2:Hid (xsix (nums s)=none):=by
       show _=_
       have h1:=HKA.out.1;have h2:=HKA.out.2
       rw[HX.out,if_neg (by rintro (⟨h,_⟩|⟨_,h⟩);cases h;omega)]
      clear HX
      go_wp2_with fail
      go_ret2
      exact ⟨fun out h=>(by rw[HX2.out] at h;cases h),fun _=>⟨rfl,HB3.out⟩⟩
theorem xsplit_mem(c x:Int)(l:List Int)(hx:x≠c)(h:x∈l):∃p∈xsplit c l,x∈p:=by
 induction l with
 |nil=>cases h
 |cons y l ih=>
  simp only[xsplit]
  by_cases hy:y=c
  ·rw[if_pos hy]
   rcases List.mem_cons.1 h with rfl|h
   ·exact absurd hy hx
   ·obtain ⟨p,hp,hxp⟩:=ih h
    exact ⟨p,List.mem_cons_of_mem _ hp,hxp⟩
  ·rw[if_neg hy]
   cases hq:xsplit c l with
   |nil=>
    have:=(xsplit_many c l).2
    rw[hq] at this
    simp at this
   |cons q qs=>
    simp only
    rcases List.mem_cons.1 h with rfl|h
    ·exact ⟨_,List.mem_cons_self ..,List.mem_cons_self ..⟩
    ·obtain ⟨p,hp,hxp⟩:=ih h
     rw[hq] at hp
     rcases List.mem_cons.1 hp with rfl|hp
     ·exact ⟨_,List.mem_cons_self ..,List.mem_cons_of_mem _ hxp⟩
     ·exact ⟨p,List.mem_cons_of_mem _ hp,hxp⟩
theorem mapM_none{α β:Type}(f:α->Option β)(l:List α)(x:α)(hx:x∈l)(h:f x=none):l.mapM f=none:=by
 obtain ⟨a,b,rfl⟩:=List.append_of_mem hx
 exact mapM_bad f a x b h
theorem xp_colon(l:List Int)(h:(58:Int)∈l):xpaddr l=xsix l:=by
 unfold xpaddr
 have:xfour l=none:=by
  obtain ⟨p,hp,hc⟩:=xsplit_mem 46 58 l (by decide) h
  unfold xfour
  rw[mapM_none _ _ p hp]
  ·rfl
  ·cases hx:xnum p 256 with
   |none=>rfl
   |some n=>
    have h1:=(xnum_some hx).1
    rw[h1] at hc
    have:=xdec_digit n 58 hc
    omega
 rw[this]
theorem xp_plain(l:List Int)(h:(58:Int) ∉ l):xpaddr l=xfour l:=by
 unfold xpaddr
 cases hf:xfour l with
 |some b=>rfl
 |none=>
  simp only
  unfold xsix
  have hd:xdc l=none:=by
   have:=xdc_pre l [] h
   rw[List.append_nil] at this
   rw[this];rfl
  rw[hd]
  simp only
  unfold xgrps
  by_cases h0:l=[]
  ·rw[if_pos h0];rfl
  ·rw[if_neg h0,xsplit_none 58 l h]
   cases hg:xgrp l with
   |none=>simp[List.mapM_cons,hg]
   |some n=>simp[List.mapM_cons,hg,xby]
def AdPost(o:Option (List Int))(w:World)(e:Ending)(w':World):Prop:=
 (∀out,o=some out->∃v ys,e=.returned (.tuple #[v,.int .i64 0])/\Hid (Own w.heap.size w' v out.length ys/\ys.take out.length=out/\Below w.heap.size w w'))/\
 (o=none->e=.returned (.tuple #[.slice none 0 0,.int .i64 7])/\Hid (Below w.heap.size w w'))
theorem paddr_any(s:ByteArray)(w:World)(hs:s.size<4294967281)(hE:LayE w):Calls Tryz.prog 172 #[.string s] w (AdPost (xpaddr (nums s)) w):=by
 have KS:=Lib.hid (short_any s w hs hE)
 have KL:=Lib.hid (long_any s w hs hE)
 clear hE
 by_cases hc:(58:UInt8)∈s.data.toList
 ·have hp:xpaddr (nums s)=xsix (nums s):=xp_colon _ ((bi_mem 58 _).2 hc)
  have K1:=Lib.hid (Tryz.strings_Contains_one s 58 w)
  rw[(has_x 58 s.data.toList).2 hc] at K1
  rw[hp]
  clear hc hp KS
  generalize xsix (nums s)=o at*
  go_enter Tryz.func172,Tryz.ntmps172
  go_wp2_with fail
  refine K1.out.mono ?_
  rintro e w' ⟨rfl,hw⟩
  subst w'
  go_wp2_with fail
  refine KL.out.mono ?_
  intro e w1 HP
  have HP:=Lib.hid HP
  clear KL K1
  cases o with
  |none=>
   obtain ⟨rfl,H⟩:=HP.out.2 rfl
   clear HP
   go_wp2_with fail
   go_ret2
   exact ⟨fun out h=>(by cases h),fun _=>⟨rfl,H.out⟩⟩
  |some out=>
   obtain ⟨v,ys,rfl,H⟩:=HP.out.1 out rfl
   clear HP
   go_wp2_with fail
   go_ret2
   exact ⟨fun out' h=>(by injection h with h;subst h;exact ⟨v,ys,rfl,H.out⟩),fun h=>(by cases h)⟩
 ·have hp:xpaddr (nums s)=xfour (nums s):=xp_plain _ (fun h=>hc ((bi_mem 58 _).1 h))
  have K1:=Lib.hid (Tryz.strings_Contains_one s 58 w)
  have hf:decide (0<=Lib.indexByte s.data.toList 58)=false:=by
   cases h:decide (0<=Lib.indexByte s.data.toList 58) with
   |false=>rfl
   |true=>exact absurd ((has_x 58 s.data.toList).1 h) hc
  rw[hf] at K1
  rw[hp]
  clear hc hp KL hf
  generalize xfour (nums s)=o at*
  go_enter Tryz.func172,Tryz.ntmps172
  go_wp2_with fail
  refine K1.out.mono ?_
  rintro e w' ⟨rfl,hw⟩
  subst w'
  go_wp2_with fail
  refine KS.out.mono ?_
  intro e w1 HP
  have HP:=Lib.hid HP
  clear KS K1
  cases o with
  |none=>
   obtain ⟨rfl,H⟩:=HP.out.2 rfl
   clear HP
   go_wp2_with fail
   go_ret2
   exact ⟨fun out h=>(by cases h),fun _=>⟨rfl,H.out⟩⟩
  |some out=>
   obtain ⟨v,ys,rfl,H⟩:=HP.out.1 out rfl
   clear HP
   go_wp2_with fail
   go_ret2
   exact ⟨fun out' h=>(by injection h with h;subst h;exact ⟨v,ys,rfl,H.out⟩),fun h=>(by cases h)⟩
end Go.Proofs.YtjkljpdolhglcaaGreatDoor
namespace Go.Proofs.YtjkljpdolhglcaaGreatDoor
open Go.ChangeShapes Go.WideShapes Go.ChangeAt Go.RowKit
def foldL(s:ByteArray):ByteArray:=⟨(txt ((nums s).map fz)).toArray⟩
theorem foldL_size(s:ByteArray):(foldL s).size=s.size:=by
 show (txt ((nums s).map fz)).toArray.size=s.size
 rw[List.size_toArray,txt_len,List.length_map,nums_len]
theorem nums_foldL(s:ByteArray):nums (foldL s)=(nums s).map fz:=by
 unfold foldL
 refine nums_txt _ fun z hz=>?_
 obtain ⟨y,hy,rfl⟩:=List.mem_map.1 hz
 exact fz_bd y (nums_bds s y hy)
theorem same_yes(a b:Option Addr)(n c d:Nat)(zs:List Int)(w:World)(hr:Rd w a zs)(hr':Rd w b zs)(hl:zs.length=n) :
  Calls Tryz.prog 73 #[.slice a n c,.slice b n d] w fun e w'=>e=.returned (.bool true)/\w'=w:=by
 have h1:=conv_rd a n c zs w hr hl
 have h2:=conv_rd b n d zs w hr' hl
 clear hr hr'
 generalize txt zs=t at*
 go_enter Tryz.func73,Tryz.ntmps73
 go_wp2
 go_ret
 exact ⟨rfl,rfl⟩
theorem empty_own(w:World):Own w.heap.size (w.alloc (.cells #[] 5)) (.slice (some ⟨w.heap.size,0,none⟩) 0 0) 0 []:=
 .inr ⟨w.heap.size,rfl,Nat.le_refl _,⟨by rw[heap_alloc_new];rfl,by simp⟩,Nat.le_refl _,Nat.zero_le _⟩
theorem clone_any(x:Addr)(cap:Nat)(zs:List Int)(w:World)(hr:Rd w (some x) zs)(hm:zs.length<=140737488355328) :
  Calls Tryz.prog 196 #[.slice (some x) zs.length cap] w fun e w'=>∃v ys,e=.returned v/\Own w.heap.size w' v zs.length ys/\ys.take zs.length=zs/\Below w.heap.size w w':=by
 have HR:Hid (Rd w (some x) zs):=hr
 clear hr
 obtain ⟨len,hlen⟩:∃len,len=zs.length:=⟨_,rfl⟩
 rw[<- hlen] at hm ⊢
 have HL:Hid (len=zs.length):=hlen
 clear hlen
 have hb1:Below w.heap.size w (w.alloc (.cells #[] 5)):=(Below.refl _ _).alloc (Nat.le_refl _) _
 have hnil:∀W:World,(binOp .eql 46 (.slice (some x) len cap) (.slice none 0 0)).run Tryz.prog W=.ok (.bool false) W:=fun W=>Lib.run_eql_slice_nil W _ _ _ _ _ _ _ Tryz.underlying46
 go_enter Tryz.func196,Tryz.ntmps196
 go_wp2_with (at_builtin;refine wpList_append_blk _ rfl _ _ rfl w.heap.size _ 0 [] rfl (empty_own w) (some x) len cap zs rfl (HR.out.below hb1) HL.out.symm (by simp) (by omega) (by simp) ?_;intro v' w' zs' hO hT hG)
 go_ret
 refine ⟨v',zs',rfl,?_,?_,?_⟩
 ·have h:=hO.out
  rw[Nat.zero_add] at h
  exact h
 ·have h:=hT.out
  rw[Nat.zero_add] at h
  simpa using h
 ·refine hb1.grown hG (by simp) ?_
  intro k hk
  have e:w.heap.size=k:=Option.some.inj hk
  omega
theorem clone_none(w:World) :
  Calls Tryz.prog 196 #[.slice none 0 0] w fun e w'=>e=.returned (.slice none 0 0)/\w'=w:=by
 have hnil:∀W:World,(binOp .eql 46 (.slice none 0 0) (.slice none 0 0)).run Tryz.prog W=.ok (.bool true) W:=fun W=>Lib.run_eql_slice_nil W _ _ _ _ _ _ _ Tryz.underlying46
 go_enter Tryz.func196,Tryz.ntmps196
 go_wp2
 go_ret
 exact ⟨rfl,rfl⟩
end Go.Proofs.YtjkljpdolhglcaaGreatDoor
namespace Go.Proofs.YtjkljpdolhglcaaGreatDoor
open Go.ChangeShapes Go.WideShapes Go.ChangeAt Go.RowKit Go.Deep
structure Sl where
 a:Option Addr
 n:Nat
 c:Nat
def uv(us:List Nat):List Value:=us.map fun (n:Nat)=>Value.int .u32 (n:Int)
theorem uv_len(us:List Nat):(uv us).length=us.length:=by simp[uv]
structure TRd(w:World)(s:Sl)(ss:List ByteArray):Prop where
 rd:RdT w s.a ss
 len:ss.length=s.n
 cap:s.n<=s.c/\s.c<=9223372036854775807
 nil:s.a=none->s.c=0
 z63:∀x∈ss,x.size<=9223372036854775807
theorem TRd.below{w w':World}{s:Sl}{ss:List ByteArray}(h:TRd w s ss)(hb:Below w.heap.size w w'):TRd w' s ss:=⟨h.rd.below hb,h.len,h.cap,h.nil,h.z63⟩
structure NRd(w:World)(s:Sl)(nss:List (List ByteArray)):Prop where
 rd:nss=[]∨∃b o,s.a=some ⟨b,o,none⟩/\b<w.heap.size/\∀i (h:i<nss.length),∃x:Sl,w.cell? ⟨b,o+i,none⟩=some (.slice x.a x.n x.c)/\TRd w x nss[i]
 len:nss.length=s.n
 cap:s.n<=s.c/\s.c<=9223372036854775807
 nil:s.a=none->s.c=0
theorem NRd.below{w w':World}{s:Sl}{nss:List (List ByteArray)}(h:NRd w s nss)(hb:Below w.heap.size w w'):NRd w' s nss:=by
 refine ⟨?_,h.len,h.cap,h.nil⟩
 rcases h.rd with h1|⟨b,o,h1,h2,h3⟩
 ·exact .inl h1
 ·refine .inr ⟨b,o,h1,Nat.lt_of_lt_of_le h2 hb.size,fun i hi=>?_⟩
  obtain ⟨x,h4,h5⟩:=h3 i hi
  exact ⟨x,(hb.cell (p:=⟨b,o+i,none⟩) h2).trans h4,h5.below hb⟩
theorem NRd.at{w:World}{s:Sl}{nss:List (List ByteArray)}(h:NRd w s nss)(i:Nat)(hi:i<nss.length):∃b o,s.a=some ⟨b,o,none⟩/\b<w.heap.size/\∃x:Sl,w.cell? ⟨b,o+i,none⟩=some (.slice x.a x.n x.c)/\TRd w x nss[i]:=by
 rcases h.rd with h1|⟨b,o,h1,h2,h3⟩
 ·subst h1;simp at hi
 ·exact ⟨b,o,h1,h2,h3 i hi⟩
structure URd(w:World)(s:Sl)(us:List Nat):Prop where
 rd:RdV w s.a (uv us)
 len:us.length=s.n
 cap:s.n<=s.c/\s.c<=9223372036854775807
 nil:s.a=none->s.c=0
 bd:∀x∈us,x<=4294967295
theorem URd.below{w w':World}{s:Sl}{us:List Nat}(h:URd w s us)(hb:Below w.heap.size w w'):URd w' s us:=⟨h.rd.below hb,h.len,h.cap,h.nil,h.bd⟩
theorem URd.at{w:World}{s:Sl}{us:List Nat}(h:URd w s us)(i:Nat)(hi:i<us.length):∃b o,s.a=some ⟨b,o,none⟩/\b<w.heap.size/\w.cell? ⟨b,o+i,none⟩=some (.int .u32 (us[i]:Int)):=by
 rcases h.rd with h1|⟨b,o,h1,h2,h3⟩
 ·have:=congrArg List.length h1
  rw[uv_len] at this
  simp at this
  subst this
  simp at hi
 ·refine ⟨b,o,h1,h2,?_⟩
  rw[h3 i (by rw[uv_len];exact hi)]
  simp[uv]
structure BRd(w:World)(s:Sl)(zs:List Int):Prop where
 rd:Rd w s.a zs
 len:zs.length=s.n
 cap:s.n<=s.c/\s.c<=9223372036854775807
 nil:s.a=none->s.c=0
theorem BRd.below{w w':World}{s:Sl}{zs:List Int}(h:BRd w s zs)(hb:Below w.heap.size w w'):BRd w' s zs:=⟨h.rd.below hb,h.len,h.cap,h.nil⟩
structure DA where
 p1:Sl
 p2:Sl
 p3:Sl
 p4:Sl
structure DRd(w:World)(x:DA)(d:Dat):Prop where
 h1:NRd w x.p1 d.ns
 h2:URd w x.p2 d.us
 h3:TRd w x.p3 d.ts
 h4:BRd w x.p4 d.raw
theorem DRd.below{w w':World}{x:DA}{d:Dat}(h:DRd w x d)(hb:Below w.heap.size w w'):DRd w' x d:=⟨h.h1.below hb,h.h2.below hb,h.h3.below hb,h.h4.below hb⟩
variable {H:Type} {enc:TypeId × Value->H} {W:World}
theorem open_texts{t:TypeId}(ht:Tryz.prog.underlying t=some (.slice 9)){a:Option Addr}{len cap fuel:Nat}{x:DataW H × List MemPlace}(hf:DataW.trod enc Tryz.prog W 0 (fun _=>true) true fuel t [Value.slice a len cap]=some x):∃ss,TRd W ⟨a,len,cap⟩ ss:=by
 rcases open_strs ht Tryz.underlying9 (by kernel_rfl) hf with ⟨hcs,hx⟩|⟨x,l,c,m,S,hcs,_,hl,hm,hmm,hx,hcell⟩
 ·simp at hcs
  obtain ⟨rfl,rfl,rfl⟩:=hcs
  exact ⟨[],.inl rfl,rfl,⟨Nat.le_refl _,Nat.zero_le _⟩,fun _=>rfl,by simp⟩
 ·simp at hcs
  obtain ⟨rfl,rfl,rfl⟩:=hcs
  have hmc:m=cap:=by simpa using hmm
  refine ⟨(List.range len).map S,?_,by simp,⟨hl,by simp only[maxLen] at hm;exact hm⟩,by simp,?_⟩
  ·by_cases h0:len=0
   ·left;rw[h0];rfl
   ·right
    obtain ⟨b,off,spot⟩:=x
    have hc0:=(hcell 0 (by omega)).1
    have hspot:spot=none:=by simpa [Addr.add] using World.cell?_spot hc0
    subst hspot
    have hlt:b<W.heap.size:=by
     have:=World.block_lt_of_cell? W _ hc0
     simpa [Addr.add] using this
    refine ⟨b,off,rfl,hlt,fun i hi=>?_⟩
    have hi':i<len:=by simpa [tv] using hi
    have:=(hcell i (by omega)).1
    rw[Addr.add_lit] at this
    rw[this]
    simp[tv]
  ·intro s hs
   simp only[List.mem_map,List.mem_range] at hs
   obtain ⟨i,hi,rfl⟩:=hs
   have:=(hcell i (by omega)).2
   simp only[maxLen] at this
   exact this
theorem list_of{α:Type}(n:Nat)(p:Nat->α->Prop)(h:∀i,i<n->∃x,p i x):∃l:List α,l.length=n/\∀i (hi:i<l.length),p i l[i]:=by
 induction n with
 |zero=>exact ⟨[],rfl,fun i hi=>absurd hi (Nat.not_lt_zero _)⟩
 |succ n ih=>
  obtain ⟨l,hl,hp⟩:=ih fun i hi=>h i (by omega)
  obtain ⟨x,hx⟩:=h n (by omega)
  refine ⟨l++[x],by simp[hl],fun i hi=>?_⟩
  by_cases hi':i<l.length
  ·rw[List.getElem_append_left hi'];exact hp i hi'
  ·have:i=n:=by simp at hi;omega
   subst this
   rw[List.getElem_append_right (by omega)]
   simp[hl,hx]
end Go.Proofs.YtjkljpdolhglcaaGreatDoor
namespace Go.Proofs.YtjkljpdolhglcaaGreatDoor
open Go.ChangeShapes Go.WideShapes Go.ChangeAt Go.RowKit
abbrev DA.val(x:DA):Value:=.agg #[.slice x.p1.a x.p1.n x.p1.c,.slice x.p2.a x.p2.n x.p2.c,.slice x.p3.a x.p3.n x.p3.c,.slice x.p4.a x.p4.n x.p4.c]
def DBox(w:World)(b:Nat)(x:DA):Prop:=
 w.cell? ⟨b,0,none⟩=some (.slice x.p1.a x.p1.n x.p1.c)/\w.cell? ⟨b,1,none⟩=some (.slice x.p2.a x.p2.n x.p2.c)/\w.cell? ⟨b,2,none⟩=some (.slice x.p3.a x.p3.n x.p3.c)/\w.cell? ⟨b,3,none⟩=some (.slice x.p4.a x.p4.n x.p4.c)/\b<w.heap.size
theorem DBox.new(w:World)(x:DA):DBox (w.alloc (.cells #[.slice x.p1.a x.p1.n x.p1.c,.slice x.p2.a x.p2.n x.p2.c,.slice x.p3.a x.p3.n x.p3.c,.slice x.p4.a x.p4.n x.p4.c] 48)) w.heap.size x:=by
 refine ⟨?_,?_,?_,?_,by simp⟩ <;> (unfold World.cell?;rw[heap_alloc_new];rfl)
theorem DBox.below{w w':World}{b:Nat}{x:DA}(h:DBox w b x)(hb:Below w.heap.size w w'):DBox w' b x:=
 ⟨(hb.cell (p:=⟨b,0,none⟩) h.2.2.2.2).trans h.1,(hb.cell (p:=⟨b,1,none⟩) h.2.2.2.2).trans h.2.1,(hb.cell (p:=⟨b,2,none⟩) h.2.2.2.2).trans h.2.2.1,(hb.cell (p:=⟨b,3,none⟩) h.2.2.2.2).trans h.2.2.2.1,Nat.lt_of_lt_of_le h.2.2.2.2 hb.size⟩
structure Fs where
 nn:Nat
 nf:Nat
 nu:Nat
 wd:Nat
 nt:Int
 tg:Nat
 tl:Nat
 nr:Int
def fs(t:Nat):Fs:=
 if t=1 then ⟨0,0,0,0,0,0,0,4⟩ else if t=28 then ⟨0,0,0,0,0,0,0,16⟩ else if t=2∨t=5∨t=12 then ⟨1,0,0,0,0,0,0,0⟩ else if t=6 then ⟨2,2,5,4,0,0,0,0⟩ else
 if t=15 then ⟨1,0,1,2,0,0,0,0⟩ else if t=33 then ⟨1,0,3,2,0,0,0,0⟩ else if t=16 then ⟨0,0,0,0,-1,0,0,0⟩ else if t=257 then ⟨0,0,1,1,2,1,1,0⟩ else ⟨0,0,0,0,0,0,0,-2⟩
theorem fs_cases(t:Nat):(t=1/\fs t=⟨0,0,0,0,0,0,0,4⟩)∨(t=28/\fs t=⟨0,0,0,0,0,0,0,16⟩)∨((t=2∨t=5∨t=12)/\fs t=⟨1,0,0,0,0,0,0,0⟩)∨(t=6/\fs t=⟨2,2,5,4,0,0,0,0⟩) ∨
  (t=15/\fs t=⟨1,0,1,2,0,0,0,0⟩)∨(t=33/\fs t=⟨1,0,3,2,0,0,0,0⟩)∨(t=16/\fs t=⟨0,0,0,0,-1,0,0,0⟩)∨(t=257/\fs t=⟨0,0,1,1,2,1,1,0⟩) ∨
  ((t≠1/\t≠28/\t≠2/\t≠5/\t≠12/\t≠6/\t≠15/\t≠33/\t≠16/\t≠257)/\fs t=⟨0,0,0,0,0,0,0,-2⟩):=by
 unfold fs
 by_cases h1:t=1
 ·simp[h1]
 by_cases h2:t=28
 ·simp[h2]
 by_cases h3:t=2∨t=5∨t=12
 ·rcases h3 with h|h|h <;> simp[h]
 by_cases h4:t=6
 ·simp[h4]
 by_cases h5:t=15
 ·simp[h5]
 by_cases h6:t=33
 ·simp[h6]
 by_cases h7:t=16
 ·simp[h7]
 by_cases h8:t=257
 ·simp[h8]
 ·rw[if_neg h1,if_neg h2,if_neg h3,if_neg h4,if_neg h5,if_neg h6,if_neg h7,if_neg h8]
  simp only[not_or] at h3
  exact .inr (.inr (.inr (.inr (.inr (.inr (.inr (.inr ⟨⟨h1,h2,h3.1,h3.2.1,h3.2.2,h4,h5,h6,h7,h8⟩,rfl⟩)))))))
theorem fieldsof_any(t:Nat)(w:World):Calls Tryz.prog 138 #[.int .u16 t] w fun e w'=>e=.returned (.agg #[.int .i64 (fs t).nn,.int .i64 (fs t).nf,.int .i64 (fs t).nu,.int .i64 (fs t).wd,.int .i64 (fs t).nt,.int .i64 (fs t).tg,.int .i64 (fs t).tl,.int .i64 (fs t).nr])/\Hid (Below w.heap.size w w'):=by
 rcases fs_cases t with ⟨ht,e⟩|⟨ht,e⟩|⟨ht,e⟩|⟨ht,e⟩|⟨ht,e⟩|⟨ht,e⟩|⟨ht,e⟩|⟨ht,e⟩|⟨ht,e⟩
 ·subst ht;rw[e];clear e
  go_enter Tryz.func138,Tryz.ntmps138
  go_wp2_with fail
  exact bodyPost_ret (v:=.agg #[.int .i64 0,.int .i64 0,.int .i64 0,.int .i64 0,.int .i64 0,.int .i64 0,.int .i64 0,.int .i64 4]) (by simp[results,Tryz.results138,go_sem]) rfl ⟨rfl,(Below.refl _ _).alloc (Nat.le_refl _) _⟩
 ·subst ht;rw[e];clear e
  go_enter Tryz.func138,Tryz.ntmps138
  go_wp2_with fail
  exact bodyPost_ret (v:=.agg #[.int .i64 0,.int .i64 0,.int .i64 0,.int .i64 0,.int .i64 0,.int .i64 0,.int .i64 0,.int .i64 16]) (by simp[results,Tryz.results138,go_sem]) rfl ⟨rfl,(Below.refl _ _).alloc (Nat.le_refl _) _⟩
 ·rw[e];clear e
  rcases ht with rfl|rfl|rfl
  all_goals
   go_enter Tryz.func138,Tryz.ntmps138
   go_wp2_with fail
   exact bodyPost_ret (v:=.agg #[.int .i64 1,.int .i64 0,.int .i64 0,.int .i64 0,.int .i64 0,.int .i64 0,.int .i64 0,.int .i64 0]) (by simp[results,Tryz.results138,go_sem]) rfl ⟨rfl,(Below.refl _ _).alloc (Nat.le_refl _) _⟩
 ·subst ht;rw[e];clear e
  go_enter Tryz.func138,Tryz.ntmps138
  go_wp2_with fail
  exact bodyPost_ret (v:=.agg #[.int .i64 2,.int .i64 2,.int .i64 5,.int .i64 4,.int .i64 0,.int .i64 0,.int .i64 0,.int .i64 0]) (by simp[results,Tryz.results138,go_sem]) rfl ⟨rfl,(Below.refl _ _).alloc (Nat.le_refl _) _⟩
 ·subst ht;rw[e];clear e
  go_enter Tryz.func138,Tryz.ntmps138
  go_wp2_with fail
  exact bodyPost_ret (v:=.agg #[.int .i64 1,.int .i64 0,.int .i64 1,.int .i64 2,.int .i64 0,.int .i64 0,.int .i64 0,.int .i64 0]) (by simp[results,Tryz.results138,go_sem]) rfl ⟨rfl,(Below.refl _ _).alloc (Nat.le_refl _) _⟩
 ·subst ht;rw[e];clear e
  go_enter Tryz.func138,Tryz.ntmps138
  go_wp2_with fail
  exact bodyPost_ret (v:=.agg #[.int .i64 1,.int .i64 0,.int .i64 3,.int .i64 2,.int .i64 0,.int .i64 0,.int .i64 0,.int .i64 0]) (by simp[results,Tryz.results138,go_sem]) rfl ⟨rfl,(Below.refl _ _).alloc (Nat.le_refl _) _⟩
 ·subst ht;rw[e];clear e
  go_enter Tryz.func138,Tryz.ntmps138
  go_wp2_with fail
  exact bodyPost_ret (v:=.agg #[.int .i64 0,.int .i64 0,.int .i64 0,.int .i64 0,.int .i64 (-1),.int .i64 0,.int .i64 0,.int .i64 0]) (by simp[results,Tryz.results138,go_sem]) rfl ⟨rfl,(Below.refl _ _).alloc (Nat.le_refl _) _⟩
 ·subst ht;rw[e];clear e
  go_enter Tryz.func138,Tryz.ntmps138
  go_wp2_with fail
  exact bodyPost_ret (v:=.agg #[.int .i64 0,.int .i64 0,.int .i64 1,.int .i64 1,.int .i64 2,.int .i64 1,.int .i64 1,.int .i64 0]) (by simp[results,Tryz.results138,go_sem]) rfl ⟨rfl,(Below.refl _ _).alloc (Nat.le_refl _) _⟩
 ·rw[e];clear e
  obtain ⟨h1,h2,h3,h4,h5,h6,h7,h8,h9,h10⟩:=ht
  have q1:((t:Int) == 1)=false:=by simp;omega
  have q2:((t:Int) == 28)=false:=by simp;omega
  have q3:((t:Int) == 2)=false:=by simp;omega
  have q4:((t:Int) == 5)=false:=by simp;omega
  have q5:((t:Int) == 12)=false:=by simp;omega
  have q6:((t:Int) == 6)=false:=by simp;omega
  have q7:((t:Int) == 15)=false:=by simp;omega
  have q8:((t:Int) == 33)=false:=by simp;omega
  have q9:((t:Int) == 16)=false:=by simp;omega
  have q10:((t:Int) == 257)=false:=by simp;omega
  clear h1 h2 h3 h4 h5 h6 h7 h8 h9 h10
  go_enter Tryz.func138,Tryz.ntmps138
  go_wp2_with fail
  exact bodyPost_ret (v:=.agg #[.int .i64 0,.int .i64 0,.int .i64 0,.int .i64 0,.int .i64 0,.int .i64 0,.int .i64 0,.int .i64 (-2)]) (by simp[results,Tryz.results138,go_sem]) rfl ⟨rfl,(Below.refl _ _).alloc (Nat.le_refl _) _⟩
theorem asked_any(t:Int)(w:World):Calls Tryz.prog 150 #[.int .u16 t] w fun e w'=>e=.returned (.bool (decide (128<=t) && decide (t<=255)))/\w'=w:=by
 go_enter Tryz.func150,Tryz.ntmps150
 go_wp2
 all_goals
  go_ret
  refine ⟨ret_bool ?_,rfl⟩
  simp_all
  try omega
theorem hasdata_any(t:Nat)(w:World):Calls Tryz.prog 137 #[.int .u16 t] w fun e w'=>e=.returned (.bool (mayT t))/\w'=w:=by
 have HS:Hid (∀W,Calls Tryz.prog 134 #[.int .u16 t] W fun e w'=>e=.returned (.bool (decide (t≠0) && decide (t≠41) && (decide (t<128) || decide (255<t))))/\w'=W):=by
  intro W
  go_enter Tryz.func134,Tryz.ntmps134
  by_cases h0:t=0
  ·subst h0
   go_wp2_with fail
   go_ret
   exact ⟨ret_bool (by decide),rfl⟩
  ·by_cases h1:t=41
   ·subst h1
    go_wp2_with fail
    go_ret
    exact ⟨ret_bool (by decide),rfl⟩
   ·have q0:((t:Int) == 0)=false:=by simp;omega
    have q1:((t:Int) == 41)=false:=by simp;omega
    go_wp2_with fail
    refine (asked_any t _).mono ?_
    rintro e W ⟨rfl,rfl⟩
    go_wp2_with fail
    go_ret
    refine ⟨ret_bool ?_,rfl⟩
    simp[h0,h1]
    by_cases h2:t<128
    ·simp[h2];omega
    ·by_cases h3:255<t
     ·simp[h3];omega
     ·simp[h2,h3];omega
 go_enter Tryz.func137,Tryz.ntmps137
 by_cases h1:t=41
 ·subst h1
  go_wp2_with fail
  refine (HS.out _).mono ?_
  rintro e W ⟨rfl,rfl⟩
  go_wp2_with fail
  go_ret
  exact ⟨rfl,rfl⟩
 ·have q1:((t:Int) == 41)=false:=by simp;omega
  go_wp2_with fail
  refine (HS.out _).mono ?_
  rintro e W ⟨rfl,rfl⟩
  have hm:(decide (t≠0) && decide (t≠41) && (decide (t<128) || decide (255<t)))=mayT t:=by simp[mayT,h1]
  rw[hm]
  cases hmt:mayT t
  all_goals
   go_wp2_with fail
   go_ret
   exact ⟨ret_bool (by rw[hmt]),rfl⟩
def fitB(n:Nat)(c:Int):Bool:=if c = -1 then decide (0<n) else if c = -2 then true else decide ((n:Int)=c)
theorem pfits_any(n:Nat)(c:Int)(w:World):Calls Tryz.prog 159 #[.int .i64 n,.int .i64 c] w fun e w'=>e=.returned (.bool (fitB n c))/\w'=w:=by
 unfold fitB
 by_cases h1:c = -1
 ·subst h1
  rw[if_pos rfl]
  go_enter Tryz.func159,Tryz.ntmps159
  go_wp2_with fail
  go_ret
  exact ⟨ret_bool (by simp),rfl⟩
 rw[if_neg h1]
 have q1:(c == -1)=false:=by simp[h1]
 by_cases h2:c = -2
 ·subst h2
  rw[if_pos rfl]
  go_enter Tryz.func159,Tryz.ntmps159
  go_wp2_with fail
  go_ret
  exact ⟨rfl,rfl⟩
 rw[if_neg h2]
 have q2:(c == -2)=false:=by simp[h2]
 go_enter Tryz.func159,Tryz.ntmps159
 go_wp2_with fail
 go_ret
 exact ⟨ret_bool (by by_cases h:(n:Int)=c <;> simp[h]),rfl⟩
def FBox(w:World)(b:Nat)(f:Fs):Prop:=
 w.cell? ⟨b,0,none⟩=some (.int .i64 f.nn)/\w.cell? ⟨b,1,none⟩=some (.int .i64 f.nf)/\w.cell? ⟨b,2,none⟩=some (.int .i64 f.nu)/\w.cell? ⟨b,3,none⟩=some (.int .i64 f.wd)/\w.cell? ⟨b,4,none⟩=some (.int .i64 f.nt)/\w.cell? ⟨b,5,none⟩=some (.int .i64 f.tg)/\w.cell? ⟨b,6,none⟩=some (.int .i64 f.tl)/\w.cell? ⟨b,7,none⟩=some (.int .i64 f.nr)/\b<w.heap.size
theorem FBox.new(w:World)(f:Fs):FBox (w.alloc (.cells #[.int .i64 f.nn,.int .i64 f.nf,.int .i64 f.nu,.int .i64 f.wd,.int .i64 f.nt,.int .i64 f.tg,.int .i64 f.tl,.int .i64 f.nr] 201)) w.heap.size f:=by
 refine ⟨?_,?_,?_,?_,?_,?_,?_,?_,by simp⟩ <;> (unfold World.cell?;rw[heap_alloc_new];rfl)
theorem FBox.below{w w':World}{b:Nat}{f:Fs}(h:FBox w b f)(hb:Below w.heap.size w w'):FBox w' b f:=by
 obtain ⟨h0,h1,h2,h3,h4,h5,h6,h7,hl⟩:=h
 exact ⟨(hb.cell (p:=⟨b,0,none⟩) hl).trans h0,(hb.cell (p:=⟨b,1,none⟩) hl).trans h1,(hb.cell (p:=⟨b,2,none⟩) hl).trans h2,(hb.cell (p:=⟨b,3,none⟩) hl).trans h3,(hb.cell (p:=⟨b,4,none⟩) hl).trans h4,(hb.cell (p:=⟨b,5,none⟩) hl).trans h5,(hb.cell (p:=⟨b,6,none⟩) hl).trans h6,(hb.cell (p:=⟨b,7,none⟩) hl).trans h7,Nat.lt_of_lt_of_le hl hb.size⟩
def PtSt(w W:World)(b:Nat)(f:Fs)(x:DA)(d:Dat):Prop:=FBox W b f/\DBox W (b+1) x/\DRd W x d/\Below w.heap.size w W
theorem PtSt.new(w:World)(f:Fs)(x:DA)(d:Dat)(h:DRd w x d):PtSt w ((w.alloc (.cells #[.int .i64 f.nn,.int .i64 f.nf,.int .i64 f.nu,.int .i64 f.wd,.int .i64 f.nt,.int .i64 f.tg,.int .i64 f.tl,.int .i64 f.nr] 201)).alloc (.cells #[.slice x.p1.a x.p1.n x.p1.c,.slice x.p2.a x.p2.n x.p2.c,.slice x.p3.a x.p3.n x.p3.c,.slice x.p4.a x.p4.n x.p4.c] 48)) w.heap.size f x d:=by
 have hb1:Below w.heap.size w (w.alloc (.cells #[.int .i64 f.nn,.int .i64 f.nf,.int .i64 f.nu,.int .i64 f.wd,.int .i64 f.nt,.int .i64 f.tg,.int .i64 f.tl,.int .i64 f.nr] 201)):=(Below.refl _ _).alloc (Nat.le_refl _) _
 have HX:=FBox.new w f
 have hx1:=h.below hb1
 obtain ⟨W0,hW0⟩:∃W,W=w.alloc (.cells #[.int .i64 f.nn,.int .i64 f.nf,.int .i64 f.nu,.int .i64 f.wd,.int .i64 f.nt,.int .i64 f.tg,.int .i64 f.tl,.int .i64 f.nr] 201):=⟨_,rfl⟩
 have hs0:W0.heap.size=w.heap.size+1:=by rw[hW0];simp
 rw[<- hW0] at hb1 HX hx1 ⊢
 have hb2:Below W0.heap.size W0 (W0.alloc (.cells #[.slice x.p1.a x.p1.n x.p1.c,.slice x.p2.a x.p2.n x.p2.c,.slice x.p3.a x.p3.n x.p3.c,.slice x.p4.a x.p4.n x.p4.c] 48)):=(Below.refl _ _).alloc (Nat.le_refl _) _
 have HY:=DBox.new W0 x
 rw[hs0] at HY
 exact ⟨HX.below hb2,HY,hx1.below hb2,hb1.trans (hb2.mono hb1.size)⟩
def cntB(f:Fs)(d:Dat):Bool:=fitB d.ns.length f.nn && fitB d.us.length f.nu && fitB d.ts.length f.nt && fitB d.raw.length f.nr
theorem counted_any(f:Fs)(x:DA)(d:Dat)(w:World)(h:DRd w x d) :
  Calls Tryz.prog 139 #[.agg #[.int .i64 f.nn,.int .i64 f.nf,.int .i64 f.nu,.int .i64 f.wd,.int .i64 f.nt,.int .i64 f.tg,.int .i64 f.tl,.int .i64 f.nr],.agg #[.slice x.p1.a x.p1.n x.p1.c,.slice x.p2.a x.p2.n x.p2.c,.slice x.p3.a x.p3.n x.p3.c,.slice x.p4.a x.p4.n x.p4.c]] w fun e w'=>e=.returned (.bool (cntB f d))/\Hid (Below w.heap.size w w'):=by
 have H:Hid (PtSt w ((w.alloc (.cells #[.int .i64 f.nn,.int .i64 f.nf,.int .i64 f.nu,.int .i64 f.wd,.int .i64 f.nt,.int .i64 f.tg,.int .i64 f.tl,.int .i64 f.nr] 201)).alloc (.cells #[.slice x.p1.a x.p1.n x.p1.c,.slice x.p2.a x.p2.n x.p2.c,.slice x.p3.a x.p3.n x.p3.c,.slice x.p4.a x.p4.n x.p4.c] 48)) w.heap.size f x d):=PtSt.new w f x d h
 have l1:=h.h1.len
 have l2:=h.h2.len
 have l3:=h.h3.len
 have l4:=h.h4.len
 clear h
 unfold cntB
 rw[l1,l2,l3,l4]
 clear l1 l2 l3 l4
 obtain ⟨nn,nf,nu,wd,nt,tg,tl,nr⟩:=f
 obtain ⟨⟨a1,n1,k1⟩,⟨a2,n2,k2⟩,⟨a3,n3,k3⟩,⟨a4,n4,k4⟩⟩:=x
 simp only at H ⊢
 go_enter Tryz.func139,Tryz.ntmps139
 go_upto_region 1 with fail
 generalize ((w.alloc (.cells #[.int .i64 nn,.int .i64 nf,.int .i64 nu,.int .i64 wd,.int .i64 nt,.int .i64 tg,.int .i64 tl,.int .i64 nr] 201)).alloc (.cells #[.slice a1 n1 k1,.slice a2 n2 k2,.slice a3 n3 k3,.slice a4 n4 k4] 48))=W1 at*
 have s0:=H.out.1.1
 have s2:=H.out.1.2.2.1
 have s4:=H.out.1.2.2.2.2.1
 have s7:=H.out.1.2.2.2.2.2.2.2.1
 have c0:=H.out.2.1.1
 have c1:=H.out.2.1.2.1
 have c2:=H.out.2.1.2.2.1
 have c3:=H.out.2.1.2.2.2.1
 simp only at s0 s2 s4 s7 c0 c1 c2 c3
 go_wp2_with fail
 refine (pfits_any n1 nn _).mono ?_
 rintro e W ⟨rfl,rfl⟩
 cases hfn1:fitB n1 nn with
 |false=>
  go_wp2_with fail
  go_ret
  exact ⟨ret_bool (by simp[*]),H.out.2.2.2⟩
 |true=>
  go_wp2_with fail
  refine (pfits_any n2 nu _).mono ?_
  rintro e W ⟨rfl,rfl⟩
  cases hfn2:fitB n2 nu with
  |false=>
   go_wp2_with fail
   go_ret
   exact ⟨ret_bool (by simp[*]),H.out.2.2.2⟩
  |true=>
   go_wp2_with fail
   refine (pfits_any n3 nt _).mono ?_
   rintro e W ⟨rfl,rfl⟩
   cases hfn3:fitB n3 nt with
   |false=>
    go_wp2_with fail
    go_ret
    exact ⟨ret_bool (by simp[*]),H.out.2.2.2⟩
   |true=>
    go_wp2_with fail
    refine (pfits_any n4 nr _).mono ?_
    rintro e W ⟨rfl,rfl⟩
    go_wp2_with fail
    go_ret
    exact ⟨ret_bool (by simp[*]),H.out.2.2.2⟩
theorem call96(s:ByteArray)(c:Int)(w:World):(callFunc 96 #[.string s,.int .u8 c]).run Tryz.prog w=.ok (.value (.int .i64 (Lib.indexByte s.data.toList c.toNat.toUInt8))) w:=by
 rw[run_callFunc_extern Tryz.func96 (by kernel_rfl) (by kernel_rfl) (by kernel_rfl) (by kernel_rfl) _ w]
 show ((Extern.BytealgIndexByte.indexByte #[.string s,.int .u8 c]).run Tryz.prog w).andThen _=_
 rw[Lib.run_indexByteString]
 rfl
theorem sidx_any(s:ByteArray)(c:Int)(w:World):Calls Tryz.prog 74 #[.string s,.int .u8 c] w fun e w'=>e=.returned (.int .i64 (Lib.indexByte s.data.toList c.toNat.toUInt8))/\w'=w:=by
 have h:=call96 s c
 go_enter Tryz.func74,Tryz.ntmps74
 go_wp2
 go_ret
 exact ⟨rfl,rfl⟩
theorem idx_any(s:ByteArray)(c:Int)(w:World):Calls Tryz.prog 80 #[.string s,.int .u8 c] w fun e w'=>e=.returned (.int .i64 (Lib.indexByte s.data.toList c.toNat.toUInt8))/\w'=w:=by
 go_enter Tryz.func80,Tryz.ntmps80
 go_wp2_with fail
 refine (sidx_any s c _).mono ?_
 rintro e w1 ⟨rfl,rfl⟩
 go_wp2
 go_ret
 exact ⟨rfl,rfl⟩
def tagged:List UInt8:=[97,98,99,100,101,102,103,104,105,106,107,108,109,110,111,112,113,114,115,116,117,118,119,120,121,122,65,66,67,68,69,70,71,72,73,74,75,76,77,78,79,80,81,82,83,84,85,86,87,88,89,90,48,49,50,51,52,53,54,55,56,57]
theorem tagged_idx:∀n:Fin 256,decide (Lib.indexByte tagged n.val.toUInt8<0)=!alnum (n.val:Int):=by decide +kernel
theorem idx_tag(c:Int)(h0:0<=c)(h1:c<=255)(w:World):Calls Tryz.prog 80 #[.string { data:=#[97,98,99,100,101,102,103,104,105,106,107,108,109,110,111,112,113,114,115,116,117,118,119,120,121,122,65,66,67,68,69,70,71,72,73,74,75,76,77,78,79,80,81,82,83,84,85,86,87,88,89,90,48,49,50,51,52,53,54,55,56,57] },.int .u8 c] w fun e w'=>∃k,e=.returned (.int .i64 k)/\Hid (decide (k<0)=!alnum c)/\w'=w:=by
 refine (idx_any _ c w).mono ?_
 rintro e w1 ⟨rfl,rfl⟩
 refine ⟨_,rfl,?_,rfl⟩
 have:=tagged_idx ⟨c.toNat,by omega⟩
 simp only at this
 rw[Int.toNat_of_nonneg h0] at this
 exact this
theorem istag_any(s:ByteArray)(hs:s.size<=9223372036854775807)(w:World):Calls Tryz.prog 160 #[.string s] w fun e w'=>e=.returned (.bool (tagB s))/\w'=w:=by
 by_cases h1:s.size=0
 ·have HE:Hid (tagB s=false):=by show _=_;simp[tagB];omega
  have h1':((s.size:Int) == 0)=true:=by rw[beq_iff_eq];omega
  go_enter Tryz.func160,Tryz.ntmps160
  go_wp2_with fail
  go_ret
  exact ⟨by rw[HE.out];rfl,rfl⟩
 ·have h1':((s.size:Int) == 0)=false:=by rw[beq_eq_false_iff_ne];omega
  by_cases h2:15<s.size
  ·have HE:Hid (tagB s=false):=by show _=_;simp[tagB];omega
   have h2':(15:Int)<(s.size:Int):=by omega
   go_enter Tryz.func160,Tryz.ntmps160
   go_wp2_with fail
   go_ret
   exact ⟨by rw[HE.out];rfl,rfl⟩
  ·have h2':¬ (15:Int)<(s.size:Int):=by omega
   have HT:Hid (tagB s=(nums s).all alnum):=by show _=_;simp[tagB];intro _;omega
   go_enter Tryz.func160,Tryz.ntmps160
   go_wp2_with fail
   go_loopw [14] (fun v wr=>wr=w/\∃k:Nat,k<=s.size/\v=.int .i64 (k:Int)/\Hid (∀z∈(nums s).take k,alnum z=true)) (fun v _=>s.size - (intOf v).toNat)
   case atStart=>exact ⟨rfl,0,Nat.zero_le _,rfl,by intro y hy;simp at hy⟩
   case round=>
    obtain ⟨hwr,k,hk,rfl,HF⟩:=hrel
    subst hwr
    by_cases hlt:k<s.size
    ·have hlt':(k:Int)<(s.size:Int):=by omega
     have hbd:=nums_bd s k
     have hki:k<(nums s).length:=by rw[nums_len];exact hlt
     have hat:=nums_at s k hlt
     rw[hat] at hbd
     have HA:Hid (∃h:k<(nums s).length,(nums s)[k]=(s[k].toNat:Int)):=by
      refine ⟨hki,?_⟩
      have:(nums s).getD k 0=(nums s)[k]:=by simp[List.getD_eq_getElem?_getD,hki]
      rw[<- this,hat]
     clear hat hki
     obtain ⟨c,hc⟩:∃c:Int,(s[k].toNat:Int)=c:=⟨_,rfl⟩
     rw[hc] at hbd HA
     go_wp2_with fail
     first|simp only[hc]|skip
     refine (idx_tag c hbd.1 hbd.2 _).mono ?_
     rintro e w1 ⟨j,rfl,HJ,rfl⟩
     cases hal:alnum c with
     |true=>
      have HF2:Hid (∀z∈(nums s).take (k+1),alnum z=true):=by
       intro z hz
       obtain ⟨hin,hav⟩:=HA.out
       rw[List.take_succ_eq_append_getElem hin] at hz
       simp only[List.mem_append,List.mem_singleton] at hz
       rcases hz with hz|hz
       ·exact HF.out z hz
       ·subst hz;rw[hav];exact hal
      have hj:¬ j<0:=by have:=HJ.out;rw[hal] at this;simpa using this
      clear HF hal HJ
      go_wp2_with fail
      exact ⟨⟨by first|rfl|trivial,k+1,by omega,by go_num,HF2⟩,by simp[intOf];omega⟩
     |false=>
      have HE:Hid (tagB s=false):=by
       show _=_
       rw[HT.out,<- Bool.not_eq_true]
       intro hall
       obtain ⟨hin,hav⟩:=HA.out
       have:=List.all_eq_true.1 hall (nums s)[k] (List.getElem_mem hin)
       rw[hav,hal] at this
       cases this
      have hj:j<0:=by have:=HJ.out;rw[hal] at this;simpa using this
      clear HF hal HT HJ
      go_wp2_with fail
      go_ret
      exact ⟨by rw[HE.out];rfl,rfl⟩
    ·have hge:¬ (k:Int)<(s.size:Int):=by omega
     have HE:Hid (tagB s=true):=by
      have:=HF.out
      rw[List.take_of_length_le (by rw[nums_len];omega)] at this
      show _=_
      rw[HT.out]
      exact List.all_eq_true.2 this
     clear HF HT
     go_wp2_with fail
     go_ret
     exact ⟨by rw[HE.out];rfl,rfl⟩
def wthB(f:Fs)(d:Dat):Bool:=d.us.all (fun n=>decide (n / 2 ^ (8*f.wd)=0)) && (d.ts.take f.tg).all tagB && (d.ts.take (d.ts.length - f.tl)).all (fun s=>decide (s.size<=255))
theorem all_cut{α:Type}(l:List α)(p:α->Bool)(k:Nat)(hk:k<l.length)(h:p l[k]=false):l.all p=false:=by
 rw[<- Bool.not_eq_true]
 intro hall
 have:=List.all_eq_true.1 hall l[k] (List.getElem_mem hk)
 rw[h] at this
 cases this
theorem all_next{α:Type}(l:List α)(p:α->Bool)(k:Nat)(hk:k<l.length)(h:p l[k]=true)(hf:∀z∈l.take k,p z=true):∀z∈l.take (k+1),p z=true:=by
 intro z hz
 rw[List.take_succ_eq_append_getElem hk] at hz
 simp only[List.mem_append,List.mem_singleton] at hz
 rcases hz with hz|hz
 ·exact hf z hz
 ·subst hz;exact h
theorem within_any (f : Fs) (x : DA) (d : Dat) (w : World) (h : DRd w x d) (hwd : f.wd = 0 ∨ f.wd = 1 ∨ f.wd = 2 ∨ f.wd = 4) (htg : f.tg <= d.ts.length) (htl : f.tl <= d.ts.length) :
    Calls Tryz.prog 140 #[.agg #[.int .i64 f.nn, .int .i64 f.nf, .int .i64 f.nu, .int .i64 f.wd, .int .i64 f.nt, .int .i64 f.tg, .int .i64 f.tl, .int .i64 f.nr], .agg #[.slice x.p1.a x.p1.n x.p1.c, .slice x.p2.a x.p2.n x.p2.c, .slice x.p3.a x.p3.n x.p3.c, .slice x.p4.a x.p4.n x.p4.c]] w fun e w' => e = .returned (.bool (wthB f d)) /\ Hid (Below w.heap.size w w') := by
  have H : Hid (PtSt w ((w.alloc (.cells #[.int .i64 f.nn, .int .i64 f.nf, .int .i64 f.nu, .int .i64 f.wd, .int .i64 f.nt, .int .i64 f.tg, .int .i64 f.tl, .int .i64 f.nr] 201)).alloc (.cells #[.slice x.p1.a x.p1.n x.p1.c, .slice x.p2.a x.p2.n x.p2.c, .slice x.p3.a x.p3.n x.p3.c, .slice x.p4.a x.p4.n x.p4.c] 48)) w.heap.size f x d) := PtSt.new w f x d h
  have l2 := h.h2.len
  have l3 := h.h3.len
  have HC : Hid (x.p2.n <= 9223372036854775807 /\ x.p3.n <= x.p3.c /\ x.p3.c <= 9223372036854775807) := ⟨Nat.le_trans h.h2.cap.1 h.h2.cap.2, h.h3.cap.1, h.h3.cap.2⟩
  clear h
  obtain ⟨nn, nf, nu, wd, nt, tg, tl, nr⟩ := f
  obtain ⟨⟨a1, n1, k1⟩, ⟨a2, n2, k2⟩, ⟨a3, n3, k3⟩, ⟨a4, n4, k4⟩⟩ := x
  simp only at H l2 l3 HC hwd htg htl ⊢
  have hk3 := HC.out.2
  have hn2 := HC.out.1
  have htg' : tg <= n3 := by omega
  have htl' : tl <= n3 := by omega
  have HW : Hid (wthB ⟨nn, nf, nu, wd, nt, tg, tl, nr⟩ d = (d.us.all (fun n => decide (n / 2 ^ (8 * wd) = 0)) && (d.ts.take tg).all tagB && (d.ts.take (n3 - tl)).all (fun s => decide (s.size <= 255)))) := by
    show _ = _
    unfold wthB
    rw [l3]
  have HL : Hid (d.us.length = n2 /\ d.ts.length = n3) := ⟨l2, l3⟩
  obtain ⟨R, hR⟩ : ∃ R, wthB ⟨nn, nf, nu, wd, nt, tg, tl, nr⟩ d = R := ⟨_, rfl⟩
  rw [hR] at HW ⊢
  clear hR l2 l3 htg htl HC
  go_enter Tryz.func140, Tryz.ntmps140
  go_upto_region 1 with fail
  generalize ((w.alloc (.cells #[.int .i64 nn, .int .i64 nf, .int .i64 nu, .int .i64 wd, .int .i64 nt, .int .i64 tg, .int .i64 tl, .int .i64 nr] 201)).alloc (.cells #[.slice a1 n1 k1, .slice a2 n2 k2, .slice a3 n3 k3, .slice a4 n4 k4] 48)) = W1 at *
  obtain ⟨b, hb⟩ : ∃ b, b = w.heap.size := ⟨_, rfl⟩
  rw [<- hb] at H ⊢
  have Hb : Hid (b = w.heap.size) := hb
  clear hb
  have s3 := H.out.1.2.2.2.1
  have c1 := H.out.2.1.2.1
  simp only at s3 c1
  go_wp2_with fail
  go_loopw [14] (fun v wr => wr = W1 /\ ∃ k : Nat, k <= n2 /\ v = .int .i64 (k : Int) /\ Hid (∀ z ∈ d.us.take k, decide (z / 2 ^ (8 * wd) = 0) = true)) (fun v _ => n2 - (intOf v).toNat)
  case atStart => exact ⟨rfl, 0, Nat.zero_le _, rfl, by intro y hy; simp at hy⟩
  case round =>
    obtain ⟨hwr, k, hk, rfl, HF⟩ := hrel
    subst hwr
    by_cases hlt : k < n2
    · have hlt' : (k : Int) < (n2 : Int) := by omega
      have hki : k < d.us.length := by rw [HL.out.1]; exact hlt
      obtain ⟨B2, o2, ha2, hl2, hz2⟩ := H.out.2.2.1.h2.at k hki
      have hub := H.out.2.2.1.h2.bd _ (List.getElem_mem hki)
      simp only at ha2
      subst ha2
      have HN : Hid (decide (d.us[k] / 2 ^ (8 * wd) = 0) = true -> ∀ z ∈ d.us.take (k + 1), decide (z / 2 ^ (8 * wd) = 0) = true) := fun hh => all_next d.us _ k hki hh HF.out
      have HX : Hid (decide (d.us[k] / 2 ^ (8 * wd) = 0) = false -> R = false) := by
        intro hh
        have := HW.out
        rw [all_cut d.us (fun n => decide (n / 2 ^ (8 * wd) = 0)) k hki hh] at this
        simpa using this
      clear HF
      generalize d.us[k] = u at *
      have hq : ∀ m : Nat, ((u : Int) / ((2 ^ m : Nat) : Int)) = ((u / 2 ^ m : Nat) : Int) := by intro m; simp
      by_cases hu : u / 2 ^ (8 * wd) = 0
      · have HF2 := HN.out (decide_eq_true hu)
        have HF3 : Hid (∀ z ∈ d.us.take (k + 1), decide (z / 2 ^ (8 * wd) = 0) = true) := HF2
        clear HF2 HN HX
        rcases hwd with e | e | e | e
        all_goals
          subst e
          simp at hu
          go_wp2_with fail
          exact ⟨⟨by first | rfl | trivial, k + 1, by omega, by go_num, HF3⟩, by simp [intOf]; omega⟩
      · have HE : Hid (R = false) := HX.out (decide_eq_false hu)
        clear HN HX HW
        rcases hwd with e | e | e | e
        all_goals
          subst e
          simp at hu
          first
          | omega
          | (go_wp2_with fail
             go_ret
             exact ⟨by rw [HE.out]; rfl, H.out.2.2.2⟩)
    · have hge : ¬ (k : Int) < (n2 : Int) := by omega
      have HU : Hid (d.us.all (fun n => decide (n / 2 ^ (8 * wd) = 0)) = true) := by
        have := HF.out
        rw [List.take_of_length_le (by rw [HL.out.1]; omega)] at this
        exact List.all_eq_true.2 this
      clear HF
      have s5 := H.out.1.2.2.2.2.2.1
      have c2 := H.out.2.1.2.2.1
      simp only at s5 c2
      clear s3 c1 hwd
      go_wp2_with fail
      obtain ⟨wz, hz⟩ : ∃ z, z = wr := ⟨_, rfl⟩
      subst hz
      go_loopw [31] (fun v wr => wr = wz /\ ∃ k : Nat, k <= tg /\ v = .int .i64 (k : Int) /\ Hid (∀ z ∈ (d.ts.take tg).take k, tagB z = true)) (fun v _ => tg - (intOf v).toNat)
      case atStart => exact ⟨rfl, 0, Nat.zero_le _, rfl, by intro y hy; simp at hy⟩
      case round =>
        obtain ⟨hwr, j, hj, rfl, HF⟩ := hrel
        subst hwr
        by_cases hjt : j < tg
        · have hjt' : (j : Int) < (tg : Int) := by omega
          have hji : j < d.ts.length := by rw [HL.out.2]; omega
          have hjj : j < (d.ts.take tg).length := by rw [List.length_take]; omega
          obtain ⟨B3, o3, ha3, hl3, hy3⟩ := H.out.2.2.1.h3.rd.at j hji
          have hsz := H.out.2.2.1.h3.z63 _ (List.getElem_mem hji)
          simp only at ha3
          subst ha3
          have hjs : (d.ts.take tg)[j] = d.ts[j] := by simp
          have HN : Hid (tagB d.ts[j] = true -> ∀ z ∈ (d.ts.take tg).take (j + 1), tagB z = true) := fun hh => all_next (d.ts.take tg) tagB j hjj (by rw [hjs]; exact hh) HF.out
          have HX : Hid (tagB d.ts[j] = false -> R = false) := by
            intro hh
            have := HW.out
            rw [all_cut (d.ts.take tg) tagB j hjj (by rw [hjs]; exact hh)] at this
            simpa using this
          clear HF hjs hjj
          generalize d.ts[j] = s at *
          go_wp2_with fail
          refine (istag_any s hsz _).mono ?_
          rintro e Wx ⟨rfl, rfl⟩
          cases htb : tagB s with
          | true =>
            have HF2 : Hid (∀ z ∈ (d.ts.take tg).take (j + 1), tagB z = true) := HN.out htb
            clear HN HX htb
            go_wp2_with fail
            exact ⟨⟨by first | rfl | trivial, j + 1, by omega, by go_num, HF2⟩, by simp [intOf]; omega⟩
          | false =>
            have HE : Hid (R = false) := HX.out htb
            clear HN HX htb
            go_wp2_with fail
            go_ret
            exact ⟨by rw [HE.out]; rfl, H.out.2.2.2⟩
        · have hge2 : ¬ (j : Int) < (tg : Int) := by omega
          have HT : Hid ((d.ts.take tg).all tagB = true) := by
            have := HF.out
            rw [List.take_of_length_le (by rw [List.length_take]; omega)] at this
            exact List.all_eq_true.2 this
          clear HF
          have s6 := H.out.1.2.2.2.2.2.2.1
          simp only at s6
          obtain ⟨m, hm⟩ : ∃ m : Nat, m = n3 - tl := ⟨_, rfl⟩
          have hmi : (n3 : Int) - (tl : Int) = (m : Int) := by omega
          have hmw : IntKind.i64.wrap ((n3 : Int) - (tl : Int)) = (m : Int) := by rw [hmi, IntKind.wrap_i64]; omega
          have HM : Hid (m = n3 - tl) := hm
          have hmn : m <= n3 := by omega
          clear hm hmi s5
          go_wp2_with fail
          obtain ⟨wy, hz⟩ : ∃ z, z = wr := ⟨_, rfl⟩
          subst hz
          go_loopw [49] (fun v wr => wr = wy /\ ∃ k : Nat, k <= m /\ v = .int .i64 (k : Int) /\ Hid (∀ z ∈ (d.ts.take m).take k, decide (z.size <= 255) = true)) (fun v _ => m - (intOf v).toNat)
          case atStart => exact ⟨rfl, 0, Nat.zero_le _, rfl, by intro y hy; simp at hy⟩
          case round =>
            obtain ⟨hwr, i, hi, rfl, HF⟩ := hrel
            subst hwr
            by_cases hit : i < m
            · have hit' : (i : Int) < (m : Int) := by omega
              have hii : i < d.ts.length := by rw [HL.out.2]; omega
              have hij : i < (d.ts.take m).length := by rw [List.length_take]; omega
              obtain ⟨B3, o3, ha3, hl3, hy3⟩ := H.out.2.2.1.h3.rd.at i hii
              simp only at ha3
              subst ha3
              have his : (d.ts.take m)[i] = d.ts[i] := by simp
              by_cases hz : (255 : Int) < (d.ts[i].size : Int)
              · have HE : Hid (R = false) := by
                  have := HW.out
                  show R = false
                  rw [<- HM.out, all_cut (d.ts.take m) (fun s => decide (s.size <= 255)) i hij (by rw [his]; exact decide_eq_false (by omega))] at this
                  simpa using this
                clear HF HW
                generalize d.ts[i] = s at *
                go_wp2_with fail
                go_ret
                exact ⟨by rw [HE.out]; rfl, H.out.2.2.2⟩
              · have HF2 : Hid (∀ z ∈ (d.ts.take m).take (i + 1), decide (z.size <= 255) = true) := all_next (d.ts.take m) (fun z => decide (z.size <= 255)) i hij (by rw [his]; exact decide_eq_true (by omega)) HF.out
                clear HF his
                generalize d.ts[i] = s at *
                go_wp2_with fail
                exact ⟨⟨by first | rfl | trivial, i + 1, by omega, by go_num, HF2⟩, by simp [intOf]; omega⟩
            · have hge3 : ¬ (i : Int) < (m : Int) := by omega
              have HE : Hid (R = true) := by
                have h1 := HF.out
                rw [List.take_of_length_le (by rw [List.length_take]; omega)] at h1
                have h2 := HW.out
                rw [HU.out, HT.out, <- HM.out, List.all_eq_true.2 h1] at h2
                show R = true
                simpa using h2
              clear HF HW
              go_wp2_with fail
              go_ret
              exact ⟨by rw [HE.out]; rfl, H.out.2.2.2⟩
theorem sum_snoc'(l:List Nat)(n:Nat):(l++[n]).sum=l.sum+n:=by simp
theorem sum_take'(l:List Nat)(k:Nat):(l.take k).sum<=l.sum:=by
 induction l generalizing k with
 |nil=>simp
 |cons x l ih=>
  cases k with
  |zero=>simp
  |succ k=>simp;exact ih k
def nsum(d:Dat):Nat:=(d.ns.map nsz).sum
def tz(s:ByteArray):Nat:=1+s.size
def tsum(d:Dat):Nat:=(d.ts.map tz).sum
def pszI(f:Fs)(d:Dat):Int:=((f.wd*d.us.length:Nat):Int)+(d.raw.length:Int) - (f.tl:Int)+(nsum d:Int)+(tsum d:Int)
theorem psize5_any(f:Fs)(x:DA)(d:Dat)(w:World)(h:DRd w x d)(htl:f.tl<=1)(hB:f.wd*d.us.length+d.raw.length+nsum d+tsum d<=1000000000000000) :
  Calls Tryz.prog 141 #[.agg #[.int .i64 f.nn,.int .i64 f.nf,.int .i64 f.nu,.int .i64 f.wd,.int .i64 f.nt,.int .i64 f.tg,.int .i64 f.tl,.int .i64 f.nr],.agg #[.slice x.p1.a x.p1.n x.p1.c,.slice x.p2.a x.p2.n x.p2.c,.slice x.p3.a x.p3.n x.p3.c,.slice x.p4.a x.p4.n x.p4.c]] w fun e w'=>e=.returned (.int .i64 (pszI f d))/\Hid (Below w.heap.size w w'):=by
 have H:Hid (PtSt w ((w.alloc (.cells #[.int .i64 f.nn,.int .i64 f.nf,.int .i64 f.nu,.int .i64 f.wd,.int .i64 f.nt,.int .i64 f.tg,.int .i64 f.tl,.int .i64 f.nr] 201)).alloc (.cells #[.slice x.p1.a x.p1.n x.p1.c,.slice x.p2.a x.p2.n x.p2.c,.slice x.p3.a x.p3.n x.p3.c,.slice x.p4.a x.p4.n x.p4.c] 48)) w.heap.size f x d):=PtSt.new w f x d h
 have l1:=h.h1.len
 have l2:=h.h2.len
 have l3:=h.h3.len
 have l4:=h.h4.len
 have hc1:x.p1.n<=9223372036854775807:=Nat.le_trans h.h1.cap.1 h.h1.cap.2
 have hc3:x.p3.n<=9223372036854775807:=Nat.le_trans h.h3.cap.1 h.h3.cap.2
 clear h
 obtain ⟨nn,nf,nu,wd,nt,tg,tl,nr⟩:=f
 obtain ⟨⟨a1,n1,k1⟩,⟨a2,n2,k2⟩,⟨a3,n3,k3⟩,⟨a4,n4,k4⟩⟩:=x
 simp only at H l1 l2 l3 l4 hc1 hc3 htl hB ⊢
 obtain ⟨Z,hZ⟩:∃Z,pszI ⟨nn,nf,nu,wd,nt,tg,tl,nr⟩ d=Z:=⟨_,rfl⟩
 rw[hZ]
 obtain ⟨P,hP⟩:∃P,wd*n2=P:=⟨_,rfl⟩
 have HZ:Hid (Z=(P:Int)+(n4:Int) - (tl:Int)+(nsum d:Int)+(tsum d:Int)):=by
  show Z=_
  rw[<- hZ]
  unfold pszI
  rw[l4,l2,hP]
 have hB':P+n4+nsum d+tsum d<=1000000000000000:=by rw[<- hP,<- l2,<- l4];exact hB
 have HL:Hid (d.ns.length=n1/\d.ts.length=n3):=⟨l1,l3⟩
 have hPi:(wd:Int)*(n2:Int)=(P:Int):=by rw[<- hP];simp
 clear hZ l1 l2 l3 l4 hP hB
 have w1:IntKind.i64.wrap ((wd:Int)*(n2:Int))=(P:Int):=by rw[hPi,IntKind.wrap_i64];omega
 have w2:IntKind.i64.wrap ((P:Int)+(n4:Int))=(P:Int)+(n4:Int):=by rw[IntKind.wrap_i64];omega
 have w2':IntKind.i64.wrap ((P:Int)+(n4:Int) - (tl:Int))=(P:Int)+(n4:Int) - (tl:Int):=by rw[IntKind.wrap_i64];omega
 clear hPi
 go_enter Tryz.func141,Tryz.ntmps141
 go_upto_region 1 with fail
 generalize ((w.alloc (.cells #[.int .i64 nn,.int .i64 nf,.int .i64 nu,.int .i64 wd,.int .i64 nt,.int .i64 tg,.int .i64 tl,.int .i64 nr] 201)).alloc (.cells #[.slice a1 n1 k1,.slice a2 n2 k2,.slice a3 n3 k3,.slice a4 n4 k4] 48))=W1 at*
 obtain ⟨b,hb⟩:∃b,b=w.heap.size:=⟨_,rfl⟩
 rw[<- hb] at H ⊢
 have Hb:Hid (b=w.heap.size):=hb
 clear hb
 have s3:=H.out.1.2.2.2.1
 have s6:=H.out.1.2.2.2.2.2.2.1
 have c0:=H.out.2.1.1
 have c1:=H.out.2.1.2.1
 have c3:=H.out.2.1.2.2.2.1
 simp only at s3 s6 c0 c1 c3
 go_wp2_with fail
 clear s3 s6 c1 c3 w1 w2 w2'
 go_loopw [5,26] (fun v i wr=>wr=W1/\∃(k:Nat) (A:Int),k<=n1/\i=.int .i64 (k:Int)/\v=.int .i64 A/\(-1<=A/\A<=1000000000000000)/\Hid (A=(P:Int)+(n4:Int) - (tl:Int)+((((d.ns.map nsz).take k).sum:Nat):Int))) (fun _ i _=>n1 - (intOf i).toNat)
 case atStart=>exact ⟨rfl,0,(P:Int)+(n4:Int) - (tl:Int),Nat.zero_le _,rfl,by first|rfl|simp,by omega,by show _=_;simp⟩
 case round=>
  obtain ⟨hwr,k,A,hk,rfl,rfl,hA,HA⟩:=hrel
  subst hwr
  by_cases hlt:k<n1
  ·have hlt':(k:Int)<(n1:Int):=by omega
   have hki:k<d.ns.length:=by rw[HL.out.1];exact hlt
   obtain ⟨B1,o1,ha1,hl1,z1,hz1,hr1⟩:=H.out.2.2.1.h1.at k hki
   simp only at ha1
   subst ha1
   have hsum:((d.ns.map nsz).take (k+1)).sum=((d.ns.map nsz).take k).sum+nsz d.ns[k]:=by
    rw[List.take_succ_eq_append_getElem (by simp;exact hki),sum_snoc'];simp
   have hle:((d.ns.map nsz).take (k+1)).sum<=nsum d:=sum_take' (d.ns.map nsz) (k+1)
   have hA2:=HA.out
   have HA2:Hid (A+(nsz d.ns[k]:Int)=(P:Int)+(n4:Int) - (tl:Int)+((((d.ns.map nsz).take (k+1)).sum:Nat):Int)):=by show _=_;omega
   have hb2:A+(nsz d.ns[k]:Int)<=1000000000000000:=by have:=HA2.out;omega
   have KS:Hid (∀W,W=wr->Calls Tryz.prog 32 #[.slice z1.a z1.n z1.c] W fun e w'=>e=.returned (.int .i64 (nsz d.ns[k]))/\w'=W):=by
    intro W e
    subst e
    exact psize_eq z1.a z1.n z1.c d.ns[k] W hr1.rd hr1.len (by omega)
   clear hsum hle hA2 hr1 HA
   generalize nsz d.ns[k]=q at*
   generalize z1.a=za at*
   generalize z1.n=zn at*
   generalize z1.c=zc at*
   have w3:IntKind.i64.wrap (A+(q:Int))=A+(q:Int):=by rw[IntKind.wrap_i64];omega
   go_wp2_with fail
   refine (KS.out _ rfl).mono ?_
   rintro e Wx ⟨rfl,rfl⟩
   go_wp2_with fail
   refine ⟨⟨by first|rfl|trivial,k+1,A+(q:Int),by omega,by go_num,by first|rfl|go_num,by omega,HA2⟩,?_⟩
   simp[intOf];omega
  ·have hge:¬ (k:Int)<(n1:Int):=by omega
   have HA1:Hid (A=(P:Int)+(n4:Int) - (tl:Int)+(nsum d:Int)):=by
    have:=HA.out
    rwa [List.take_of_length_le (by simp;rw[HL.out.1];omega)] at this
   clear HA
   have c2:=H.out.2.1.2.2.1
   simp only at c2
   clear c0
   go_wp2_with fail
   obtain ⟨wz,hz⟩:∃z,z=wr:=⟨_,rfl⟩
   subst hz
   go_loopw [5,38] (fun v i wr=>wr=wz/\∃(j:Nat) (B:Int),j<=n3/\i=.int .i64 (j:Int)/\v=.int .i64 B/\(-1<=B/\B<=1000000000000000)/\Hid (B=A+((((d.ts.map tz).take j).sum:Nat):Int))) (fun _ i _=>n3 - (intOf i).toNat)
   case atStart=>exact ⟨rfl,0,A,Nat.zero_le _,rfl,rfl,hA,by show _=_;simp⟩
   case round=>
    obtain ⟨hwr,j,B,hj,rfl,rfl,hB2,HBB⟩:=hrel
    subst hwr
    by_cases hjt:j<n3
    ·have hjt':(j:Int)<(n3:Int):=by omega
     have hji:j<d.ts.length:=by rw[HL.out.2];exact hjt
     obtain ⟨B3,o3,ha3,hl3,hy3⟩:=H.out.2.2.1.h3.rd.at j hji
     simp only at ha3
     subst ha3
     have hsum:((d.ts.map tz).take (j+1)).sum=((d.ts.map tz).take j).sum+(1+d.ts[j].size):=by
      rw[List.take_succ_eq_append_getElem (by simp;exact hji),sum_snoc'];simp[tz]
     have hle:((d.ts.map tz).take (j+1)).sum<=tsum d:=sum_take' _ (j+1)
     have hA2:=HBB.out
     have hA3:=HA1.out
     have HB3:Hid (B+(1+(d.ts[j].size:Int))=A+((((d.ts.map tz).take (j+1)).sum:Nat):Int)):=by show _=_;omega
     have hb3:B+(1+(d.ts[j].size:Int))<=1000000000000000:=by have:=HB3.out;omega
     clear hsum hle hA2 hA3 HBB
     obtain ⟨s,hs⟩:∃s,s=d.ts[j]:=⟨_,rfl⟩
     rw[<- hs] at HB3 hb3 hy3
     clear hs
     have w4:IntKind.i64.wrap (1+(s.size:Int))=1+(s.size:Int):=by rw[IntKind.wrap_i64];omega
     have w5:IntKind.i64.wrap (B+(1+(s.size:Int)))=B+(1+(s.size:Int)):=by rw[IntKind.wrap_i64];omega
     go_wp2_with fail
     refine ⟨⟨by first|rfl|trivial,j+1,B+(1+(s.size:Int)),by omega,by go_num,by first|rfl|go_num,by omega,HB3⟩,?_⟩
     simp[intOf];omega
    ·have hge2:¬ (j:Int)<(n3:Int):=by omega
     have HE:Hid (Z=B):=by
      have h1:=HBB.out
      rw[List.take_of_length_le (by simp;rw[HL.out.2];omega)] at h1
      have h2:=HZ.out
      have h3:=HA1.out
      show Z=B
      have h4:tsum d=(d.ts.map tz).sum:=rfl
      omega
     clear HBB HA1
     go_wp2_with fail
     go_ret
     exact ⟨by rw[HE.out];rfl,H.out.2.2.2⟩
theorem dec_wd(wd:Nat)(h:wd=1∨wd=2∨wd=4)(n:Nat):decide (n / 2 ^ (8*wd)=0)=decide (n<=most wd):=by
 apply decide_eq_decide.2
 rcases h with rfl|rfl|rfl <;> simp[most] <;> omega
theorem fitB_ge(n:Nat)(c:Int)(h:0<=c):fitB n c=decide ((n:Int)=c):=by
 unfold fitB
 rw[if_neg (by omega),if_neg (by omega)]
theorem nil_of{α:Type}{l:List α}(h:(l.length:Int)=0):l=[]:=List.eq_nil_of_length_eq_zero (by omega)
theorem fit_eq(t:Nat)(d:Dat):(cntB (fs t) d && wthB (fs t) d)=fitsB t d:=by
 obtain ⟨ns,us,ts,raw⟩:=d
 rw[Bool.eq_iff_iff]
 unfold cntB wthB fitsB
 rcases fs_cases t with ⟨ht,e⟩|⟨ht,e⟩|⟨ht,e⟩|⟨ht,e⟩|⟨ht,e⟩|⟨ht,e⟩|⟨ht,e⟩|⟨ht,e⟩|⟨ht,e⟩
 ·have es':shp t=⟨0,0,0,4,0⟩:=by subst ht;rfl
  have q1:t≠16:=by omega
  have q2:t≠257:=by omega
  rw[e,es']
  simp only[fitB_ge _ ((0:Nat):Int) (by omega),fitB_ge _ (0:Int) (by omega),fitB_ge _ ((1:Nat):Int) (by omega),fitB_ge _ (4:Int) (by omega),fitB_ge _ (16:Int) (by omega),Bool.and_eq_true,Bool.or_eq_true,decide_eq_true_eq,List.all_eq_true]
  constructor
  ·rintro ⟨⟨⟨⟨h1,h2⟩,h3⟩,h4⟩,_⟩
   obtain rfl:=nil_of h2
   obtain rfl:=nil_of h3
   exact ⟨⟨⟨⟨⟨⟨⟨by omega,rfl⟩,.inr rfl⟩,.inl (by omega)⟩,.inr (by omega)⟩,by simp⟩,.inl q1⟩,.inl q2⟩
  ·rintro ⟨⟨⟨⟨⟨⟨⟨h1,h2⟩,h3⟩,_⟩,h4⟩,_⟩,_⟩,_⟩
   obtain rfl:=List.eq_nil_of_length_eq_zero h2
   obtain rfl:=nil_of (l:=ts) (by omega)
   exact ⟨⟨⟨⟨by omega,rfl⟩,rfl⟩,by omega⟩,⟨by simp,by simp⟩,by simp⟩
 ·have es':shp t=⟨0,0,0,16,0⟩:=by subst ht;rfl
  have q1:t≠16:=by omega
  have q2:t≠257:=by omega
  rw[e,es']
  simp only[fitB_ge _ ((0:Nat):Int) (by omega),fitB_ge _ (0:Int) (by omega),fitB_ge _ ((1:Nat):Int) (by omega),fitB_ge _ (4:Int) (by omega),fitB_ge _ (16:Int) (by omega),Bool.and_eq_true,Bool.or_eq_true,decide_eq_true_eq,List.all_eq_true]
  constructor
  ·rintro ⟨⟨⟨⟨h1,h2⟩,h3⟩,h4⟩,_⟩
   obtain rfl:=nil_of h2
   obtain rfl:=nil_of h3
   exact ⟨⟨⟨⟨⟨⟨⟨by omega,rfl⟩,.inr rfl⟩,.inl (by omega)⟩,.inr (by omega)⟩,by simp⟩,.inl q1⟩,.inl q2⟩
  ·rintro ⟨⟨⟨⟨⟨⟨⟨h1,h2⟩,h3⟩,_⟩,h4⟩,_⟩,_⟩,_⟩
   obtain rfl:=List.eq_nil_of_length_eq_zero h2
   obtain rfl:=nil_of (l:=ts) (by omega)
   exact ⟨⟨⟨⟨by omega,rfl⟩,rfl⟩,by omega⟩,⟨by simp,by simp⟩,by simp⟩
 ·have es':shp t=⟨1,0,0,0,0⟩:=by rcases ht with rfl|rfl|rfl <;> rfl
  have q1:t≠16:=by omega
  have q2:t≠257:=by omega
  rw[e,es']
  simp only[fitB_ge _ ((0:Nat):Int) (by omega),fitB_ge _ (0:Int) (by omega),fitB_ge _ ((1:Nat):Int) (by omega),fitB_ge _ (4:Int) (by omega),fitB_ge _ (16:Int) (by omega),Bool.and_eq_true,Bool.or_eq_true,decide_eq_true_eq,List.all_eq_true]
  constructor
  ·rintro ⟨⟨⟨⟨h1,h2⟩,h3⟩,h4⟩,_⟩
   obtain rfl:=nil_of h2
   obtain rfl:=nil_of h3
   exact ⟨⟨⟨⟨⟨⟨⟨by omega,rfl⟩,.inr rfl⟩,.inl (by omega)⟩,.inr (by omega)⟩,by simp⟩,.inl q1⟩,.inl q2⟩
  ·rintro ⟨⟨⟨⟨⟨⟨⟨h1,h2⟩,h3⟩,_⟩,h4⟩,_⟩,_⟩,_⟩
   obtain rfl:=List.eq_nil_of_length_eq_zero h2
   obtain rfl:=nil_of (l:=ts) (by omega)
   exact ⟨⟨⟨⟨by omega,rfl⟩,rfl⟩,by omega⟩,⟨by simp,by simp⟩,by simp⟩
 ·have es':shp t=⟨2,5,0,0,4⟩:=by subst ht;rfl
  have q1:t≠16:=by omega
  have q2:t≠257:=by omega
  have hd:=dec_wd 4 (by simp)
  rw[e,es']
  simp only[hd,fitB_ge _ ((0:Nat):Int) (by omega),fitB_ge _ (0:Int) (by omega),fitB_ge _ ((1:Nat):Int) (by omega),fitB_ge _ ((2:Nat):Int) (by omega),fitB_ge _ ((3:Nat):Int) (by omega),fitB_ge _ ((5:Nat):Int) (by omega),Bool.and_eq_true,Bool.or_eq_true,decide_eq_true_eq,List.all_eq_true]
  constructor
  ·rintro ⟨⟨⟨⟨h1,h2⟩,h3⟩,h4⟩,⟨h5,_⟩,_⟩
   obtain rfl:=nil_of h3
   obtain rfl:=nil_of h4
   exact ⟨⟨⟨⟨⟨⟨⟨by omega,by omega⟩,.inr rfl⟩,.inl (by omega)⟩,.inr rfl⟩,h5⟩,.inl q1⟩,.inl q2⟩
  ·rintro ⟨⟨⟨⟨⟨⟨⟨h1,h2⟩,h3⟩,_⟩,h4⟩,h5⟩,_⟩,_⟩
   obtain rfl:=nil_of (l:=ts) (by omega)
   obtain rfl:=nil_of (l:=raw) (by omega)
   exact ⟨⟨⟨⟨by omega,by omega⟩,rfl⟩,rfl⟩,⟨h5,by simp⟩,by simp⟩
 ·have es':shp t=⟨1,1,0,0,2⟩:=by subst ht;rfl
  have q1:t≠16:=by omega
  have q2:t≠257:=by omega
  have hd:=dec_wd 2 (by simp)
  rw[e,es']
  simp only[hd,fitB_ge _ ((0:Nat):Int) (by omega),fitB_ge _ (0:Int) (by omega),fitB_ge _ ((1:Nat):Int) (by omega),fitB_ge _ ((2:Nat):Int) (by omega),fitB_ge _ ((3:Nat):Int) (by omega),fitB_ge _ ((5:Nat):Int) (by omega),Bool.and_eq_true,Bool.or_eq_true,decide_eq_true_eq,List.all_eq_true]
  constructor
  ·rintro ⟨⟨⟨⟨h1,h2⟩,h3⟩,h4⟩,⟨h5,_⟩,_⟩
   obtain rfl:=nil_of h3
   obtain rfl:=nil_of h4
   exact ⟨⟨⟨⟨⟨⟨⟨by omega,by omega⟩,.inr rfl⟩,.inl (by omega)⟩,.inr rfl⟩,h5⟩,.inl q1⟩,.inl q2⟩
  ·rintro ⟨⟨⟨⟨⟨⟨⟨h1,h2⟩,h3⟩,_⟩,h4⟩,h5⟩,_⟩,_⟩
   obtain rfl:=nil_of (l:=ts) (by omega)
   obtain rfl:=nil_of (l:=raw) (by omega)
   exact ⟨⟨⟨⟨by omega,by omega⟩,rfl⟩,rfl⟩,⟨h5,by simp⟩,by simp⟩
 ·have es':shp t=⟨1,3,0,0,2⟩:=by subst ht;rfl
  have q1:t≠16:=by omega
  have q2:t≠257:=by omega
  have hd:=dec_wd 2 (by simp)
  rw[e,es']
  simp only[hd,fitB_ge _ ((0:Nat):Int) (by omega),fitB_ge _ (0:Int) (by omega),fitB_ge _ ((1:Nat):Int) (by omega),fitB_ge _ ((2:Nat):Int) (by omega),fitB_ge _ ((3:Nat):Int) (by omega),fitB_ge _ ((5:Nat):Int) (by omega),Bool.and_eq_true,Bool.or_eq_true,decide_eq_true_eq,List.all_eq_true]
  constructor
  ·rintro ⟨⟨⟨⟨h1,h2⟩,h3⟩,h4⟩,⟨h5,_⟩,_⟩
   obtain rfl:=nil_of h3
   obtain rfl:=nil_of h4
   exact ⟨⟨⟨⟨⟨⟨⟨by omega,by omega⟩,.inr rfl⟩,.inl (by omega)⟩,.inr rfl⟩,h5⟩,.inl q1⟩,.inl q2⟩
  ·rintro ⟨⟨⟨⟨⟨⟨⟨h1,h2⟩,h3⟩,_⟩,h4⟩,h5⟩,_⟩,_⟩
   obtain rfl:=nil_of (l:=ts) (by omega)
   obtain rfl:=nil_of (l:=raw) (by omega)
   exact ⟨⟨⟨⟨by omega,by omega⟩,rfl⟩,rfl⟩,⟨h5,by simp⟩,by simp⟩
 ·have es':shp t=⟨0,0,-1,0,0⟩:=by subst ht;rfl
  have q2:t≠257:=by omega
  rw[e,es']
  have f1:fitB ts.length (-1)=decide (0<ts.length):=by simp[fitB]
  simp only[f1,fitB_ge _ ((0:Nat):Int) (by omega),fitB_ge _ (0:Int) (by omega),Bool.and_eq_true,Bool.or_eq_true,decide_eq_true_eq,List.all_eq_true]
  constructor
  ·rintro ⟨⟨⟨⟨h1,h2⟩,h3⟩,h4⟩,_,h5⟩
   obtain rfl:=nil_of h2
   obtain rfl:=nil_of h4
   exact ⟨⟨⟨⟨⟨⟨⟨by omega,rfl⟩,.inl (by omega)⟩,.inr (by omega)⟩,.inr rfl⟩,by simp⟩,.inr (by simpa using h5)⟩,.inl q2⟩
  ·rintro ⟨⟨⟨⟨⟨⟨⟨h1,h2⟩,h3⟩,h6⟩,h4⟩,h5⟩,h7⟩,_⟩
   obtain rfl:=List.eq_nil_of_length_eq_zero h2
   obtain rfl:=nil_of (l:=raw) (by omega)
   exact ⟨⟨⟨⟨by omega,rfl⟩,by omega⟩,rfl⟩,⟨by simp,by simp⟩,by have:=h7.resolve_left (fun hh=>hh ht);simpa using this⟩
 ·have es':shp t=⟨0,1,2,0,1⟩:=by subst ht;rfl
  have q1:t≠16:=by omega
  have hd:=dec_wd 1 (by simp)
  rw[e,es']
  simp only[hd,fitB_ge _ ((0:Nat):Int) (by omega),fitB_ge _ (0:Int) (by omega),fitB_ge _ ((1:Nat):Int) (by omega),fitB_ge _ (2:Int) (by omega),Bool.and_eq_true,Bool.or_eq_true,decide_eq_true_eq,List.all_eq_true]
  constructor
  ·rintro ⟨⟨⟨⟨h1,h2⟩,h3⟩,h4⟩,⟨h5,h6⟩,h7⟩
   rcases ts with _|⟨a,_|⟨b,_|⟨c,ts⟩⟩⟩
   ·simp at h3
   ·simp at h3
   ·obtain rfl:=nil_of h4
    exact ⟨⟨⟨⟨⟨⟨⟨by omega,by omega⟩,.inr rfl⟩,.inl (by omega)⟩,.inr rfl⟩,h5⟩,.inl q1⟩,.inr (h6 a (by simp))⟩
   ·simp at h3;omega
  ·rintro ⟨⟨⟨⟨⟨⟨⟨h1,h2⟩,h3⟩,_⟩,h4⟩,h5⟩,_⟩,h8⟩
   rcases ts with _|⟨a,_|⟨b,_|⟨c,ts⟩⟩⟩
   ·simp at h3
   ·simp at h3
   ·obtain rfl:=nil_of (l:=raw) (by omega)
    have hta:tagB a=true:=by have:=h8.resolve_left (fun hh=>hh ht);simpa using this
    have ha:a.size<=255:=by simp[tagB] at hta;omega
    refine ⟨⟨⟨⟨by omega,by omega⟩,by simp⟩,rfl⟩,⟨h5,by simp[hta]⟩,by simp[ha]⟩
   ·simp at h3;omega
 ·obtain ⟨h1,h2,h3,h4,h5,h6,h7,h8,h9,h10⟩:=ht
  have es':shp t=⟨0,0,0,-1,0⟩:=by unfold shp;simp[h1,h2,h3,h4,h5,h6,h7,h8,h9,h10]
  rw[e,es']
  have f1:fitB raw.length (-2)=true:=by simp[fitB]
  simp only[f1,fitB_ge _ ((0:Nat):Int) (by omega),fitB_ge _ (0:Int) (by omega),Bool.and_eq_true,Bool.or_eq_true,decide_eq_true_eq,List.all_eq_true]
  constructor
  ·rintro ⟨⟨⟨⟨i1,i2⟩,i3⟩,i4⟩,_⟩
   obtain rfl:=nil_of i2
   obtain rfl:=nil_of i3
   exact ⟨⟨⟨⟨⟨⟨⟨by omega,rfl⟩,.inr rfl⟩,.inl (by omega)⟩,.inl (by omega)⟩,by simp⟩,.inl h9⟩,.inl h10⟩
  ·rintro ⟨⟨⟨⟨⟨⟨⟨i1,i2⟩,i3⟩,_⟩,i4⟩,_⟩,_⟩,_⟩
   obtain rfl:=List.eq_nil_of_length_eq_zero i2
   obtain rfl:=nil_of (l:=ts) (by omega)
   exact ⟨⟨⟨⟨by omega,rfl⟩,rfl⟩,trivial⟩,⟨by simp,by simp⟩,by simp⟩
theorem tsum_nby(l:List ByteArray):(l.map tz).sum=(nby l).length:=by
 induction l with
 |nil=>simp[nby]
 |cons a l ih=>
  have e:nby (a::l)=(a.size:Int)::(nums a++nby l):=by simp[nby]
  rw[e]
  simp[ih,nums_len,tz]
  omega
theorem psz_eq(t:Nat)(d:Dat)(h:fitsB t d=true):pszI (fs t) d=(sizesF t d:Nat):=by
 obtain ⟨ns,us,ts,raw⟩:=d
 unfold fitsB at h
 unfold pszI sizesF nsum tsum
 simp only[Bool.and_eq_true,Bool.or_eq_true,decide_eq_true_eq] at h ⊢
 obtain ⟨⟨⟨⟨⟨⟨⟨h1,h2⟩,h3⟩,h6⟩,h4⟩,h5⟩,h7⟩,h8⟩:=h
 have key:(shp t).wd=(fs t).wd/\((((fs t).tl=0/\t≠257)/\(t=16∨((shp t).nt=0)))∨((fs t).tl=1/\t=257/\(shp t).nt=2)):=by
  rcases fs_cases t with ⟨ht,e⟩|⟨ht,e⟩|⟨ht,e⟩|⟨ht,e⟩|⟨ht,e⟩|⟨ht,e⟩|⟨ht,e⟩|⟨ht,e⟩|⟨ht,e⟩
  ·subst ht;exact ⟨rfl,.inl ⟨⟨rfl,by omega⟩,.inr rfl⟩⟩
  ·subst ht;exact ⟨rfl,.inl ⟨⟨rfl,by omega⟩,.inr rfl⟩⟩
  ·rcases ht with rfl|rfl|rfl <;> exact ⟨rfl,.inl ⟨⟨rfl,by omega⟩,.inr rfl⟩⟩
  ·subst ht;exact ⟨rfl,.inl ⟨⟨rfl,by omega⟩,.inr rfl⟩⟩
  ·subst ht;exact ⟨rfl,.inl ⟨⟨rfl,by omega⟩,.inr rfl⟩⟩
  ·subst ht;exact ⟨rfl,.inl ⟨⟨rfl,by omega⟩,.inr rfl⟩⟩
  ·subst ht;exact ⟨rfl,.inl ⟨⟨rfl,by omega⟩,.inl rfl⟩⟩
  ·subst ht;exact ⟨rfl,.inr ⟨rfl,rfl,rfl⟩⟩
  ·obtain ⟨i1,i2,i3,i4,i5,i6,i7,i8,i9,i10⟩:=ht
   have es':shp t=⟨0,0,0,-1,0⟩:=by unfold shp;simp[i1,i2,i3,i4,i5,i6,i7,i8,i9,i10]
   rw[e,es']
   exact ⟨rfl,.inl ⟨⟨rfl,i10⟩,.inr rfl⟩⟩
 obtain ⟨kw,kt⟩:=key
 rw[kw,tsum_nby,Nat.mul_comm us.length]
 rcases kt with ⟨⟨k1,k2⟩,k3⟩|⟨k1,k2,k3⟩
 ·rw[k1]
  rcases k3 with k3|k3
  ·have:tsz t ts=(nby ts).length:=by unfold tsz;rw[if_pos k3]
   rw[this];omega
  ·have hz:ts=[]:=nil_of (by omega)
   subst hz
   have:tsz t []=0:=by unfold tsz;split <;> simp[nby]
   rw[this];simp[nby];omega
 ·rw[k1]
  rcases ts with _|⟨a,_|⟨b,_|⟨c,ts⟩⟩⟩
  ·simp at h3;omega
  ·simp at h3;omega
  ·have:tsz t [a,b]=a.size+1+b.size:=by unfold tsz;rw[if_neg (by omega)];simp[nums_len]
   rw[this]
   have:(nby [a,b]).length=a.size+1+(b.size+1):=by simp[nby,nums_len];omega
   rw[this];omega
  ·simp at h3;omega
end Go.Proofs.YtjkljpdolhglcaaGreatDoor
