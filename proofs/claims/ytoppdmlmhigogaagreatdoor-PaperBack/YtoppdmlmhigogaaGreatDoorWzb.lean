/- Texts laid together, in parts: Xa Xd Xe Shelf Lz Ly Lx Pa Nv Bk. -/
import Derived.Test.YtoppdmlmhigogaaGreatDoorWza
import Derived.Lib.ItoaNum
import Derived.Lib.Split
import Derived.Lib.ParseIntB
import Derived.Lib.Join
import Derived.Shelf.Strings.OnBuilder
import Derived.Shelf.Small.Strs
import Derived.Shelf.Small.Wraps
import Derived.Shelf.Strconv.Itoa1
import Derived.Shelf.LaysM
import Derived.Shelf.Strconv.Itoa2
import Derived.Shelf.Strconv.Itoa3
import Derived.Shelf.Strconv.Clone
import Derived.Shelf.LaysC
import Derived.Shelf.Strconv.ToError
import Derived.Shelf.Strconv.Lower
import Derived.Shelf.Strconv.ToErrorRange
import Derived.Shelf.Strconv.ErrVarAll
import Derived.Shelf.Pu.ParseUintPublic10
import Derived.Shelf.Pu.ErrVarParseUint
import Derived.Shelf.Strings.Search3
import Derived.Shelf.Strings.Cut
import Derived.Shelf.Strings.Count
import Derived.Shelf.Strings.Prefix
import Derived.Shelf.Strings.Split
import Derived.Shelf.Strings.Fields
import Derived.Test.YtoppdmlmhigogaaGreatDoorProg
import Derived.Lib.SmallJoins
import Derived.Lib.AppendIntMem
import Derived.Lib.AtoiAllMem
import Derived.BigCall
import Derived.BigGuard
import Derived.Lib.ConvBytes
import Derived.Lib.ParseIntBMem
import Derived.Lib.Hide
import Derived.Laws.Strings3
import Derived.Laws.Closers25
import Derived.Laws.Closers25b
import Derived.BigQuiet
import Derived.Deep.QuietTactic
set_option maxRecDepth 100000
set_option maxHeartbeats 8000000
set_option linter.unusedVariables false
set_option linter.unusedSimpArgs false
open Array renaming replicate → CF, size_replicate → Iy
open Bool renaming and_eq_true → AA, false_eq_true → Bi
open Go renaming World → Ab, Calls → Ag, Value → Ao, heap_alloc_new → Au, TypeId → BH
open Go.IntKind renaming u64 → LL, wrap_u64 → MN
open Go.Lib renaming hid → Ac, decDigits → Bl, parseUintB → Bn, indexByte → Bu, decDigits → Bv, bytesWorld → Eu, nDigits → FK, bytesWorld_below → Hq, TabIs → Io, zeros24 → Ln, atoiAll → MY, pow10Tab → OI
open Go.Program renaming arrayLen → LA, elem → PX
open Go.Proofs.Tryz renaming prog → Aa, underlying39 → AI, underlying9 → AK, underlying3 → AW, underlying5 → Ba, zeroValue3 → Bp, zeroValue9 → Bq, underlying4 → Br, zeroValue4 → BC, zeroValue5 → BN, sizeOf3 → BW, sizeOf9 → BX, sizeOf4 → Ci, isAgg3 → Cq, isAgg9 → Cr, underlying171 → CB, underlying0 → CG, sizeOf5 → CH, isAgg4 → CI, zeroValue171 → CP, zeroValue36 → CU, zeroValue0 → CW, underlying36 → CX, isAgg5 → Db, underlying22 → Dy, sizeOf171 → DK, sizeOf36 → DQ, sizeOf0 → Eb, isAgg171 → Ek, underlying116 → Es, isAgg36 → Et, isAgg0 → EM, zeroValue39 → EO, zeroValue116 → Ft, sizeOf39 → Gf, underlying184 → GB, underlying215 → GC, underlying20 → GX, isAgg39 → GY, zeroValue106 → GZ, sizeOf116 → Ha, zeroValue214 → Hc, underlying106 → Ho, underlying214 → Hp, zeroValue20 → Im, underlying95 → Iw, isAgg116 → Ix, sizeOf106 → JM, sizeOf214 → JN, underlying187 → JO, underlying247 → JP, underlying206 → JQ, zeroValue184 → Ko, zeroValue187 → Kp, zeroValue247 → Kq, zeroValue248 → Kr, func222 → Ks, zeroValue206 → Kt, zeroCells215 → Ku, sizeOf20 → Lk, isAgg106 → Ll, isAgg214 → Lm, underlying248 → Lx, underlying318 → Ly, underlying320 → Lz, zeroValue95 → LJ, underlying2 → LK, isAgg20 → Mg, func147 → Mh, func178 → Mi, func148 → Mj, func177 → Mk, func179 → Ml, func149 → Mn, func150 → Mo, func180 → Mp, func181 → Mq, func202 → Mr, underlying21 → Ms, zeroValue2 → MM, ntmps222 → MO, zeroValue21 → Nj, sizeOf184 → NH, sizeOf187 → NI, sizeOf215 → NJ, sizeOf247 → NK, sizeOf248 → NL, sizeOf206 → NM, func234 → NR, sizeOf95 → OH, isAgg184 → OJ, isAgg187 → OK, isAgg215 → OL, isAgg247 → OM, isAgg248 → ON, isAgg206 → OP, underlying287 → Pv, underlying289 → Px, underlying303 → Py
open Go.RowKit.Below renaming refl → Ae
open Go.Shelf renaming Ren → BK
open Go.Value renaming int → AL
open Go.World renaming cell? → Az, var?_cell → Fu
open Int renaming toNat_natCast → BM
open List renaming length_append → Af, getD_eq_getElem?_getD → Am, length_eq_zero_iff → Aq, mem_cons → Ax, cons_append → Ay, getElem?_eq_getElem → AF, mem_append → AG, replicate → AM, length_cons → AP, nil_append → AQ, append_assoc → AR, length_map → AS, getElem_mem → AU, mem_map → AY, mem_singleton → Bc, mem_of_mem_take → Be, length_drop → Bg, map_cons → Bh, take_append_drop → BE, flatMap_cons → Cn, length_take → CC, mem_of_mem_drop → CT, length_nil → CZ, map_nil → Df, flatMap_append → Dm, mem_cons_of_mem → Dw, mapM_cons → Dz, drop_eq_nil_of_le → DH, map_append → DL, drop_eq_getElem_cons → El, not_mem_nil → Ep, map_congr_left → ED, foldl_cons → EY, map_map → Fq, isPrefixOf → FE, length → FH, foldl_append → FP, replicate_succ → Kl, mem_cons_self → Lw, length_replicate → LI, drop_append → Pu, foldl_nil → PV
open List.cons renaming injEq → PU
open Nat renaming le_refl → Ad, lt_of_lt_of_le → Ap, le_succ_of_le → EJ, zero_add → Fg, strongRecOn → FI
open Option renaming bind_some → BL, map_eq_some_iff → Ju
open UInt8 renaming ofNat → CS
namespace Go.Proofs.YtoppdmlmhigogaaGreatDoor
open Go Go.Lib
def xq1(c:Int):List Int:=if c<32∨126<c then[92,48+c / 100,48+c / 10 % 10,48+c % 10] else if c=34∨c=92 then[92,c] else[c]
def xq(l:List Int):List Int:=l.flatMap xq1
def Fp(l:List Int):List Int:=34::(xq l++[34])
def CN(c:Int):Bool:=decide (48<=c) && decide (c<=57)
def FC(l:List Int):Option (List Int):=
 match l with
 |[]=>some []
 |c::l=>if c=92 then(match l with
   |[]=>none
   |d::r=>if CN d then(match r with
     |e::f::q=>if CN e && CN f && decide (100*(d - 48)+10*(e - 48)+(f - 48)<=255) then(FC q).map (fun o=>(100*(d - 48)+10*(e - 48)+(f - 48))::o) else none
     |_=>none)
    else(FC r).map (fun o=>d::o))
  else(FC l).map (fun o=>c::o)
termination_by l.length
theorem Rz(c:Int)(l:List Int)(h:c≠92):FC (c::l)=(FC l).map (fun o=>c::o):=by
 rw[FC.eq_def];simp[h]
theorem UV(d:Int)(r:List Int)(h:CN d=false):FC (92::d::r)=(FC r).map (fun o=>d::o):=by
 rw[FC.eq_def];simp[h]
theorem Vu(d e f:Int)(q:List Int)(h1:CN d=true)(h2:CN e=true)(h3:CN f=true)(h4:100*(d - 48)+10*(e - 48)+(f - 48)<=255):FC (92::d::e::f::q)=(FC q).map (fun o=>(100*(d - 48)+10*(e - 48)+(f - 48))::o):=by
 rw[FC];simp[h1,h2,h3,h4]
theorem tE(l:List Int)(h:∀c∈l,0<=c/\c<=255):FC (xq l)=some l:=by
 induction l with
 |nil=>show FC []=_;rw[FC]
 |cons c l ih=>
  have hc:=h c (Lw ..);have ih:=ih (fun x hx=>h x (Dw _ hx));have e:xq (c::l)=xq1 c++xq l:=by simp[xq]
  rw[e];unfold xq1;by_cases h1:c<32∨126<c
  ·rw[if_pos h1];simp only[Ay,AQ];have d1:CN (48+c / 100)=true:=by simp[CN];omega
   have d2:CN (48+c / 10 % 10)=true:=by simp[CN];omega
   have d3:CN (48+c % 10)=true:=by simp[CN];omega
   have hv:100*(48+c / 100 - 48)+10*(48+c / 10 % 10 - 48)+(48+c % 10 - 48)=c:=by omega
   rw[Vu _ _ _ _ d1 d2 d3 (by omega),ih,hv];rfl
  ·rw[if_neg h1];by_cases h2:c=34∨c=92
   ·rw[if_pos h2];simp only[Ay,AQ];rw[UV _ _ (by obtain rfl|rfl:=h2 <;> rfl),ih];rfl
   ·rw[if_neg h2];simp only[Ay,AQ];rw[Rz _ _ (by omega),ih];rfl
theorem Wk(l:List Int)(h:∀c∈l,0<=c/\c<=255):∀c∈xq l,32<=c/\c<=126:=by
 intro c hc;simp only[xq,List.mem_flatMap]at hc;obtain⟨b,hb,hc⟩:=hc;have:=h b hb;unfold xq1 at hc;split at hc
 ·simp at hc;omega
 ·split at hc
  ·simp at hc;omega
  ·simp at hc;omega
theorem UB(l:List Int)(h:∀c∈l,0<=c/\c<=255):∀c∈Fp l,32<=c/\c<=126:=by
 intro c hc;simp only[Fp,Ax,AG,Bc,Ep,or_false]at hc;obtain rfl|hc|rfl:=hc
 ·omega
 ·exact Wk l h c hc
 ·omega
def De(c:Int):List Int->List (List Int)
 |[]=>[[]]
 |x::l=>if x=c then[]::De c l else(match De c l with|[]=>[[x]]|p::ps=>(x::p)::ps)
def Dj(c:Int):List (List Int)->List Int
 |[]=>[]
 |[p]=>p
 |p::q::ps=>p++c::Dj c (q::ps)
theorem JA(c:Int)(l:List Int)(h:c ∉ l):De c l=[l]:=by
 induction l with
 |nil=>rfl
 |cons x l ih=>
  simp only[Ax,not_or]at h;simp only[De];rw[if_neg (fun e=>h.1 e.symm),ih h.2]
theorem Rk(c:Int)(p l:List Int)(h:c ∉ p):De c (p++c::l)=p::De c l:=by
 induction p with
 |nil=>simp[De]
 |cons x p ih=>
  simp only[Ax,not_or]at h;simp only[Ay,De];rw[if_neg (fun e=>h.1 e.symm),ih h.2]
theorem PI(c:Int)(ps:List (List Int))(hn:ps≠[])(h:∀p∈ps,c ∉ p):De c (Dj c ps)=ps:=by
 induction ps with
 |nil=>exact absurd rfl hn
 |cons p ps ih=>
  cases ps with
  |nil=>exact JA c p (h p (by simp))
  |cons q ps=>
   show De c (p++c::Dj c (q::ps))=_;rw[Rk c p _ (h p (by simp)),ih (by simp) (fun x hx=>h x (Dw _ hx))]
def DR(n:Nat):List Int:=(Bl n).map fun b=>(b.toNat:Int)
def xhd(v:Nat):Int:=if v<10 then 48+v else 87+v
def Dn(n:Nat):List Int:=if h:n<16 then[xhd n] else Dn (n / 16)++[xhd (n % 16)]
termination_by n
def xhv(c:Int):Option Nat:=if 48<=c/\c<=57 then some (c - 48).toNat else if 97<=c/\c<=102 then some (c - 87).toNat else if 65<=c/\c<=70 then some (c - 55).toNat else none
def ZD:List Int->Option Nat
 |l=>l.foldl (fun a c=>a.bind fun n=>(xhv c).map fun v=>16*n+v) (some 0)
def LZ(l:List Int):Option Nat:=if 1<=l.length/\l.length<=4 then ZD l else none
theorem iV(v:Nat)(h:v<16):xhv (xhd v)=some v:=by
 unfold xhv xhd;by_cases h1:v<10
 ·rw[if_pos h1,if_pos (by omega)];congr 1;omega
 ·rw[if_neg h1,if_neg (by omega),if_pos (by omega)];congr 1;omega
theorem dG(n:Nat):ZD (Dn n)=some n:=by
 induction n using FI with
 |_ n ih=>
  rw[Dn];by_cases h:n<16
  ·rw[dif_pos h];simp[ZD,iV n h]
  ·rw[dif_neg h];have e:=ih (n / 16) (by omega);unfold ZD at e ⊢;rw[FP,e];simp[iV (n % 16) (by omega)];omega
theorem JW(n:Nat)(h:n<65536):1<=(Dn n).length/\(Dn n).length<=4:=by
 rw[Dn];by_cases h1:n<16
 ·rw[dif_pos h1];simp
 ·rw[dif_neg h1,Dn];by_cases h2:n / 16<16
  ·rw[dif_pos h2];simp
  ·rw[dif_neg h2,Dn];by_cases h3:n / 16 / 16<16
   ·rw[dif_pos h3];simp
   ·rw[dif_neg h3,Dn,dif_pos (by omega)];simp
theorem iB(n:Nat)(h:n<65536):LZ (Dn n)=some n:=by
 unfold LZ;rw[if_pos (JW n h),dG]
theorem Ok(n:Nat):∀c∈Dn n,c≠58/\c≠46:=by
 induction n using FI with
 |_ n ih=>
  rw[Dn];have hd:∀v,v<16->xhd v≠58/\xhd v≠46:=by intro v hv;unfold xhd;split <;> omega
  by_cases h:n<16
  ·rw[dif_pos h];intro c hc;simp at hc;subst hc;exact hd n h
  ·rw[dif_neg h];intro c hc;simp only[AG,Bc]at hc;obtain hc|rfl:=hc
   ·exact ih (n / 16) (by omega) c hc
   ·exact hd _ (by omega)
theorem Zp(n:Nat):Dn n≠[]:=by
 rw[Dn];split <;> simp
def xby(n:Nat):List Int:=[((n / 256:Nat):Int),((n % 256:Nat):Int)]
def FD(l:List Int):Option (List Int):=if l=[] then some [] else((De 58 l).mapM LZ).map fun ns=>ns.flatMap xby
def xdc:List Int->Option (List Int × List Int)
 |[]=>none
 |x::l=>if x=58 then(match l with|58::r=>some ([],r)|_=>(xdc l).map fun p=>(x::p.1,p.2)) else(xdc l).map fun p=>(x::p.1,p.2)
def JJ(l:List Int):Option (List Int):=
 match xdc l with
 |some p=>(FD p.1).bind fun a=>(FD p.2).bind fun b=>if a.length+b.length<=14 then some (a++AM (16 - a.length - b.length) 0++b) else none
 |none=>(FD l).bind fun a=>if a.length=16 then some a else none
def Ev(l:List Nat):List Int:=Dj 58 (l.map Dn)
theorem Pr(l:List Nat)(h:∀n∈l,n<65536):FD (Ev l)=some (l.flatMap xby):=by
 cases l with
 |nil=>rfl
 |cons n l=>
  have hne:Ev (n::l)≠[]:=by
   unfold Ev;cases l with
   |nil=>exact Zp n
   |cons m l=>simp[Dj]
  unfold FD;rw[if_neg hne];unfold Ev;rw[PI 58 _ (by simp) (by
   intro p hp;obtain⟨m,_,rfl⟩:=AY.1 hp;intro hc;exact(Ok m 58 hc).1 rfl)]
  have hm:∀l:List Nat,(∀n∈l,n<65536)->(l.map Dn).mapM LZ=some l:=by
   intro l;induction l with
   |nil=>intro _;rfl
   |cons a l ih=>
    intro hl;rw[Bh,Dz,iB a (hl a (by simp)),ih (fun x hx=>hl x (Dw _ hx))]
    rfl
  rw[hm _ h];rfl
def xzr:List Nat->Nat
 |[]=>0
 |n::l=>if n=0 then xzr l+1 else 0
theorem tY(l:List Nat):xzr l<=l.length:=by
 induction l with
 |nil=>simp[xzr]
 |cons n l ih=>simp only[xzr];split <;> simp;omega
theorem gT(l:List Nat):∀m,m<=xzr l->l.take m=AM m 0:=by
 induction l with
 |nil=>intro m h;simp[xzr]at h;subst h;rfl
 |cons n l ih=>
  intro m h;simp only[xzr]at h;cases m with
  |zero=>rfl
  |succ m=>
   split at h
   ·next e=>subst e;rw[List.take_succ_cons,ih m (by omega),Kl]
   ·omega
def On(l:List Nat)(p:Nat × Nat)(i:Nat):Nat × Nat:=if p.2<xzr (l.drop i) then(i,xzr (l.drop i)) else p
def Ei(l:List Nat):Nat × Nat:=if ((List.range l.length).foldl (On l) (0,1)).2<2 then(l.length,0) else(List.range l.length).foldl (On l) (0,1)
theorem gF(l:List Nat):∀(is:List Nat) (p:Nat × Nat),(p.2=1∨p.2<=xzr (l.drop p.1))->((is.foldl (On l) p).2=1∨(is.foldl (On l) p).2<=xzr (l.drop (is.foldl (On l) p).1)):=by
 intro is;induction is with
 |nil=>intro p h;exact h
 |cons i is ih=>
  intro p h;rw[EY];apply ih
  unfold On;split
  ·exact .inr (Ad _)
  ·exact h
theorem eW(l:List Nat):((Ei l).2=0/\(Ei l).1=l.length)∨(2<=(Ei l).2/\(Ei l).2<=xzr (l.drop (Ei l).1)):=by
 have h:=gF l (List.range l.length) (0,1) (.inl rfl);unfold Ei;split
 ·exact .inl ⟨rfl,rfl⟩
 ·next hn=>exact .inr ⟨by omega,by omega⟩
def xa6(l:List Nat):List Int:=if (Ei l).2=0 then Ev l else Ev (l.take (Ei l).1)++58::58::Ev (l.drop ((Ei l).1+(Ei l).2))
theorem OC(p r:List Int)(h:(58:Int) ∉ p):xdc (p++r)=(xdc r).map fun q=>(p++q.1,q.2):=by
 induction p with
 |nil=>simp
 |cons x p ih=>
  simp only[Ax,not_or]at h;rw[Ay,xdc.eq_def];simp only;rw[if_neg (fun e=>h.1 e.symm),ih h.2,Option.map_map]
  rfl
theorem YV(c:Int)(r:List Int)(h:c≠58):xdc (58::c::r)=(xdc (c::r)).map fun q=>(58::q.1,q.2):=by
 rw[xdc.eq_def];simp only;rw[if_pos trivial];split
 ·next r' e=>injection e with e;exact absurd e h
 ·rfl
theorem SY(n:Nat)(l:List Nat):∃c r,Ev (n::l)=c::r/\c≠58:=by
 obtain⟨c,r,e⟩:∃c r,Dn n=c::r:=by
  cases h:Dn n with
  |nil=>exact absurd h (Zp n)
  |cons c r=>exact⟨c,r,rfl⟩
 have hc:=(Ok n c (by rw[e];simp)).1;unfold Ev;cases l with
 |nil=>exact⟨c,r,by simp[Dj,e],hc⟩
 |cons m l=>exact⟨c,r++58::Dj 58 (Dn m::l.map Dn),by simp[Dj,e],hc⟩
theorem Qi(n:Nat):(58:Int) ∉ Dn n:=fun h=>(Ok n 58 h).1 rfl
theorem Pb(n m:Nat)(l:List Nat):Ev (n::m::l)=Dn n++58::Ev (m::l):=by simp[Ev,Dj]
theorem Ul(r:List Int):xdc (58::58::r)=some ([],r):=by rw[xdc];simp
theorem qY(l:List Nat)(r:List Int):xdc (Ev l++58::58::r)=some (Ev l,r):=by
 induction l with
 |nil=>exact Ul r
 |cons n l ih=>
  cases l with
  |nil=>
   show xdc (Dn n++58::58::r)=some (Dn n,r);rw[OC _ _ (Qi n),Ul];simp
  |cons m l=>
   rw[Pb,AR,OC _ _ (Qi n),Ay];obtain⟨c,q,e,hc⟩:=SY m l;rw[e]at ih ⊢;rw[Ay]at ih ⊢;rw[YV _ _ hc,ih];simp
theorem lS(l:List Nat):xdc (Ev l)=none:=by
 induction l with
 |nil=>rfl
 |cons n l ih=>
  cases l with
  |nil=>
   show xdc (Dn n)=none;have:=OC (Dn n) [] (Qi n);rw[List.append_nil]at this;rw[this];rfl
  |cons m l=>
   rw[Pb,OC _ _ (Qi n)];obtain⟨c,q,e,hc⟩:=SY m l;rw[e]at ih ⊢;rw[YV _ _ hc,ih];rfl
theorem JB(l:List Nat):(l.flatMap xby).length=2*l.length:=by
 induction l with
 |nil=>rfl
 |cons n l ih=>rw[Cn,Af,ih];simp[xby];omega
theorem gP(m:Nat):(AM m 0).flatMap xby=AM (2*m) (0:Int):=by
 induction m with
 |zero=>rfl
 |succ m ih=>rw[Kl,Cn,ih,show 2*(m+1)=2*m+1+1 by omega,Kl,Kl];rfl
theorem dC(l:List Nat)(h8:l.length=8)(h:∀n∈l,n<65536):JJ (xa6 l)=some (l.flatMap xby):=by
 unfold xa6 JJ;obtain⟨h1,h2⟩|⟨h1,h2⟩:=eW l
 ·rw[if_pos h1,lS];simp only;rw[Pr l h,BL,if_pos (by rw[JB,h8])]
 ·rw[if_neg (by omega),qY];simp only;generalize (Ei l).1=a at*;generalize (Ei l).2=m at*;rw[Pr _ (fun n hn=>h n (Be hn)),BL,Pr _ (fun n hn=>h n (CT hn)),BL];have hl:=tY (l.drop a);rw[Bg]at hl;have ht:=gT _ m h2;rw[if_pos (by rw[JB,JB,CC,Bg];omega)];congr 1
  have e1:l=l.take a++(AM m 0++l.drop (a+m)):=by
   rw[<- ht,<- List.drop_drop,BE,BE]
  have e2:16 - ((l.take a).flatMap xby).length - ((l.drop (a+m)).flatMap xby).length=2*m:=by
   rw[JB,JB,CC,Bg];omega
  rw[e2,<- gP];conv=>rhs;rw[e1]
  rw[Dm,Dm,AR]
def xdv(l:List Int):Nat:=l.foldl (fun a b=>10*a+(b - 48).toNat) 0
theorem DC{n:Nat}(h:n<10):DR n=[48+(n:Int)]:=by
 unfold DR;rw[Bl,dif_pos h];simp[UInt8.toNat_ofNat'];omega
theorem Gm{n:Nat}(h:¬ n<10):DR n=DR (n / 10)++[48+((n % 10:Nat):Int)]:=by
 unfold DR;rw[Bl,dif_neg h,DL];congr 1
 simp[UInt8.toNat_ofNat'];omega
theorem Yr(n:Nat):xdv (DR n)=n:=by
 induction n using FI with
 |_ n ih=>
  by_cases h:n<10
  ·rw[DC h];simp[xdv];omega
  ·rw[Gm h];have e:=ih (n / 10) (by omega);unfold xdv at e ⊢;rw[FP,e];simp only[EY,PV];omega
theorem Fk(n:Nat):∀c∈DR n,48<=c/\c<=57:=by
 induction n using FI with
 |_ n ih=>
  by_cases h:n<10
  ·rw[DC h];intro c hc;simp at hc;subst hc;omega
  ·rw[Gm h];intro c hc;simp only[AG,Bc]at hc;obtain hc|rfl:=hc
   ·exact ih (n / 10) (by omega) c hc
   ·omega
def FN(l:List Int)(below:Nat):Option Nat:=if l=DR (xdv l)/\xdv l<below then some (xdv l) else none
theorem LU(n below:Nat)(h:n<below):FN (DR n) below=some n:=by
 unfold FN;rw[Yr,if_pos ⟨rfl,h⟩]
theorem Fy{l:List Int}{below n:Nat}(h:FN l below=some n):l=DR n/\n<below:=by
 unfold FN at h;split at h
 ·next q=>injection h with h;subst h;exact q
 ·cases h
def It(l:List Int):Option (List Int):=((De 46 l).mapM fun p=>FN p 256).bind fun a=>if a.length=4 then some (a.map Int.ofNat) else none
def Ez(l:List Int):Option (List Int):=match It l with|some b=>some b|none=>JJ l
def Hr:List Int->List Nat
 |a::b::l=>(256*a.toNat+b.toNat)::Hr l
 |_=>[]
def Fl(b:List Int):Option (List Int):=if b.length=4 then some (Dj 46 (b.map fun c=>DR c.toNat)) else if b.length=16 then some (xa6 (Hr b)) else none
theorem Uy(l:List Nat):(46:Int) ∉ Ev l:=by
 induction l with
 |nil=>simp[Ev,Dj]
 |cons n l ih=>
  cases l with
  |nil=>exact fun h=>(Ok n 46 h).2 rfl
  |cons m l=>
   rw[Pb];intro h;simp only[AG,Ax]at h;obtain h|h|h:=h
   ·exact(Ok n 46 h).2 rfl
   ·exact absurd h (by decide)
   ·exact ih h
theorem uH(l:List Nat):(46:Int) ∉ xa6 l:=by
 unfold xa6;split
 ·exact Uy _
 ·intro h;simp only[AG,Ax]at h;obtain h|h|h|h:=h
  ·exact Uy _ h
  ·exact absurd h (by decide)
  ·exact absurd h (by decide)
  ·exact Uy _ h
theorem Qg(l:List Int):∀k,l.length=2*k->(∀c∈l,0<=c/\c<=255)->(Hr l).length=k/\(Hr l).flatMap xby=l/\∀n∈Hr l,n<65536:=by
 intro k;induction k generalizing l with
 |zero=>intro h _;have:l=[]:=Aq.1 (by omega);subst this;simp[Hr]
 |succ k ih=>
  intro h hb;match l,h with
  |a::b::l,h=>
   simp only[AP]at h;obtain⟨i1,i2,i3⟩:=ih l (by omega) (fun c hc=>hb c (by simp[hc]));have ha:=hb a (by simp);have hbb:=hb b (by simp);refine⟨by simp[Hr,i1],?_,?_⟩
   ·simp only[Hr,Cn,i2];have e:xby (256*a.toNat+b.toNat)=[a,b]:=by
     unfold xby;have e1:(((256*a.toNat+b.toNat) / 256:Nat):Int)=a:=by omega
     have e2:(((256*a.toNat+b.toNat) % 256:Nat):Int)=b:=by omega
     rw[e1,e2]
    rw[e];rfl
   ·intro n hn;simp only[Hr,Ax]at hn;obtain rfl|hn:=hn
    ·omega
    ·exact i3 n hn
  |[a],h=>simp at h;omega
  |[],h=>simp at h
theorem QW(b s:List Int)(hb:∀c∈b,0<=c/\c<=255)(h:Fl b=some s):Ez s=some b:=by
 unfold Fl at h;split at h
 ·next h4=>
  injection h with h
  subst h;have hs:De 46 (Dj 46 (b.map fun c=>DR c.toNat))=b.map fun c=>DR c.toNat:=PI 46 _ (by intro e;rw[List.map_eq_nil_iff]at e;subst e;simp at h4) (by
   intro p hp;obtain⟨m,_,rfl⟩:=AY.1 hp;intro hc;have:=Fk _ _ hc;omega)
  have hm:∀b:List Int,(∀c∈b,0<=c/\c<=255)->((b.map fun c=>DR c.toNat).mapM fun p=>FN p 256)=some (b.map Int.toNat):=by
   intro b;induction b with
   |nil=>intro _;rfl
   |cons a b ih=>
    intro hb;have ha:=hb a (by simp);rw[Bh,Dz,LU _ _ (by omega),ih (fun x hx=>hb x (Dw _ hx))]
    rfl
  unfold Ez It;rw[hs,hm b hb,BL,if_pos (by rw[AS,h4]),Fq];simp only;congr 1
  conv=>rhs;rw[<- List.map_id b]
  apply ED
  intro c hc;have:=hb c hc;exact Int.toNat_of_nonneg this.1
 ·split at h
  ·next h16=>
   injection h with h
   subst h;obtain⟨i1,i2,i3⟩:=Qg b 8 (by omega) hb;have hf:It (xa6 (Hr b))=none:=by
    unfold It;rw[JA 46 _ (uH _)];cases hq:FN (xa6 (Hr b)) 256 with
    |none=>simp[Dz,hq]
    |some n=>simp[Dz,hq]
   unfold Ez;rw[hf];simp only;rw[dC _ i1 i3,i2]
  ·cases h
def bi(l:List UInt8):List Int:=l.map fun b=>(b.toNat:Int)
theorem u8i{a b:UInt8}(h:(a.toNat:Int)=(b.toNat:Int)):a=b:=UInt8.toNat_inj.1 (by omega)
theorem sR{l m:List UInt8}(h:bi l=bi m):l=m:=by
 induction l generalizing m with
 |nil=>cases m with
  |nil=>rfl
  |cons b m=>simp[bi]at h
 |cons a l ih=>cases m with
  |nil=>simp[bi]at h
  |cons b m=>
   simp only[bi,Bh]at h;injection h with h1 h2
   rw[u8i h1,ih h2]
theorem OW(l:List UInt8):(bi l).length=l.length:=by simp[bi]
theorem tJ(l m:List UInt8):bi (l++m)=bi l++bi m:=by simp[bi]
theorem Hl(b:UInt8)(l:List UInt8):bi (b::l)=(b.toNat:Int)::bi l:=rfl
theorem Uk(c:UInt8)(l:List UInt8):(c.toNat:Int)∈bi l↔c∈l:=by
 unfold bi;rw[AY];constructor
 ·rintro⟨b,hb,e⟩;rw[<- u8i e];exact hb
 ·intro h;exact⟨c,h,rfl⟩
theorem VC(c:UInt8)(l:List UInt8)(h:c ∉ l):index l [c] = -1:=by
 induction l with
 |nil=>rfl
 |cons b l ih=>
  simp only[Ax,not_or]at h;unfold index;rw[ih h.2,if_neg (by simp[FE];exact h.1)]
  rfl
theorem Vb(c:UInt8)(p r:List UInt8)(h:c ∉ p):index (p++c::r) [c]=p.length:=by
 induction p with
 |nil=>simp[index,FE]
 |cons b p ih=>
  simp only[Ax,not_or]at h;rw[Ay,index.eq_def];simp only;rw[ih h.2,if_neg (by simp[FE];exact h.1)];have e:((p.length:Int) == -1)=false:=by rw[beq_eq_false_iff_ne];omega
  simp[e]
theorem oY(c:UInt8):∀(n:Nat) (l:List UInt8),l.length<=n->(splitK [c] 0 (count l [c]) l).map bi=De c.toNat (bi l):=by
 intro n;induction n with
 |zero=>
  intro l hl;have:l=[]:=Aq.1 (by omega);subst this
  rfl
 |succ n ih=>
  intro l hl;by_cases hc:c∈l
  ·obtain⟨p,r,rfl,hp⟩:=List.eq_append_cons_of_mem hc;have hi:=Vb c p r hp;rw[count_hit (by simp) hi];have e0:(p++c::r).drop (p.length+[c].length)=r:=by
    rw[Pu];simp
   rw[e0,Nat.add_comm 1,splitK,hi];have em:((p.length:Int) == -1)=false:=by rw[beq_eq_false_iff_ne];omega
   rw[em];simp only[Bi,if_false,BM,Nat.add_zero];rw[e0,Bh,ih r (by simp only[Af,AP]at hl;omega),tJ,Hl,
    Rk _ _ _ (fun h=>hp ((Uk c p).1 h))]
   congr 1
   simp[List.take_append]
  ·have hi:=VC c l hc;rw[count_miss hi,splitK,JA _ _ (fun h=>hc ((Uk c l).1 h))]
   rfl
theorem oN(c:UInt8)(s:ByteArray):(splitB ⟨#[c]⟩ 0 (countB s ⟨#[c]⟩) s).map (fun t=>bi t.data.toList)=De c.toNat (bi s.data.toList):=by
 have h:=splitB_data ⟨#[c]⟩ 0 (countB s ⟨#[c]⟩) s;have h2:=oY c s.data.toList.length s.data.toList (Ad _);rw[show(fun t:ByteArray=>bi t.data.toList)=bi ∘ (fun t:ByteArray=>t.data.toList) from rfl,<- Fq,h];exact h2
theorem XH(sep:List UInt8)(sv:Nat):∀(k:Nat) (l:List UInt8),k<=count l sep->sep≠[]->(splitK sep sv k l).length=k+1:=by
 intro k;induction k with
 |zero=>intro l _ _;rfl
 |succ k ih=>
  intro l hk hs;obtain⟨h1,_⟩|⟨i,h1,_,_,_⟩:=index_spec l sep
  ·rw[count_miss h1]at hk;omega
  ·rw[count_hit hs h1]at hk;rw[splitK,h1];have em:((i:Int) == -1)=false:=by rw[beq_eq_false_iff_ne];omega
   rw[em];simp only[Bi,if_false,BM,AP];rw[ih _ (by omega) hs]
theorem Xl(c:UInt8)(s:ByteArray):(splitB ⟨#[c]⟩ 0 (countB s ⟨#[c]⟩) s).length=countB s ⟨#[c]⟩+1:=by
 have h:=congrArg FH (splitB_data ⟨#[c]⟩ 0 (countB s ⟨#[c]⟩) s);rw[AS]at h;rw[h];exact XH [c] 0 _ _ (Ad _) (by simp)
theorem RN(l:List UInt8):(xdc (bi l)=none->index l [58,58] = -1)/\(∀p r,xdc (bi l)=some (p,r)->∃a b,l=a++58::58::b/\bi a=p/\bi b=r/\index l [58,58]=a.length):=by
 induction l with
 |nil=>exact⟨fun _=>rfl,fun p r h=>by simp[bi,xdc]at h⟩
 |cons x l ih=>
  obtain⟨i1,i2⟩:=ih;have hstep:¬ (∃m,l=58::m/\x=58)->xdc (bi (x::l))=(xdc (bi l)).map (fun p=>((x.toNat:Int)::p.1,p.2))/\([58,58]:List UInt8).isPrefixOf (x::l)=false:=by
   intro hn;rw[Hl,xdc.eq_def];simp only;by_cases hx:x=58
   ·subst hx;cases l with
    |nil=>exact⟨by simp[bi,xdc],by simp[FE]⟩
    |cons y l=>
     have hy:y≠58:=fun e=>hn ⟨l,by rw[e],rfl⟩
     have hy':(y.toNat:Int)≠58:=fun e=>hy (u8i e)
     refine⟨?_,by simp[FE];exact fun e=>hy e.symm⟩;rw[if_pos (by rfl),Hl];split
     ·next r' e=>injection e with e1 e2;exact absurd e1 hy'
     ·rfl
   ·have hx':(x.toNat:Int)≠58:=fun e=>hx (u8i e)
    rw[if_neg hx'];exact⟨rfl,by simp[FE];exact fun e=>absurd e.symm hx⟩
  by_cases hh:∃m,l=58::m/\x=58
  ·obtain⟨m,rfl,rfl⟩:=hh;have e:xdc (bi (58::58::m))=some ([],bi m):=Ul (bi m);have ei:index (58::58::m) [58,58]=0:=by unfold index;rw[if_pos (by simp[FE])]
   refine⟨fun h=>by (rw[e]at h;cases h),fun p r h=>?_⟩;rw[e]at h;injection h with h
   injection h with h1 h2
   exact⟨[],m,rfl,h1,h2,ei⟩
  ·obtain⟨h1,h2⟩:=hstep hh;constructor
   ·intro h;rw[h1,Option.map_eq_none_iff]at h;unfold index;rw[h2,i1 h];rfl
   ·intro p r h;rw[h1,Ju]at h;obtain⟨⟨q,t⟩,hq,he⟩:=h;injection he with he1 he2
    subst he1;subst he2;obtain⟨a,b,rfl,ha,hb,hi⟩:=i2 q t hq;refine⟨x::a,b,rfl,by rw[Hl,ha],hb,?_⟩;rw[index.eq_def];simp only;rw[h2,hi];have em:((a.length:Int) == -1)=false:=by rw[beq_eq_false_iff_ne];omega
    simp[em]
theorem fH(l:List UInt8)(h:xdc (bi l)=none):Lib.cut l [58,58]=(l,[],false):=by
 unfold Lib.cut;rw[(RN l).1 h,if_neg (by decide)]
theorem eY(l:List UInt8)(p r:List Int)(h:xdc (bi l)=some (p,r)):∃a b,Lib.cut l [58,58]=(a,b,true)/\bi a=p/\bi b=r:=by
 obtain⟨a,b,rfl,ha,hb,hi⟩:=(RN l).2 p r h;refine⟨a,b,?_,ha,hb⟩;unfold Lib.cut;rw[hi,if_pos (by omega)];simp[Pu]
theorem rU(c:UInt8)(l:List UInt8):decide (0<=indexByte l c)=true↔c∈l:=by
 rw[<- index_one,decide_eq_true_iff];by_cases h:c∈l
 ·obtain⟨p,r,rfl,hp⟩:=List.eq_append_cons_of_mem h;rw[Vb c p r hp];simp only[h,iff_true];omega
 ·rw[VC c l h];simp only[h,iff_false];decide
theorem vS(c:UInt8)(xs:List (List UInt8)):bi (Lib.join xs [c])=Dj c.toNat (xs.map bi):=by
 cases xs with
 |nil=>rfl
 |cons x xs=>
  induction xs generalizing x with
  |nil=>rw[join_one];rfl
  |cons y r ih=>
   rw[join_cons];have h:=ih y;rw[join_cons]at h;simp only[Bh,Dj];rw[Bh]at h;rw[<- h];simp[joinTail,bi]
theorem tW(n:Nat):bi (Bl n)=DR n:=rfl
theorem iH(l:List Int)(b:Int):xdv (l++[b])=10*xdv l+(b - 48).toNat:=by simp[xdv,FP]
theorem YQ(n:Nat):DR n≠[]:=by
 by_cases h:n<10
 ·rw[DC h];simp
 ·rw[Gm h];simp
theorem nL(l:List Int)(h0:l≠[])(hd:∀b∈l,48<=b/\b<=57)(hz:1<l.length->∀b r,l=b::r->b≠48):l=DR (xdv l)/\(1<l.length->10<=xdv l):=by
 have key:∀(n:Nat) (l:List Int),l.length=n->l≠[]->(∀b∈l,48<=b/\b<=57)->(1<l.length->∀b r,l=b::r->b≠48)->(l=DR (xdv l)/\(1<l.length->10<=xdv l)):=by
  intro n;induction n with
  |zero=>intro l hl h0;exact absurd (Aq.1 hl) h0
  |succ n ih=>
   intro l hl h0 hd hz;obtain⟨q,b,rfl⟩:∃q b,l=q++[b]:=⟨l.dropLast,l.getLast h0,(List.dropLast_concat_getLast h0).symm⟩;have hb:=hd b (by simp);have hq:∀c∈q,48<=c/\c<=57:=fun c hc=>hd c (by simp[hc])
   rw[iH];by_cases hq0:q=[]
   ·subst hq0;have e:10*xdv []+(b - 48).toNat=(b - 48).toNat:=by simp[xdv]
    rw[e,DC (by omega)];refine⟨?_,fun h=>by simp at h⟩;simp only[AQ,PU,and_true];omega
   ·have hql:q.length=n:=by simp at hl;omega
    have hp:0<q.length:=List.length_pos_iff.2 hq0;obtain⟨i1,i2⟩:=ih q hql hq0 hq (fun h b' r e=>hz (by simp;omega) b' (r++[b]) (by rw[e];rfl));have h1:1<=xdv q:=by
     by_cases h:1<q.length
     ·have:=i2 h;omega
     ·match q,hq0,h,hp with
      |[c],_,_,_=>
       have:=hz (by simp) c [b] rfl;have hc:=hq c (by simp);simp[xdv];omega
      |_::_::_,_,h,_=>simp at h
    refine⟨?_,fun _=>by omega⟩;rw[Gm (by omega)];have e1:(10*xdv q+(b - 48).toNat) / 10=xdv q:=by omega
    have e2:(10*xdv q+(b - 48).toNat) % 10=(b - 48).toNat:=by omega
    rw[e1,e2,<- i1];congr 1
    simp only[PU,and_true];omega
 exact key l.length l rfl h0 hd hz
theorem cG(n:Nat):∀b r,DR n=b::r->b=48->n=0:=by
 induction n using FI with
 |_ n ih=>
  intro b r e hb;by_cases h:n<10
  ·rw[DC h]at e;injection e with e _
   omega
  ·rw[Gm h]at e;cases hq:DR (n / 10) with
   |nil=>exact absurd hq (YQ _)
   |cons c q=>
    rw[hq,Ay]at e;injection e with e1 _
    have:=ih (n / 10) (by omega) c q hq (by omega);omega
theorem sA(M:Nat)(hM:M<1844674407370955162):∀(l:List UInt8) (acc u:Nat),acc<=M->(parseUintM M acc l=.ok u↔((∀b∈bi l,48<=b/\b<=57)/\(bi l).foldl (fun a b=>10*a+(b - 48).toNat) acc=u/\u<=M)):=by
 intro l;induction l with
 |nil=>
  intro acc u ha;simp only[parseUintM,bi,Df,PV];constructor
  ·intro h;injection h with h;subst h;exact⟨fun _ h=>(by cases h),rfl,ha⟩
  ·rintro⟨_,h,_⟩;rw[h]
 |cons c r ih=>
  intro acc u ha;rw[Hl,EY];have mono:∀(l:List Int) (a b:Nat),a<=b->a<=l.foldl (fun a b=>10*a+(b - 48).toNat) b:=by
   intro l;induction l with
   |nil=>intro a b h;exact h
   |cons x l ih=>intro a b h;rw[EY];exact ih a _ (by omega)
  simp only[parseUintM];by_cases hc:48<=c.toNat/\c.toNat<=57
  ·rw[if_pos hc,if_neg (by omega)];have e:acc*10+(c.toNat - 48)=10*acc+((c.toNat:Int) - 48).toNat:=by omega
   by_cases hm:M<acc*10+(c.toNat - 48)
   ·rw[if_pos hm];constructor
    ·intro h;cases h
    ·rintro⟨_,h1,h2⟩;have:=mono (bi r) _ _ (Ad (10*acc+((c.toNat:Int) - 48).toNat));omega
   ·rw[if_neg hm,ih _ u (by omega),e];constructor
    ·rintro⟨h1,h2,h3⟩;refine⟨?_,h2,h3⟩;intro b hb;obtain rfl|hb:=Ax.1 hb
     ·omega
     ·exact h1 b hb
    ·rintro⟨h1,h2,h3⟩;exact⟨fun b hb=>h1 b (Dw _ hb),h2,h3⟩
  ·rw[if_neg hc];constructor
   ·intro h;cases h
   ·rintro⟨h1,_⟩;have:=h1 (c.toNat:Int) (Lw ..);omega
theorem Tu(l:List Int)(below:Nat)(h1:1<l.length)(h2:l.head?=some 48):FN l below=none:=by
 unfold FN;rw[if_neg];rintro⟨h,_⟩;cases l with
 |nil=>simp at h1
 |cons b r=>
  simp at h2;have:=cG (xdv (b::r)) b r h.symm h2;rw[this]at h;rw[h,show(0:Nat)=0 from rfl,DC (by omega)]at h1;simp at h1
theorem Qt(B:Nat)(hB:2 ^ B - 1<1844674407370955162)(l:List UInt8)(u:Nat)(hz:¬ (1<l.length/\(bi l).head?=some 48)):parseUintB B l=.ok u↔FN (bi l) (2 ^ B)=some u:=by
 have hp:0<2 ^ B:=Nat.two_pow_pos B;unfold parseUintB;by_cases h0:l=[]
 ·subst h0;rw[if_pos rfl];constructor
  ·intro h;cases h
  ·intro h;have:=(Fy h).1;exact absurd this.symm (YQ _)
 ·rw[if_neg h0,sA _ hB l 0 u (by omega)];have hb0:bi l≠[]:=fun e=>h0 (by cases l with|nil=>rfl|cons=>simp[bi]at e)
  constructor
  ·rintro⟨h1,h2,h3⟩;have h2':xdv (bi l)=u:=h2;obtain⟨e1,_⟩:=nL (bi l) hb0 h1 (fun hl b r e hb=>hz ⟨by rw[OW]at hl;exact hl,by rw[e,hb];rfl⟩);unfold FN;rw[<- h2',if_pos ⟨e1,by omega⟩]
  ·intro h;obtain⟨e1,e2⟩:=Fy h;refine⟨?_,?_,by omega⟩
   ·rw[e1];exact Fk u
   ·rw[e1];exact Yr u
theorem VU(a b c:UInt8)(u:Nat):parseUintB 8 [a,b,c]=.ok u↔(CN a.toNat=true/\CN b.toNat=true/\CN c.toNat=true/\(100*((a.toNat:Int) - 48)+10*(b.toNat - 48)+(c.toNat - 48):Int)=u/\u<=255):=by
 unfold parseUintB;rw[if_neg (by simp),sA _ (by decide) _ _ _ (by omega)];simp only[bi,Bh,Df,EY,PV,Ax,Ep,or_false,forall_eq_or_imp,forall_eq,CN,AA,decide_eq_true_eq];constructor
 ·rintro⟨⟨h1,h2,h3⟩,h4,h5⟩;refine⟨h1,h2,h3,by omega,by omega⟩
 ·rintro⟨h1,h2,h3,h4,h5⟩;refine⟨⟨h1,h2,h3⟩,by omega,by omega⟩
def PL(l:List Nat)(s:Nat × Nat × Nat)(r:Nat):Nat × Nat × Nat:=
 if max 1 (s.2.1 - s.1)<r+1 - (if l.getD r 0≠0 then r+1 else s.2.2) then((if l.getD r 0≠0 then r+1 else s.2.2),r+1,(if l.getD r 0≠0 then r+1 else s.2.2)) else(s.1,s.2.1,(if l.getD r 0≠0 then r+1 else s.2.2))
def DT(l:List Nat)(k:Nat):Nat × Nat × Nat:=(List.range k).foldl (PL l) (0,0,0)
theorem RF(l:List Nat)(k:Nat):DT l (k+1)=PL l (DT l k) k:=by
 unfold DT;rw[List.range_succ,FP];rfl
theorem WC(l:List Nat):∀k,(DT l k).1<=(DT l k).2.1/\(DT l k).2.1<=k/\(DT l k).2.2<=k:=by
 intro k;induction k with
 |zero=>exact⟨Ad _,Ad _,Ad _⟩
 |succ k ih=>
  rw[RF];unfold PL;generalize DT l k=s at*;have hm:(if l.getD k 0≠0 then k+1 else s.2.2)<=k+1:=by split <;> omega
  generalize (if l.getD k 0≠0 then k+1 else s.2.2)=m at*;split
  ·exact⟨hm,Ad _,hm⟩
  ·exact⟨ih.1,EJ ih.2.1,hm⟩
def nz(n:Nat):Nat:=if n=0 then 0 else 1
theorem Zt(n:Nat):nz n=0↔n=0:=by unfold nz;split <;> simp[*]
theorem sU(l:List Nat):xzr (l.map nz)=xzr l:=by
 induction l with
 |nil=>rfl
 |cons n l ih=>simp only[Bh,xzr,ih,Zt]
theorem jH(l:List Nat):On (l.map nz)=On l:=by
 funext p i
 unfold On;rw[<- List.map_drop,sU]
theorem kI(l:List Nat):Ei (l.map nz)=Ei l:=by unfold Ei;rw[jH,AS]
theorem eE(l:List Nat):PL (l.map nz)=PL l:=by
 funext s r
 have e:((l.map nz).getD r 0≠0)=(l.getD r 0≠0):=by
  rw[Am,Am,List.getElem?_map];cases h:l[r]? with
  |none=>rfl
  |some n=>simp only[Option.map_some,Option.getD_some,ne_eq,Zt]
 unfold PL;simp only[e]
theorem lD(l:List Nat)(k:Nat):DT (l.map nz) k=DT l k:=by unfold DT;rw[eE]
def SZ(l:List Nat):Bool:=if (Ei l).2=0 then decide ((DT l 8).1=(DT l 8).2.1) else decide ((DT l 8).1=(Ei l).1/\(DT l 8).2.1=(Ei l).1+(Ei l).2/\(DT l 8).1≠(DT l 8).2.1)
def b2(b:Bool):Nat:=if b then 1 else 0
theorem cY:∀a b c d e f g h:Bool,SZ [b2 a,b2 b,b2 c,b2 d,b2 e,b2 f,b2 g,b2 h]=true:=by decide +kernel
theorem aC(l:List Nat)(h8:l.length=8):SZ l=true:=by
 have e:SZ l=SZ (l.map nz):=by unfold SZ;rw[kI,lD]
 rw[e];match l,h8 with
 |[a,b,c,d,e,f,g,h],_=>
  have hb:∀n,nz n=b2 (decide (n≠0)):=by intro n;unfold nz b2;by_cases h:n=0 <;> simp[h]
  simp only[Bh,Df,hb];exact cY _ _ _ _ _ _ _ _
theorem lZ(l:List Nat)(h8:l.length=8):((DT l 8).1=(DT l 8).2.1->xa6 l=Ev l)/\((DT l 8).1≠(DT l 8).2.1->xa6 l=Ev (l.take (DT l 8).1)++58::58::Ev (l.drop (DT l 8).2.1)):=by
 have h:=aC l h8;unfold SZ at h;unfold xa6;by_cases h0:(Ei l).2=0
 ·rw[if_pos h0]at h ⊢;rw[decide_eq_true_eq]at h;exact⟨fun _=>rfl,fun hn=>absurd h hn⟩
 ·rw[if_neg h0]at h ⊢;rw[decide_eq_true_eq]at h;obtain⟨h1,h2,h3⟩:=h;exact⟨fun e=>absurd e h3,fun _=>by rw[h2,h1]⟩
def puX(acc:Nat):List UInt8->NumEnd Nat
 |[]=>.ok acc
 |c::r=>match xhv c.toNat with
  |none=>.syntax
  |some d=>if 65535<acc*16+d then .range else puX (acc*16+d) r
def puH(l:List UInt8):NumEnd Nat:=if l=[] then .syntax else puX 0 l
theorem tR{c:Int}{d:Nat}(h:xhv c=some d):d<16:=by
 unfold xhv at h;split at h
 ·injection h;omega
 ·split at h
  ·injection h;omega
  ·split at h
   ·injection h;omega
   ·cases h
theorem Xd(l:List Int):l.foldl (fun a c=>a.bind fun n=>(xhv c).map fun v=>16*n+v) (none:Option Nat)=none:=by
 induction l with
 |nil=>rfl
 |cons c l ih=>rw[EY];exact ih
theorem tB:∀(l:List UInt8) (acc u:Nat),puX acc l=.ok u->(bi l).foldl (fun a c=>a.bind fun n=>(xhv c).map fun v=>16*n+v) (some acc)=some u:=by
 intro l;induction l with
 |nil=>intro acc u h;simp only[puX]at h;injection h with h;subst h;rfl
 |cons c r ih=>
  intro acc u h;simp only[puX]at h;rw[Hl,EY];cases hc:xhv c.toNat with
  |none=>rw[hc]at h;cases h
  |some d=>
   rw[hc]at h;simp only at h;split at h
   ·cases h
   ·have e:((some acc).bind fun n=>(some d).map fun v=>16*n+v)=some (acc*16+d):=by
     show some (16*acc+d)=_;rw[Nat.mul_comm]
    rw[e];exact ih _ _ h
theorem kZ:∀(l:List UInt8) (acc u k:Nat),l.length<=k->acc<16 ^ (4 - k)->k<=4->(bi l).foldl (fun a c=>a.bind fun n=>(xhv c).map fun v=>16*n+v) (some acc)=some u->puX acc l=.ok u:=by
 intro l;induction l with
 |nil=>intro acc u k _ _ _ h;simp only[bi,Df,PV]at h;injection h with h;subst h;rfl
 |cons c r ih=>
  intro acc u k hk ha h4 h;rw[Hl,EY]at h;cases hc:xhv c.toNat with
  |none=>
   rw[hc]at h;have:((some acc).bind fun n=>(none:Option Nat).map fun v=>16*n+v)=none:=rfl;rw[this,Xd]at h;cases h
  |some d=>
   rw[hc]at h;have hd:=tR hc;have e:((some acc).bind fun n=>(some d).map fun v=>16*n+v)=some (acc*16+d):=by
    show some (16*acc+d)=_;rw[Nat.mul_comm]
   rw[e]at h;simp only[AP]at hk;have h16:acc*16+d<16 ^ (4 - (k - 1)):=by
    rw[show 4 - (k - 1)=(4 - k)+1 by omega,Nat.pow_succ];omega
   have hle:(16:Nat) ^ (4 - (k - 1))<=16 ^ 4:=Nat.pow_le_pow_right (by omega) (by omega);simp only[puX,hc];rw[if_neg (by omega)];exact ih _ u (k - 1) (by omega) h16 (by omega) h
theorem Up(l:List UInt8)(u:Nat):(puH l=.ok u/\l.length<=4)↔LZ (bi l)=some u:=by
 unfold puH LZ;rw[OW];by_cases h0:l=[]
 ·subst h0;rw[if_pos rfl,if_neg (by simp)];constructor
  ·rintro⟨h,_⟩;cases h
  ·intro h;cases h
 ·have hp:1<=l.length:=List.length_pos_iff.2 h0;rw[if_neg h0];by_cases h4:l.length<=4
  ·rw[if_pos ⟨hp,h4⟩];constructor
   ·rintro⟨h,_⟩;exact tB l 0 u h
   ·intro h;exact⟨kZ l 0 u l.length (Ad _) (Nat.pow_pos (by omega)) h4 h,h4⟩
  ·rw[if_neg (by omega)];constructor
   ·rintro⟨_,h⟩;exact absurd h h4
   ·intro h;cases h
theorem sO:∀(l:List UInt8) (acc u:Nat),acc<=65535->puX acc l=.ok u->u<=65535:=by
 intro l;induction l with
 |nil=>intro acc u ha h;simp only[puX]at h;injection h with h;omega
 |cons c r ih=>
  intro acc u ha h;simp only[puX]at h;cases hc:xhv c.toNat with
  |none=>rw[hc]at h;cases h
  |some d=>
   rw[hc]at h;simp only at h;split at h
   ·cases h
   ·exact ih _ _ (by omega) h
end Go.Proofs.YtoppdmlmhigogaaGreatDoor
namespace Go.Proofs
open Go.Shelf
def Tryz.lays156_ren:BK:=⟨fun|156=>113|165=>153|166=>57|169=>31|240=>93|241=>188|276=>136|277=>206|n=>n,fun|31=>22|9=>9|3=>3|4=>4|0=>0|20=>20|72=>65|76=>96|70=>63|37=>39|75=>95|127=>106|164=>175|5=>5|80=>67|n=>n,fun|n=>n⟩
theorem Tryz.lays156:Go.Proofs.Lays.n156 Aa Tryz.lays156_ren:={
 mixed:=by kernel_rfl
 f156:=Tryz.func113.trans (congrArg some (by kernel_rfl))
 f165:=Tryz.func153.trans (congrArg some (by kernel_rfl))
 f166:=Tryz.func57.trans (congrArg some (by kernel_rfl))
 f169:=Tryz.func31.trans (congrArg some (by kernel_rfl))
 f240:=Tryz.func93.trans (congrArg some (by kernel_rfl))
 f241:=Tryz.func188.trans (congrArg some (by kernel_rfl))
 f276:=Tryz.func136.trans (congrArg some (by kernel_rfl))
 f277:=Tryz.func206.trans (congrArg some (by kernel_rfl))
 t0:=CG
 a0:=EM
 z0:=Eb
 v0:=CW
 t3:=AW
 a3:=Cq
 z3:=BW
 v3:=Bp
 t4:=Br
 a4:=CI
 z4:=Ci
 v4:=BC
 t9:=AK
 a9:=Cr
 z9:=BX
 v9:=Bq
 t20:=GX
 a20:=Mg
 z20:=Lk
 v20:=Im
 t31:=Dy
 a31:=Tryz.isAgg22
 z31:=Tryz.sizeOf22
 v31:=Tryz.zeroValue22
 t37:=AI
 a37:=GY
 z37:=Gf
 v37:=EO
 t70:=Tryz.underlying63
 a70:=Tryz.isAgg63
 z70:=Tryz.sizeOf63
 v70:=Tryz.zeroValue63
 t72:=Tryz.underlying65
 a72:=Tryz.isAgg65
 z72:=Tryz.sizeOf65
 v72:=Tryz.zeroValue65
 t75:=Iw
 a75:=Tryz.isAgg95
 z75:=OH
 v75:=LJ
 t76:=Tryz.underlying96
 a76:=Tryz.isAgg96
 z76:=Tryz.sizeOf96
 v76:=Tryz.zeroValue96
 t127:=Ho
 a127:=Ll
 z127:=JM
 v127:=GZ
 t164:=Tryz.underlying175
 a164:=Tryz.isAgg175
 z164:=Tryz.sizeOf175
 v164:=Tryz.zeroValue175 }
theorem Tryz.Builder_Extra_156:Builder.Extra Aa Tryz.lays156_ren:={
 sizeBuilder:=by kernel_rfl
 liesBuilder:=by kernel_rfl
 t5:=Ba
 a5:=Db
 z5:=CH
 v5:=BN
 infoByte:=by kernel_rfl
 cellsByte:=by kernel_rfl
 sizeByte:=by kernel_rfl
 neB5:=by decide }
open Go.RowKit in
theorem Tryz.strings_Join_none(a:Option Addr)(c:Nat)(sep:ByteArray)(w:Ab) :
  Ag Aa 113 #[.slice a 0 c,.string sep] w fun e w'=>e=.returned (.string ⟨#[]⟩)/\w'=w:=Any.strings_Join_none Tryz.lays156 Tryz.Builder_Extra_156 a c sep w
open Go.RowKit in
theorem Tryz.strings_Join(bk o c:Nat)(xs:List ByteArray)(sep:ByteArray)(w:Ab)(hcells:∀(j:Nat) x,xs[j]?=some x->w.cell? ⟨bk,o+j,none⟩=some (.string x))(hbk:bk<w.heap.size)(hN:xs.length<=140737488355328)(hcap:xs.length<=c)(hlen:(Lib.join (xs.map (·.data.toList)) sep.data.toList).length<=140737488355328) :
  Ag Aa 113 #[.slice (some ⟨bk,o,none⟩) xs.length c,.string sep] w fun e w'=>e=.returned (.string ⟨(Lib.join (xs.map (·.data.toList)) sep.data.toList).toArray⟩)/\Below w.heap.size w w':=Any.strings_Join Tryz.lays156 Tryz.Builder_Extra_156 bk o c xs sep w hcells hbk hN hcap hlen
def Tryz.lays137_ren:BK:=⟨fun|137=>172|217=>129|266=>166|n=>n,fun|9=>9|5=>5|3=>3|n=>n,fun|n=>n⟩
theorem Tryz.lays137:Go.Proofs.Lays.n137 Aa Tryz.lays137_ren:={
 mixed:=by kernel_rfl
 f137:=Tryz.func172.trans (congrArg some (by kernel_rfl))
 f217:=Tryz.func129.trans (congrArg some (by kernel_rfl))
 f266:=Tryz.func166.trans (congrArg some (by kernel_rfl))
 t3:=AW
 a3:=Cq
 z3:=BW
 v3:=Bp
 t5:=Ba
 a5:=Db
 z5:=CH
 v5:=BN
 t9:=AK
 a9:=Cr
 z9:=BX
 v9:=Bq }
open Go.RowKit in
theorem Tryz.strings_IndexByte(s:ByteArray)(c:Int)(w:Ab) :
  Ag Aa 172 #[.string s,.int .u8 c] w fun e w'=>e=.returned (.int .i64 (Bu s.data.toList c.toNat.toUInt8))/\w'=w:=Any.strings_IndexByte Tryz.lays137 s c w
def Tryz.lays103_ren:BK:=⟨fun|103=>91|210=>134|206=>171|n=>n,fun|9=>9|4=>4|24=>138|3=>3|n=>n,fun|n=>n⟩
theorem Tryz.lays103:Go.Proofs.Lays.n103 Aa Tryz.lays103_ren:={
 mixed:=by kernel_rfl
 f103:=Tryz.func91.trans (congrArg some (by kernel_rfl))
 f206:=Tryz.func171.trans (congrArg some (by kernel_rfl))
 f210:=Tryz.func134.trans (congrArg some (by kernel_rfl))
 t3:=AW
 a3:=Cq
 z3:=BW
 v3:=Bp
 t4:=Br
 a4:=CI
 z4:=Ci
 v4:=BC
 t9:=AK
 a9:=Cr
 z9:=BX
 v9:=Bq
 t24:=Tryz.underlying138
 a24:=Tryz.isAgg138
 z24:=Tryz.sizeOf138
 v24:=Tryz.zeroValue138 }
open Go.RowKit in
theorem Tryz.strings_CutPrefix(s p:ByteArray)(w:Ab) :
  Ag Aa 91 #[.string s,.string p] w fun e w'=>e=.returned (.tuple #[.string ⟨(Lib.trimPrefix s.data.toList p.data.toList).toArray⟩,.bool (Lib.hasPrefix s.data.toList p.data.toList)])/\w'=w:=Any.strings_CutPrefix Tryz.lays103 s p w
def Tryz.lays283_ren:BK:=⟨fun|283=>147|n=>n,fun|3=>3|9=>9|4=>4|n=>n,fun|n=>n⟩
theorem Tryz.lays283:Go.Proofs.Lays.n283 Aa Tryz.lays283_ren:={
 mixed:=by kernel_rfl
 f283:=Mh.trans (congrArg some (by kernel_rfl))
 t3:=AW
 a3:=Cq
 z3:=BW
 v3:=Bp
 t4:=Br
 a4:=CI
 z4:=Ci
 v4:=BC
 t9:=AK
 a9:=Cr
 z9:=BX
 v9:=Bq }
open Go.Lib in
theorem Tryz.internal_strconv_small(i:Nat)(h:i<100)(w:Ab) :
  Ag Aa 147 #[.int .i64 i] w fun e w'=>e=.returned (.string ⟨(Bv i).toArray⟩)/\w'=w:=Any.internal_strconv_small Tryz.lays283 i h w
def Tryz.laysM284_ren:BK:=⟨fun|284=>148|129=>178|317=>177|318=>179|n=>n,fun|53=>116|3=>3|212=>214|0=>0|4=>4|46=>171|5=>5|9=>9|n=>n,fun|17=>1|n=>n⟩
theorem Tryz.laysM284:Go.Proofs.LaysM.n284 Aa Tryz.laysM284_ren:={
 mixed:=by kernel_rfl
 f129:=Mi.trans (congrArg some (by kernel_rfl))
 f284:=Mj.trans (congrArg some (by kernel_rfl))
 f317:=Mk.trans (congrArg some (by kernel_rfl))
 f318:=Ml.trans (congrArg some (by kernel_rfl))
 t0:=CG
 a0:=EM
 z0:=Eb
 v0:=CW
 t3:=AW
 a3:=Cq
 z3:=BW
 v3:=Bp
 t4:=Br
 a4:=CI
 z4:=Ci
 v4:=BC
 t5:=Ba
 a5:=Db
 z5:=CH
 v5:=BN
 t9:=AK
 a9:=Cr
 z9:=BX
 v9:=Bq
 t46:=CB
 a46:=Ek
 z46:=DK
 v46:=CP
 t53:=Es
 a53:=Ix
 z53:=Ha
 v53:=Ft
 t212:=Hp
 a212:=Lm
 z212:=JN
 v212:=Hc
 g17:=by kernel_rfl
 i0:=by kernel_rfl
 i3:=by kernel_rfl
 i4:=by kernel_rfl
 i5:=by kernel_rfl
 i9:=by kernel_rfl
 i46:=by kernel_rfl
 i53:=by kernel_rfl
 i212:=by kernel_rfl
 m17:=by kernel_rfl }
open Go.Lib in
theorem Tryz.internal_strconv_numDigits (u : Nat) (h1 : 1 <= u) (h2 : u < 18446744073709551616) (w : Ab) (htab : Io Aa w "internal/strconv.uint64pow10" .u64 OI) :
    Ag Aa 148 #[.int .u64 u] w fun e w' => e = .returned (.int .i64 (FK u)) /\ w' = w := Any.internal_strconv_numDigits Tryz.laysM284 u h1 h2 w htab
def Tryz.lays285_ren:BK:=⟨fun|285=>149|n=>n,fun|37=>39|53=>116|3=>3|4=>4|51=>36|9=>9|5=>5|0=>0|n=>n,fun|n=>n⟩
theorem Tryz.lays285:Go.Proofs.Lays.n285 Aa Tryz.lays285_ren:={
 mixed:=by kernel_rfl
 f285:=Mn.trans (congrArg some (by kernel_rfl))
 t0:=CG
 a0:=EM
 z0:=Eb
 v0:=CW
 t3:=AW
 a3:=Cq
 z3:=BW
 v3:=Bp
 t4:=Br
 a4:=CI
 z4:=Ci
 v4:=BC
 t5:=Ba
 a5:=Db
 z5:=CH
 v5:=BN
 t9:=AK
 a9:=Cr
 z9:=BX
 v9:=Bq
 t37:=AI
 a37:=GY
 z37:=Gf
 v37:=EO
 t51:=CX
 a51:=Et
 z51:=DQ
 v51:=CU
 t53:=Es
 a53:=Ix
 z53:=Ha
 v53:=Ft }
open Go.RowKit Go.Sort Go.Lib in
theorem Tryz.internal_strconv_formatBase10(blk off cap:Nat)(u:Nat)(d:Array UInt8)(w:Ab)(hH:Holds (fun(b:UInt8)=>AL .u8 (b.toNat:Int)) w blk off d)(hu:u<10 ^ d.size)(hu64:u<18446744073709551616)(hsz:d.size<4611686018427387904) :
  Ag Aa 149 #[.slice (some ⟨blk,off,none⟩) d.size cap,.int .u64 u] w fun e w'=>
   e=.returned (.tuple #[])/\∃(n v':Nat) (dk:Array UInt8),w'=(putRow (fun(b:UInt8)=>AL .u8 (b.toNat:Int)) w blk off dk).drewN n/\FmtInv d.size u 0 v' dk:=Any.internal_strconv_formatBase10 Tryz.lays285 blk off cap u d w hH hu hu64 hsz
def Tryz.laysM171_ren:BK:=⟨fun|171=>154|243=>189|246=>207|283=>147|284=>148|285=>149|286=>150|129=>178|317=>177|318=>179|319=>180|320=>181|337=>201|338=>202|n=>n,fun|3=>3|9=>9|2=>2|4=>4|171=>184|0=>0|53=>116|37=>39|5=>5|173=>187|212=>214|51=>36|20=>20|213=>215|46=>171|232=>247|233=>248|n=>n,fun|17=>1|18=>4|19=>5|n=>n⟩
theorem Tryz.laysM171:Go.Proofs.LaysM.n171 Aa Tryz.laysM171_ren:={
 mixed:=by kernel_rfl
 f129:=Mi.trans (congrArg some (by kernel_rfl))
 f171:=Tryz.func154.trans (congrArg some (by kernel_rfl))
 f243:=Tryz.func189.trans (congrArg some (by kernel_rfl))
 f246:=Tryz.func207.trans (congrArg some (by kernel_rfl))
 f283:=Mh.trans (congrArg some (by kernel_rfl))
 f284:=Mj.trans (congrArg some (by kernel_rfl))
 f285:=Mn.trans (congrArg some (by kernel_rfl))
 f286:=Mo.trans (congrArg some (by kernel_rfl))
 f317:=Mk.trans (congrArg some (by kernel_rfl))
 f318:=Ml.trans (congrArg some (by kernel_rfl))
 f319:=Mp.trans (congrArg some (by kernel_rfl))
 f320:=Mq.trans (congrArg some (by kernel_rfl))
 f337:=Tryz.func201.trans (congrArg some (by kernel_rfl))
 f338:=Mr.trans (congrArg some (by kernel_rfl))
 t0:=CG
 a0:=EM
 z0:=Eb
 v0:=CW
 t2:=LK
 a2:=Tryz.isAgg2
 z2:=Tryz.sizeOf2
 v2:=MM
 t3:=AW
 a3:=Cq
 z3:=BW
 v3:=Bp
 t4:=Br
 a4:=CI
 z4:=Ci
 v4:=BC
 t5:=Ba
 a5:=Db
 z5:=CH
 v5:=BN
 t9:=AK
 a9:=Cr
 z9:=BX
 v9:=Bq
 t20:=GX
 a20:=Mg
 z20:=Lk
 v20:=Im
 t37:=AI
 a37:=GY
 z37:=Gf
 v37:=EO
 t46:=CB
 a46:=Ek
 z46:=DK
 v46:=CP
 t51:=CX
 a51:=Et
 z51:=DQ
 v51:=CU
 t53:=Es
 a53:=Ix
 z53:=Ha
 v53:=Ft
 t171:=GB
 a171:=OJ
 z171:=NH
 v171:=Ko
 t173:=JO
 a173:=OK
 z173:=NI
 v173:=Kp
 t212:=Hp
 a212:=Lm
 z212:=JN
 v212:=Hc
 t213:=GC
 a213:=OL
 z213:=NJ
 t232:=JP
 a232:=OM
 z232:=NK
 v232:=Kq
 t233:=Lx
 a233:=ON
 z233:=NL
 v233:=Kr
 g17:=by kernel_rfl
 g18:=by kernel_rfl
 g19:=by kernel_rfl
 i0:=by kernel_rfl
 i2:=by kernel_rfl
 i3:=by kernel_rfl
 i4:=by kernel_rfl
 i5:=by kernel_rfl
 i9:=by kernel_rfl
 i20:=by kernel_rfl
 i37:=by kernel_rfl
 i46:=by kernel_rfl
 i51:=by kernel_rfl
 i53:=by kernel_rfl
 i171:=by kernel_rfl
 i173:=by kernel_rfl
 i212:=by kernel_rfl
 i232:=by kernel_rfl
 i233:=by kernel_rfl
 m17:=by kernel_rfl
 m18:=by kernel_rfl
 m19:=by kernel_rfl }
open Go.RowKit Go.Sort Go.Lib in
theorem Tryz.strconv_Itoa (n : Int) (h0 : -9223372036854775808 <= n) (h1 : n <= 9223372036854775807) (w : Ab) (htab : Io Aa w "internal/strconv.uint64pow10" .u64 OI) :
    Ag Aa 154 #[.int .i64 n] w fun e w' => e = .returned (.string ⟨(Lib.itoa n).toArray⟩) /\ ∃ k os, w' = grow (w.drewN k) os := Any.strconv_Itoa Tryz.laysM171 n h0 h1 w htab
def Tryz.laysM316_ren:BK:=⟨fun|316=>209|n=>n,fun|9=>9|3=>3|4=>4|37=>39|0=>0|127=>106|5=>5|n=>n,fun|n=>n⟩
theorem Tryz.laysM316:Go.Proofs.LaysM.n316 Aa Tryz.laysM316_ren:={
 mixed:=by kernel_rfl
 f316:=Tryz.func209.trans (congrArg some (by kernel_rfl))
 t0:=CG
 a0:=EM
 z0:=Eb
 v0:=CW
 t3:=AW
 a3:=Cq
 z3:=BW
 v3:=Bp
 t4:=Br
 a4:=CI
 z4:=Ci
 v4:=BC
 t9:=AK
 a9:=Cr
 z9:=BX
 v9:=Bq
 t37:=AI
 a37:=GY
 z37:=Gf
 v37:=EO
 t127:=Ho
 a127:=Ll
 z127:=JM
 v127:=GZ
 t5:=Ba
 a5:=Db
 z5:=CH
 v5:=BN
 i0:=by kernel_rfl
 i3:=by kernel_rfl
 i4:=by kernel_rfl
 i5:=by kernel_rfl
 i9:=by kernel_rfl
 i37:=by kernel_rfl
 i127:=by kernel_rfl }
open Go.RowKit in
theorem Tryz.stringslite_Clone(s:ByteArray)(w:Ab)(hlim:s.size<=281474976710656) :
  Ag Aa 209 #[.string s] w fun e w'=>e=.returned (.string s)/\Below w.heap.size w w':=Any.stringslite_Clone Tryz.laysM316 s w hlim
def Tryz.laysC245_ren:BK:=⟨fun|245=>235|279=>251|280=>252|281=>253|282=>254|316=>209|171=>154|205=>270|243=>189|246=>207|283=>147|284=>148|285=>149|286=>150|129=>178|317=>177|318=>179|319=>180|320=>181|337=>201|338=>202|n=>n,fun|9=>9|3=>3|75=>95|167=>287|4=>4|168=>289|210=>303|37=>39|0=>0|127=>106|145=>320|143=>318|2=>2|171=>184|53=>116|5=>5|173=>187|212=>214|51=>36|20=>20|213=>215|46=>171|232=>247|233=>248|80=>67|n=>n,fun|15=>7|16=>8|17=>1|18=>4|19=>5|n=>n⟩
theorem Tryz.laysC245:Go.Proofs.LaysC.n245 Aa Tryz.laysC245_ren:={
 mixed:=by kernel_rfl
 f129:=Mi.trans (congrArg some (by kernel_rfl))
 f171:=Tryz.func154.trans (congrArg some (by kernel_rfl))
 f205:=Tryz.func270.trans (congrArg some (by kernel_rfl))
 f243:=Tryz.func189.trans (congrArg some (by kernel_rfl))
 f245:=Tryz.func235.trans (congrArg some (by kernel_rfl))
 f246:=Tryz.func207.trans (congrArg some (by kernel_rfl))
 f279:=Tryz.func251.trans (congrArg some (by kernel_rfl))
 f280:=Tryz.func252.trans (congrArg some (by kernel_rfl))
 f281:=Tryz.func253.trans (congrArg some (by kernel_rfl))
 f282:=Tryz.func254.trans (congrArg some (by kernel_rfl))
 f283:=Mh.trans (congrArg some (by kernel_rfl))
 f284:=Mj.trans (congrArg some (by kernel_rfl))
 f285:=Mn.trans (congrArg some (by kernel_rfl))
 f286:=Mo.trans (congrArg some (by kernel_rfl))
 f316:=Tryz.func209.trans (congrArg some (by kernel_rfl))
 f317:=Mk.trans (congrArg some (by kernel_rfl))
 f318:=Ml.trans (congrArg some (by kernel_rfl))
 f319:=Mp.trans (congrArg some (by kernel_rfl))
 f320:=Mq.trans (congrArg some (by kernel_rfl))
 f337:=Tryz.func201.trans (congrArg some (by kernel_rfl))
 f338:=Mr.trans (congrArg some (by kernel_rfl))
 t0:=CG
 a0:=EM
 z0:=Eb
 v0:=CW
 t2:=LK
 a2:=Tryz.isAgg2
 z2:=Tryz.sizeOf2
 v2:=MM
 t3:=AW
 a3:=Cq
 z3:=BW
 v3:=Bp
 t4:=Br
 a4:=CI
 z4:=Ci
 v4:=BC
 t5:=Ba
 a5:=Db
 z5:=CH
 v5:=BN
 t9:=AK
 a9:=Cr
 z9:=BX
 v9:=Bq
 t20:=GX
 a20:=Mg
 z20:=Lk
 v20:=Im
 t37:=AI
 a37:=GY
 z37:=Gf
 v37:=EO
 t46:=CB
 a46:=Ek
 z46:=DK
 v46:=CP
 t51:=CX
 a51:=Et
 z51:=DQ
 v51:=CU
 t53:=Es
 a53:=Ix
 z53:=Ha
 v53:=Ft
 t75:=Iw
 a75:=Tryz.isAgg95
 z75:=OH
 v75:=LJ
 t127:=Ho
 a127:=Ll
 z127:=JM
 v127:=GZ
 t143:=Ly
 a143:=Tryz.isAgg318
 z143:=Tryz.sizeOf318
 v143:=Tryz.zeroValue318
 t145:=Lz
 a145:=Tryz.isAgg320
 z145:=Tryz.sizeOf320
 v145:=Tryz.zeroValue320
 t167:=Pv
 a167:=Tryz.isAgg287
 z167:=Tryz.sizeOf287
 v167:=Tryz.zeroValue287
 t168:=Px
 a168:=Tryz.isAgg289
 z168:=Tryz.sizeOf289
 v168:=Tryz.zeroValue289
 t171:=GB
 a171:=OJ
 z171:=NH
 v171:=Ko
 t173:=JO
 a173:=OK
 z173:=NI
 v173:=Kp
 t210:=Py
 a210:=Tryz.isAgg303
 z210:=Tryz.sizeOf303
 v210:=Tryz.zeroValue303
 t212:=Hp
 a212:=Lm
 z212:=JN
 v212:=Hc
 t213:=GC
 a213:=OL
 z213:=NJ
 t232:=JP
 a232:=OM
 z232:=NK
 v232:=Kq
 t233:=Lx
 a233:=ON
 z233:=NL
 v233:=Kr
 g15:=by kernel_rfl
 g16:=by kernel_rfl
 g17:=by kernel_rfl
 g18:=by kernel_rfl
 g19:=by kernel_rfl
 t80:=Tryz.underlying67
 a80:=Tryz.isAgg67
 z80:=Tryz.sizeOf67
 v80:=Tryz.zeroValue67
 i0:=by kernel_rfl
 i2:=by kernel_rfl
 i3:=by kernel_rfl
 i4:=by kernel_rfl
 i5:=by kernel_rfl
 i9:=by kernel_rfl
 i20:=by kernel_rfl
 i37:=by kernel_rfl
 i46:=by kernel_rfl
 i51:=by kernel_rfl
 i53:=by kernel_rfl
 i75:=by kernel_rfl
 i80:=by kernel_rfl
 i127:=by kernel_rfl
 i143:=by kernel_rfl
 i145:=by kernel_rfl
 i167:=by kernel_rfl
 i168:=by kernel_rfl
 i171:=by kernel_rfl
 i173:=by kernel_rfl
 i210:=by kernel_rfl
 i212:=by kernel_rfl
 i232:=by kernel_rfl
 i233:=by kernel_rfl
 m15:=by kernel_rfl
 m16:=by kernel_rfl
 m17:=by kernel_rfl
 m18:=by kernel_rfl
 m19:=by kernel_rfl
 c0:=by kernel_rfl
 c2:=by kernel_rfl
 c3:=by kernel_rfl
 c4:=by kernel_rfl
 c5:=by kernel_rfl
 c9:=by kernel_rfl
 c20:=by kernel_rfl
 c37:=by kernel_rfl
 c46:=by kernel_rfl
 c51:=by kernel_rfl
 c53:=by kernel_rfl
 c75:=by kernel_rfl
 c80:=by kernel_rfl
 c127:=by kernel_rfl
 c143:=by kernel_rfl
 c145:=by kernel_rfl
 c167:=by kernel_rfl
 c168:=by kernel_rfl
 c171:=by kernel_rfl
 c173:=by kernel_rfl
 c210:=by kernel_rfl
 c212:=by kernel_rfl
 c213:=by kernel_rfl
 c232:=by kernel_rfl
 c233:=by kernel_rfl }
open Go.RowKit in
theorem Tryz.strconv_toError_syntax(fn s:ByteArray)(base bits:Int)(ev:Ao)(w:Ab)(hlim:s.size<=281474976710656)(hv:w.cell? ⟨7,0,none⟩=some ev)(hev:ev=.nilIface∨∃te pe,ev=.iface te pe) :
  Ag Aa 235 #[.string fn,.string s,.int .i64 base,.int .i64 bits,.iface 287 (.int .i64 2)] w fun e w'=>∃N,e=.returned (.iface 289 (.pointer (some ⟨N,0,none⟩)))/\w.heap.size<=N/\w'.heap[N]?=some (.cells #[.string fn,.string s,ev] 303 (0,0))/\Below w.heap.size w w':=Any.strconv_toError_syntax Tryz.laysC245 fn s base bits ev w hlim hv hev
def Tryz.lays321_ren:BK:=⟨fun|321=>249|n=>n,fun|5=>5|n=>n,fun|n=>n⟩
theorem Tryz.lays321:Go.Proofs.Lays.n321 Aa Tryz.lays321_ren:={
 mixed:=by kernel_rfl
 f321:=Tryz.func249.trans (congrArg some (by kernel_rfl))
 t5:=Ba
 a5:=Db
 z5:=CH
 v5:=BN }
open Go.RowKit in
theorem Tryz.internal_strconv_lower(c:Int)(w:Ab) :
  Ag Aa 249 #[.int .u8 c] w fun e w'=>e=.returned (.int .u8 (bits .or .u8 c 32))/\w'=w:=Any.internal_strconv_lower Tryz.lays321 c w
open Go.RowKit in
theorem Tryz.strconv_toError_range(fn s:ByteArray)(base bits:Int)(ev:Ao)(w:Ab)(hlim:s.size<=281474976710656)(hv:w.cell? ⟨8,0,none⟩=some ev)(hev:ev=.nilIface∨∃te pe,ev=.iface te pe) :
  Ag Aa 235 #[.string fn,.string s,.int .i64 base,.int .i64 bits,.iface 287 (.int .i64 1)] w fun e w'=>∃N,e=.returned (.iface 289 (.pointer (some ⟨N,0,none⟩)))/\w.heap.size<=N/\w'.heap[N]?=some (.cells #[.string fn,.string s,ev] 303 (0,0))/\Below w.heap.size w w':=Any.strconv_toError_range Tryz.laysC245 fn s base bits ev w hlim hv hev
def Tryz.laysC172_ren:BK:=⟨fun|172=>258|244=>273|245=>235|247=>287|279=>251|280=>252|281=>253|282=>254|287=>234|316=>209|171=>154|205=>270|321=>249|322=>250|243=>189|246=>207|283=>147|284=>148|285=>149|286=>150|129=>178|317=>177|318=>179|319=>180|320=>181|337=>201|338=>202|n=>n,fun|9=>9|3=>3|75=>95|76=>96|4=>4|5=>5|167=>287|37=>39|0=>0|85=>324|2=>2|168=>289|53=>116|175=>263|46=>171|210=>303|127=>106|145=>320|143=>318|21=>21|171=>184|173=>187|212=>214|51=>36|20=>20|213=>215|232=>247|233=>248|80=>67|n=>n,fun|15=>7|16=>8|17=>1|18=>4|19=>5|n=>n⟩
theorem Tryz.laysC172:Go.Proofs.LaysC.n172 Aa Tryz.laysC172_ren:={
 mixed:=by kernel_rfl
 f129:=Mi.trans (congrArg some (by kernel_rfl))
 f171:=Tryz.func154.trans (congrArg some (by kernel_rfl))
 f172:=Tryz.func258.trans (congrArg some (by kernel_rfl))
 f205:=Tryz.func270.trans (congrArg some (by kernel_rfl))
 f243:=Tryz.func189.trans (congrArg some (by kernel_rfl))
 f244:=Tryz.func273.trans (congrArg some (by kernel_rfl))
 f245:=Tryz.func235.trans (congrArg some (by kernel_rfl))
 f246:=Tryz.func207.trans (congrArg some (by kernel_rfl))
 f247:=Tryz.func287.trans (congrArg some (by kernel_rfl))
 f279:=Tryz.func251.trans (congrArg some (by kernel_rfl))
 f280:=Tryz.func252.trans (congrArg some (by kernel_rfl))
 f281:=Tryz.func253.trans (congrArg some (by kernel_rfl))
 f282:=Tryz.func254.trans (congrArg some (by kernel_rfl))
 f283:=Mh.trans (congrArg some (by kernel_rfl))
 f284:=Mj.trans (congrArg some (by kernel_rfl))
 f285:=Mn.trans (congrArg some (by kernel_rfl))
 f286:=Mo.trans (congrArg some (by kernel_rfl))
 f287:=NR.trans (congrArg some (by kernel_rfl))
 f316:=Tryz.func209.trans (congrArg some (by kernel_rfl))
 f317:=Mk.trans (congrArg some (by kernel_rfl))
 f318:=Ml.trans (congrArg some (by kernel_rfl))
 f319:=Mp.trans (congrArg some (by kernel_rfl))
 f320:=Mq.trans (congrArg some (by kernel_rfl))
 f321:=Tryz.func249.trans (congrArg some (by kernel_rfl))
 f322:=Tryz.func250.trans (congrArg some (by kernel_rfl))
 f337:=Tryz.func201.trans (congrArg some (by kernel_rfl))
 f338:=Mr.trans (congrArg some (by kernel_rfl))
 t0:=CG
 a0:=EM
 z0:=Eb
 v0:=CW
 t2:=LK
 a2:=Tryz.isAgg2
 z2:=Tryz.sizeOf2
 v2:=MM
 t3:=AW
 a3:=Cq
 z3:=BW
 v3:=Bp
 t4:=Br
 a4:=CI
 z4:=Ci
 v4:=BC
 t5:=Ba
 a5:=Db
 z5:=CH
 v5:=BN
 t9:=AK
 a9:=Cr
 z9:=BX
 v9:=Bq
 t20:=GX
 a20:=Mg
 z20:=Lk
 v20:=Im
 t21:=Ms
 a21:=Tryz.isAgg21
 z21:=Tryz.sizeOf21
 v21:=Nj
 t37:=AI
 a37:=GY
 z37:=Gf
 v37:=EO
 t46:=CB
 a46:=Ek
 z46:=DK
 v46:=CP
 t51:=CX
 a51:=Et
 z51:=DQ
 v51:=CU
 t53:=Es
 a53:=Ix
 z53:=Ha
 v53:=Ft
 t75:=Iw
 a75:=Tryz.isAgg95
 z75:=OH
 v75:=LJ
 t76:=Tryz.underlying96
 a76:=Tryz.isAgg96
 z76:=Tryz.sizeOf96
 v76:=Tryz.zeroValue96
 t85:=Tryz.underlying324
 a85:=Tryz.isAgg324
 z85:=Tryz.sizeOf324
 v85:=Tryz.zeroValue324
 t127:=Ho
 a127:=Ll
 z127:=JM
 v127:=GZ
 t143:=Ly
 a143:=Tryz.isAgg318
 z143:=Tryz.sizeOf318
 v143:=Tryz.zeroValue318
 t145:=Lz
 a145:=Tryz.isAgg320
 z145:=Tryz.sizeOf320
 v145:=Tryz.zeroValue320
 t167:=Pv
 a167:=Tryz.isAgg287
 z167:=Tryz.sizeOf287
 v167:=Tryz.zeroValue287
 t168:=Px
 a168:=Tryz.isAgg289
 z168:=Tryz.sizeOf289
 v168:=Tryz.zeroValue289
 t171:=GB
 a171:=OJ
 z171:=NH
 v171:=Ko
 t173:=JO
 a173:=OK
 z173:=NI
 v173:=Kp
 t175:=Tryz.underlying263
 a175:=Tryz.isAgg263
 z175:=Tryz.sizeOf263
 v175:=Tryz.zeroValue263
 t210:=Py
 a210:=Tryz.isAgg303
 z210:=Tryz.sizeOf303
 v210:=Tryz.zeroValue303
 t212:=Hp
 a212:=Lm
 z212:=JN
 v212:=Hc
 t213:=GC
 a213:=OL
 z213:=NJ
 t232:=JP
 a232:=OM
 z232:=NK
 v232:=Kq
 t233:=Lx
 a233:=ON
 z233:=NL
 v233:=Kr
 g15:=by kernel_rfl
 g16:=by kernel_rfl
 g17:=by kernel_rfl
 g18:=by kernel_rfl
 g19:=by kernel_rfl
 t80:=Tryz.underlying67
 a80:=Tryz.isAgg67
 z80:=Tryz.sizeOf67
 v80:=Tryz.zeroValue67
 i0:=by kernel_rfl
 i2:=by kernel_rfl
 i3:=by kernel_rfl
 i4:=by kernel_rfl
 i5:=by kernel_rfl
 i9:=by kernel_rfl
 i20:=by kernel_rfl
 i21:=by kernel_rfl
 i37:=by kernel_rfl
 i46:=by kernel_rfl
 i51:=by kernel_rfl
 i53:=by kernel_rfl
 i75:=by kernel_rfl
 i76:=by kernel_rfl
 i80:=by kernel_rfl
 i85:=by kernel_rfl
 i127:=by kernel_rfl
 i143:=by kernel_rfl
 i145:=by kernel_rfl
 i167:=by kernel_rfl
 i168:=by kernel_rfl
 i171:=by kernel_rfl
 i173:=by kernel_rfl
 i175:=by kernel_rfl
 i210:=by kernel_rfl
 i212:=by kernel_rfl
 i232:=by kernel_rfl
 i233:=by kernel_rfl
 m15:=by kernel_rfl
 m16:=by kernel_rfl
 m17:=by kernel_rfl
 m18:=by kernel_rfl
 m19:=by kernel_rfl
 c0:=by kernel_rfl
 c2:=by kernel_rfl
 c3:=by kernel_rfl
 c4:=by kernel_rfl
 c5:=by kernel_rfl
 c9:=by kernel_rfl
 c20:=by kernel_rfl
 c21:=by kernel_rfl
 c37:=by kernel_rfl
 c46:=by kernel_rfl
 c51:=by kernel_rfl
 c53:=by kernel_rfl
 c75:=by kernel_rfl
 c76:=by kernel_rfl
 c80:=by kernel_rfl
 c85:=by kernel_rfl
 c127:=by kernel_rfl
 c143:=by kernel_rfl
 c145:=by kernel_rfl
 c167:=by kernel_rfl
 c168:=by kernel_rfl
 c171:=by kernel_rfl
 c173:=by kernel_rfl
 c175:=by kernel_rfl
 c210:=by kernel_rfl
 c212:=by kernel_rfl
 c213:=by kernel_rfl
 c232:=by kernel_rfl
 c233:=by kernel_rfl }
open Go.RowKit in
theorem Tryz.strconv_Atoi_ok(s:ByteArray)(hmax:s.size<=9223372036854775806)(v:Int)(h:MY s.data.toList=.ok v)(w:Ab) :
  Ag Aa 258 #[.string s] w fun e w'=>e=.returned (.tuple #[.int .i64 v,.nilIface])/\(w'=w∨∃t,w'=Eu w 5 t):=Any.strconv_Atoi_ok Tryz.laysC172 s hmax v h w
open Go.RowKit in
theorem Tryz.strconv_Atoi_syntax_var (s : ByteArray) (hlim : s.size <= 281474976710656) (h : MY s.data.toList = .«syntax») (tp : BH) (p : Ao) (w : Ab) (hvar : w.var? Aa "strconv.ErrSyntax" = some #[.iface tp p]) :
    Ag Aa 258 #[.string s] w fun e w' => ∃ N, e = .returned (.tuple #[.int .i64 0, .iface 289 (.pointer (some ⟨N, 0, none⟩))]) /\ w.heap.size <= N /\ w'.heap[N]? = some (.cells #[.string ⟨#[65, 116, 111, 105]⟩, .string s, .iface tp p] 303 (0, 0)) /\ Below w.heap.size w w' := Any.strconv_Atoi_syntax_var Tryz.laysC172 s hlim h tp p w hvar
open Go.RowKit in
theorem Tryz.strconv_Atoi_range_var (s : ByteArray) (hlim : s.size <= 281474976710656) (h : MY s.data.toList = .range) (tp : BH) (p : Ao) (w : Ab) (hvar : w.var? Aa "strconv.ErrRange" = some #[.iface tp p]) :
    Ag Aa 258 #[.string s] w fun e w' => ∃ N, e = .returned (.tuple #[.int .i64 (Lib.atoiSat s.data.toList), .iface 289 (.pointer (some ⟨N, 0, none⟩))]) /\ w.heap.size <= N /\ w'.heap[N]? = some (.cells #[.string ⟨#[65, 116, 111, 105]⟩, .string s, .iface tp p] 303 (0, 0)) /\ Below w.heap.size w w' := Any.strconv_Atoi_range_var Tryz.laysC172 s hlim h tp p w hvar
def Tryz.laysPu14_ren:BK:=⟨fun|14=>222|16=>234|17=>235|19=>249|20=>250|21=>251|22=>252|23=>253|24=>254|25=>209|27=>154|26=>270|28=>189|29=>207|30=>147|31=>148|32=>149|33=>150|35=>178|34=>177|36=>179|37=>180|38=>181|39=>201|40=>202|n=>n,fun|9=>9|3=>3|22=>116|24=>95|25=>263|4=>4|34=>287|5=>5|36=>171|37=>39|0=>0|39=>289|21=>21|44=>303|47=>106|50=>320|48=>318|2=>2|52=>184|55=>187|59=>214|60=>36|20=>20|61=>215|65=>247|66=>248|67=>67|n=>n,fun|0=>7|1=>8|2=>1|3=>4|4=>5|n=>n⟩
theorem Tryz.laysPu14:Go.Proofs.LaysPu.n14 Aa Tryz.laysPu14_ren:={
 mixed:=by kernel_rfl
 f14:=Ks.trans (congrArg some (by kernel_rfl))
 f16:=NR.trans (congrArg some (by kernel_rfl))
 f17:=Tryz.func235.trans (congrArg some (by kernel_rfl))
 f19:=Tryz.func249.trans (congrArg some (by kernel_rfl))
 f20:=Tryz.func250.trans (congrArg some (by kernel_rfl))
 f21:=Tryz.func251.trans (congrArg some (by kernel_rfl))
 f22:=Tryz.func252.trans (congrArg some (by kernel_rfl))
 f23:=Tryz.func253.trans (congrArg some (by kernel_rfl))
 f24:=Tryz.func254.trans (congrArg some (by kernel_rfl))
 f25:=Tryz.func209.trans (congrArg some (by kernel_rfl))
 f26:=Tryz.func270.trans (congrArg some (by kernel_rfl))
 f27:=Tryz.func154.trans (congrArg some (by kernel_rfl))
 f28:=Tryz.func189.trans (congrArg some (by kernel_rfl))
 f29:=Tryz.func207.trans (congrArg some (by kernel_rfl))
 f30:=Mh.trans (congrArg some (by kernel_rfl))
 f31:=Mj.trans (congrArg some (by kernel_rfl))
 f32:=Mn.trans (congrArg some (by kernel_rfl))
 f33:=Mo.trans (congrArg some (by kernel_rfl))
 f34:=Mk.trans (congrArg some (by kernel_rfl))
 f35:=Mi.trans (congrArg some (by kernel_rfl))
 f36:=Ml.trans (congrArg some (by kernel_rfl))
 f37:=Mp.trans (congrArg some (by kernel_rfl))
 f38:=Mq.trans (congrArg some (by kernel_rfl))
 f39:=Tryz.func201.trans (congrArg some (by kernel_rfl))
 f40:=Mr.trans (congrArg some (by kernel_rfl))
 t0:=CG
 a0:=EM
 z0:=Eb
 v0:=CW
 i0:=by kernel_rfl
 t2:=LK
 a2:=Tryz.isAgg2
 z2:=Tryz.sizeOf2
 v2:=MM
 i2:=by kernel_rfl
 t3:=AW
 a3:=Cq
 z3:=BW
 v3:=Bp
 i3:=by kernel_rfl
 t4:=Br
 a4:=CI
 z4:=Ci
 v4:=BC
 i4:=by kernel_rfl
 t5:=Ba
 a5:=Db
 z5:=CH
 v5:=BN
 i5:=by kernel_rfl
 t9:=AK
 a9:=Cr
 z9:=BX
 v9:=Bq
 i9:=by kernel_rfl
 t20:=GX
 a20:=Mg
 z20:=Lk
 v20:=Im
 i20:=by kernel_rfl
 t21:=Ms
 a21:=Tryz.isAgg21
 z21:=Tryz.sizeOf21
 v21:=Nj
 i21:=by kernel_rfl
 t22:=Es
 a22:=Ix
 z22:=Ha
 v22:=Ft
 i22:=by kernel_rfl
 t24:=Iw
 a24:=Tryz.isAgg95
 z24:=OH
 v24:=LJ
 i24:=by kernel_rfl
 t25:=Tryz.underlying263
 a25:=Tryz.isAgg263
 z25:=Tryz.sizeOf263
 v25:=Tryz.zeroValue263
 i25:=by kernel_rfl
 t34:=Pv
 a34:=Tryz.isAgg287
 z34:=Tryz.sizeOf287
 v34:=Tryz.zeroValue287
 i34:=by kernel_rfl
 c34:=by kernel_rfl
 t36:=CB
 a36:=Ek
 z36:=DK
 v36:=CP
 i36:=by kernel_rfl
 t37:=AI
 a37:=GY
 z37:=Gf
 v37:=EO
 i37:=by kernel_rfl
 t39:=Px
 a39:=Tryz.isAgg289
 z39:=Tryz.sizeOf289
 v39:=Tryz.zeroValue289
 i39:=by kernel_rfl
 t44:=Py
 a44:=Tryz.isAgg303
 z44:=Tryz.sizeOf303
 v44:=Tryz.zeroValue303
 i44:=by kernel_rfl
 t47:=Ho
 a47:=Ll
 z47:=JM
 v47:=GZ
 i47:=by kernel_rfl
 t48:=Ly
 a48:=Tryz.isAgg318
 z48:=Tryz.sizeOf318
 v48:=Tryz.zeroValue318
 i48:=by kernel_rfl
 t50:=Lz
 a50:=Tryz.isAgg320
 z50:=Tryz.sizeOf320
 v50:=Tryz.zeroValue320
 i50:=by kernel_rfl
 t52:=GB
 a52:=OJ
 z52:=NH
 v52:=Ko
 i52:=by kernel_rfl
 t55:=JO
 a55:=OK
 z55:=NI
 v55:=Kp
 i55:=by kernel_rfl
 t59:=Hp
 a59:=Lm
 z59:=JN
 v59:=Hc
 i59:=by kernel_rfl
 t60:=CX
 a60:=Et
 z60:=DQ
 v60:=CU
 i60:=by kernel_rfl
 t61:=GC
 a61:=OL
 z61:=NJ
 t65:=JP
 a65:=OM
 z65:=NK
 v65:=Kq
 i65:=by kernel_rfl
 t66:=Lx
 a66:=ON
 z66:=NL
 v66:=Kr
 i66:=by kernel_rfl
 t67:=Tryz.underlying67
 a67:=Tryz.isAgg67
 z67:=Tryz.sizeOf67
 v67:=Tryz.zeroValue67
 i67:=by kernel_rfl
 g0:=by kernel_rfl
 m0:=by kernel_rfl
 g1:=by kernel_rfl
 m1:=by kernel_rfl
 g2:=by kernel_rfl
 m2:=by kernel_rfl
 g3:=by kernel_rfl
 m3:=by kernel_rfl
 g4:=by kernel_rfl
 m4:=by kernel_rfl }
open Go.RowKit in
theorem Tryz.strconv_ParseUint_10_at32_ok(s:ByteArray)(hmax:s.size<=9223372036854775806)(u:Nat)(h:Bn 32 s.data.toList=.ok u)(w:Ab) :
  Ag Aa 222 #[.string s,.int .i64 10,.int .i64 32] w fun e w'=>e=.returned (.tuple #[.int .u64 u,.nilIface])/\(w'=w∨w'=Eu w 5 s):=Any.strconv_ParseUint_10_at32_ok Tryz.laysPu14 s hmax u h w
open Go.RowKit in
theorem Tryz.strconv_ParseUint_10_at8_ok(s:ByteArray)(hmax:s.size<=9223372036854775806)(u:Nat)(h:Bn 8 s.data.toList=.ok u)(w:Ab) :
  Ag Aa 222 #[.string s,.int .i64 10,.int .i64 8] w fun e w'=>e=.returned (.tuple #[.int .u64 u,.nilIface])/\(w'=w∨w'=Eu w 5 s):=Any.strconv_ParseUint_10_at8_ok Tryz.laysPu14 s hmax u h w
open Go.RowKit in
theorem Tryz.strconv_ParseUint_10_at32_syntax_var (s : ByteArray) (hlim : s.size <= 281474976710656) (h : Bn 32 s.data.toList = .«syntax») (tp : BH) (p : Ao) (w : Ab) (hvar : w.var? Aa "strconv.ErrSyntax" = some #[.iface tp p]) :
    Ag Aa 222 #[.string s, .int .i64 10, .int .i64 32] w fun e w' => ∃ N, e = .returned (.tuple #[.int .u64 0, .iface 289 (.pointer (some ⟨N, 0, none⟩))]) /\ w.heap.size <= N /\ w'.heap[N]? = some (.cells #[.string ⟨#[80, 97, 114, 115, 101, 85, 105, 110, 116]⟩, .string s, .iface tp p] 303 (0, 0)) /\ Below w.heap.size w w' := Any.strconv_ParseUint_10_at32_syntax_var Tryz.laysPu14 s hlim h tp p w hvar
open Go.RowKit in
theorem Tryz.strconv_ParseUint_10_at32_range_var (s : ByteArray) (hlim : s.size <= 281474976710656) (h : Bn 32 s.data.toList = .range) (tp : BH) (p : Ao) (w : Ab) (hvar : w.var? Aa "strconv.ErrRange" = some #[.iface tp p]) :
    Ag Aa 222 #[.string s, .int .i64 10, .int .i64 32] w fun e w' => ∃ N, e = .returned (.tuple #[.int .u64 4294967295, .iface 289 (.pointer (some ⟨N, 0, none⟩))]) /\ w.heap.size <= N /\ w'.heap[N]? = some (.cells #[.string ⟨#[80, 97, 114, 115, 101, 85, 105, 110, 116]⟩, .string s, .iface tp p] 303 (0, 0)) /\ Below w.heap.size w w' := Any.strconv_ParseUint_10_at32_range_var Tryz.laysPu14 s hlim h tp p w hvar
open Go.RowKit in
theorem Tryz.strconv_ParseUint_10_at8_syntax_var (s : ByteArray) (hlim : s.size <= 281474976710656) (h : Bn 8 s.data.toList = .«syntax») (tp : BH) (p : Ao) (w : Ab) (hvar : w.var? Aa "strconv.ErrSyntax" = some #[.iface tp p]) :
    Ag Aa 222 #[.string s, .int .i64 10, .int .i64 8] w fun e w' => ∃ N, e = .returned (.tuple #[.int .u64 0, .iface 289 (.pointer (some ⟨N, 0, none⟩))]) /\ w.heap.size <= N /\ w'.heap[N]? = some (.cells #[.string ⟨#[80, 97, 114, 115, 101, 85, 105, 110, 116]⟩, .string s, .iface tp p] 303 (0, 0)) /\ Below w.heap.size w w' := Any.strconv_ParseUint_10_at8_syntax_var Tryz.laysPu14 s hlim h tp p w hvar
open Go.RowKit in
theorem Tryz.strconv_ParseUint_10_at8_range_var (s : ByteArray) (hlim : s.size <= 281474976710656) (h : Bn 8 s.data.toList = .range) (tp : BH) (p : Ao) (w : Ab) (hvar : w.var? Aa "strconv.ErrRange" = some #[.iface tp p]) :
    Ag Aa 222 #[.string s, .int .i64 10, .int .i64 8] w fun e w' => ∃ N, e = .returned (.tuple #[.int .u64 255, .iface 289 (.pointer (some ⟨N, 0, none⟩))]) /\ w.heap.size <= N /\ w'.heap[N]? = some (.cells #[.string ⟨#[80, 97, 114, 115, 101, 85, 105, 110, 116]⟩, .string s, .iface tp p] 303 (0, 0)) /\ Below w.heap.size w w' := Any.strconv_ParseUint_10_at8_range_var Tryz.laysPu14 s hlim h tp p w hvar
def Tryz.lays144_ren:BK:=⟨fun|144=>267|143=>52|219=>89|217=>129|225=>130|224=>131|267=>132|266=>166|314=>167|n=>n,fun|9=>9|4=>4|3=>3|5=>5|46=>171|146=>206|51=>36|n=>n,fun|1=>0|n=>n⟩
theorem Tryz.lays144:Go.Proofs.Lays.n144 Aa Tryz.lays144_ren:={
 mixed:=by kernel_rfl
 f143:=Tryz.func52.trans (congrArg some (by kernel_rfl))
 f144:=Tryz.func267.trans (congrArg some (by kernel_rfl))
 f217:=Tryz.func129.trans (congrArg some (by kernel_rfl))
 f219:=Tryz.func89.trans (congrArg some (by kernel_rfl))
 f224:=Tryz.func131.trans (congrArg some (by kernel_rfl))
 f225:=Tryz.func130.trans (congrArg some (by kernel_rfl))
 f266:=Tryz.func166.trans (congrArg some (by kernel_rfl))
 f267:=Tryz.func132.trans (congrArg some (by kernel_rfl))
 f314:=Tryz.func167.trans (congrArg some (by kernel_rfl))
 t3:=AW
 a3:=Cq
 z3:=BW
 v3:=Bp
 t4:=Br
 a4:=CI
 z4:=Ci
 v4:=BC
 t5:=Ba
 a5:=Db
 z5:=CH
 v5:=BN
 t9:=AK
 a9:=Cr
 z9:=BX
 v9:=Bq
 t46:=CB
 a46:=Ek
 z46:=DK
 v46:=CP
 t51:=CX
 a51:=Et
 z51:=DQ
 v51:=CU
 t146:=JQ
 a146:=OP
 z146:=NM
 v146:=Kt
 g1:=by kernel_rfl }
open Go.RowKit Go.Lib in
theorem Tryz.strings_Contains_one(s:ByteArray)(c:UInt8)(w:Ab) :
  Ag Aa 267 #[.string s,.string ⟨#[c]⟩] w fun e w'=>e=.returned (.bool (decide (0<=Bu s.data.toList c)))/\w'=w:=Any.strings_Contains_one Tryz.lays144 s c w
def Tryz.lays145_ren:BK:=⟨fun|145=>282|220=>293|219=>89|217=>129|225=>130|224=>131|267=>132|266=>166|314=>167|n=>n,fun|9=>9|4=>4|59=>316|3=>3|5=>5|46=>171|146=>206|51=>36|n=>n,fun|1=>0|n=>n⟩
theorem Tryz.lays145:Go.Proofs.Lays.n145 Aa Tryz.lays145_ren:={
 mixed:=by kernel_rfl
 f145:=Tryz.func282.trans (congrArg some (by kernel_rfl))
 f217:=Tryz.func129.trans (congrArg some (by kernel_rfl))
 f219:=Tryz.func89.trans (congrArg some (by kernel_rfl))
 f220:=Tryz.func293.trans (congrArg some (by kernel_rfl))
 f224:=Tryz.func131.trans (congrArg some (by kernel_rfl))
 f225:=Tryz.func130.trans (congrArg some (by kernel_rfl))
 f266:=Tryz.func166.trans (congrArg some (by kernel_rfl))
 f267:=Tryz.func132.trans (congrArg some (by kernel_rfl))
 f314:=Tryz.func167.trans (congrArg some (by kernel_rfl))
 t3:=AW
 a3:=Cq
 z3:=BW
 v3:=Bp
 t4:=Br
 a4:=CI
 z4:=Ci
 v4:=BC
 t5:=Ba
 a5:=Db
 z5:=CH
 v5:=BN
 t9:=AK
 a9:=Cr
 z9:=BX
 v9:=Bq
 t46:=CB
 a46:=Ek
 z46:=DK
 v46:=CP
 t51:=CX
 a51:=Et
 z51:=DQ
 v51:=CU
 t59:=Tryz.underlying316
 a59:=Tryz.isAgg316
 z59:=Tryz.sizeOf316
 v59:=Tryz.zeroValue316
 t146:=JQ
 a146:=OP
 z146:=NM
 v146:=Kt
 g1:=by kernel_rfl }
open Go.RowKit Go.Lib in
theorem Tryz.strings_Cut(s sep:ByteArray)(m:Int)(w:Ab)(hs:s.size<4294967281)(hm:w.cell? ⟨0,0,none⟩=some (.int .i64 m)) :
  Ag Aa 282 #[.string s,.string sep] w fun e w'=>e=.returned (.tuple #[.string ⟨(Lib.cut s.data.toList sep.data.toList).1.toArray⟩,.string ⟨(Lib.cut s.data.toList sep.data.toList).2.1.toArray⟩,.bool (Lib.cut s.data.toList sep.data.toList).2.2])/\∃n,w'=w.drewN n:=Any.strings_Cut Tryz.lays145 s sep m w hs hm
def Tryz.lays138_ren:BK:=⟨fun|138=>22|195=>50|218=>51|143=>52|219=>89|217=>129|225=>130|224=>131|267=>132|266=>166|314=>167|n=>n,fun|9=>9|3=>3|4=>4|5=>5|0=>0|46=>171|146=>206|51=>36|n=>n,fun|1=>0|n=>n⟩
theorem Tryz.lays138:Go.Proofs.Lays.n138 Aa Tryz.lays138_ren:={
 mixed:=by kernel_rfl
 f138:=Tryz.func22.trans (congrArg some (by kernel_rfl))
 f143:=Tryz.func52.trans (congrArg some (by kernel_rfl))
 f195:=Tryz.func50.trans (congrArg some (by kernel_rfl))
 f217:=Tryz.func129.trans (congrArg some (by kernel_rfl))
 f218:=Tryz.func51.trans (congrArg some (by kernel_rfl))
 f219:=Tryz.func89.trans (congrArg some (by kernel_rfl))
 f224:=Tryz.func131.trans (congrArg some (by kernel_rfl))
 f225:=Tryz.func130.trans (congrArg some (by kernel_rfl))
 f266:=Tryz.func166.trans (congrArg some (by kernel_rfl))
 f267:=Tryz.func132.trans (congrArg some (by kernel_rfl))
 f314:=Tryz.func167.trans (congrArg some (by kernel_rfl))
 t0:=CG
 a0:=EM
 z0:=Eb
 v0:=CW
 t3:=AW
 a3:=Cq
 z3:=BW
 v3:=Bp
 t4:=Br
 a4:=CI
 z4:=Ci
 v4:=BC
 t5:=Ba
 a5:=Db
 z5:=CH
 v5:=BN
 t9:=AK
 a9:=Cr
 z9:=BX
 v9:=Bq
 t46:=CB
 a46:=Ek
 z46:=DK
 v46:=CP
 t51:=CX
 a51:=Et
 z51:=DQ
 v51:=CU
 t146:=JQ
 a146:=OP
 z146:=NM
 v146:=Kt
 g1:=by kernel_rfl }
open Go.RowKit Go.Lib in
theorem Tryz.strings_Count_one(s:ByteArray)(c:UInt8)(w:Ab) :
  Ag Aa 22 #[.string s,.string ⟨#[c]⟩] w fun e w'=>e=.returned (.int .i64 (Lib.countByte s.data.toList c))/\w'=w:=Any.strings_Count_one Tryz.lays138 s c w
def Tryz.lays99_ren:BK:=⟨fun|99=>195|206=>171|n=>n,fun|9=>9|4=>4|3=>3|n=>n,fun|n=>n⟩
theorem Tryz.lays99:Go.Proofs.Lays.n99 Aa Tryz.lays99_ren:={
 mixed:=by kernel_rfl
 f99:=Tryz.func195.trans (congrArg some (by kernel_rfl))
 f206:=Tryz.func171.trans (congrArg some (by kernel_rfl))
 t3:=AW
 a3:=Cq
 z3:=BW
 v3:=Bp
 t4:=Br
 a4:=CI
 z4:=Ci
 v4:=BC
 t9:=AK
 a9:=Cr
 z9:=BX
 v9:=Bq }
open Go.RowKit Go.Lib in
theorem Tryz.strings_HasPrefix(s p:ByteArray)(w:Ab) :
  Ag Aa 195 #[.string s,.string p] w fun e w'=>e=.returned (.bool (Lib.hasPrefix s.data.toList p.data.toList))/\w'=w:=Any.strings_HasPrefix Tryz.lays99 s p w
def Tryz.lays100_ren:BK:=⟨fun|100=>193|207=>146|n=>n,fun|9=>9|4=>4|3=>3|n=>n,fun|n=>n⟩
theorem Tryz.lays100:Go.Proofs.Lays.n100 Aa Tryz.lays100_ren:={
 mixed:=by kernel_rfl
 f100:=Tryz.func193.trans (congrArg some (by kernel_rfl))
 f207:=Tryz.func146.trans (congrArg some (by kernel_rfl))
 t3:=AW
 a3:=Cq
 z3:=BW
 v3:=Bp
 t4:=Br
 a4:=CI
 z4:=Ci
 v4:=BC
 t9:=AK
 a9:=Cr
 z9:=BX
 v9:=Bq }
open Go.RowKit Go.Lib in
theorem Tryz.strings_HasSuffix(s p:ByteArray)(w:Ab)(hs:s.size<=9223372036854775807) :
  Ag Aa 193 #[.string s,.string p] w fun e w'=>e=.returned (.bool (Lib.hasSuffix s.data.toList p.data.toList))/\w'=w:=Any.strings_HasSuffix Tryz.lays100 s p w hs
def Tryz.lays146_ren:BK:=⟨fun|146=>281|221=>292|268=>294|138=>22|143=>52|195=>50|197=>256|218=>51|219=>89|260=>271|217=>129|225=>130|224=>131|267=>132|266=>166|314=>167|n=>n,fun|9=>9|31=>22|3=>3|4=>4|0=>0|105=>292|21=>21|5=>5|46=>171|119=>221|139=>323|138=>322|146=>206|51=>36|n=>n,fun|1=>0|3=>9|4=>10|n=>n⟩
theorem Tryz.lays146:Go.Proofs.Lays.n146 Aa Tryz.lays146_ren:={
 mixed:=by kernel_rfl
 f138:=Tryz.func22.trans (congrArg some (by kernel_rfl))
 f143:=Tryz.func52.trans (congrArg some (by kernel_rfl))
 f146:=Tryz.func281.trans (congrArg some (by kernel_rfl))
 f195:=Tryz.func50.trans (congrArg some (by kernel_rfl))
 f197:=Tryz.func256.trans (congrArg some (by kernel_rfl))
 f217:=Tryz.func129.trans (congrArg some (by kernel_rfl))
 f218:=Tryz.func51.trans (congrArg some (by kernel_rfl))
 f219:=Tryz.func89.trans (congrArg some (by kernel_rfl))
 f221:=Tryz.func292.trans (congrArg some (by kernel_rfl))
 f224:=Tryz.func131.trans (congrArg some (by kernel_rfl))
 f225:=Tryz.func130.trans (congrArg some (by kernel_rfl))
 f260:=Tryz.func271.trans (congrArg some (by kernel_rfl))
 f266:=Tryz.func166.trans (congrArg some (by kernel_rfl))
 f267:=Tryz.func132.trans (congrArg some (by kernel_rfl))
 f268:=Tryz.func294.trans (congrArg some (by kernel_rfl))
 f314:=Tryz.func167.trans (congrArg some (by kernel_rfl))
 t0:=CG
 a0:=EM
 z0:=Eb
 v0:=CW
 t3:=AW
 a3:=Cq
 z3:=BW
 v3:=Bp
 t4:=Br
 a4:=CI
 z4:=Ci
 v4:=BC
 t5:=Ba
 a5:=Db
 z5:=CH
 v5:=BN
 t9:=AK
 a9:=Cr
 z9:=BX
 v9:=Bq
 t21:=Ms
 a21:=Tryz.isAgg21
 z21:=Tryz.sizeOf21
 v21:=Nj
 t31:=Dy
 a31:=Tryz.isAgg22
 z31:=Tryz.sizeOf22
 v31:=Tryz.zeroValue22
 t46:=CB
 a46:=Ek
 z46:=DK
 v46:=CP
 t51:=CX
 a51:=Et
 z51:=DQ
 v51:=CU
 t105:=Tryz.underlying292
 a105:=Tryz.isAgg292
 z105:=Tryz.sizeOf292
 v105:=Tryz.zeroValue292
 t119:=Tryz.underlying221
 a119:=Tryz.isAgg221
 z119:=Tryz.sizeOf221
 t138:=Tryz.underlying322
 a138:=Tryz.isAgg322
 z138:=Tryz.sizeOf322
 v138:=Tryz.zeroValue322
 t139:=Tryz.underlying323
 a139:=Tryz.isAgg323
 z139:=Tryz.sizeOf323
 v139:=Tryz.zeroValue323
 t146:=JQ
 a146:=OP
 z146:=NM
 v146:=Kt
 g1:=by kernel_rfl
 g3:=by kernel_rfl
 g4:=by kernel_rfl }
open Go.RowKit Go.Lib in
theorem Tryz.strings_Split(s sep:ByteArray)(m:Int)(w:Ab)(hs:s.size<4294967281)(hm:w.cell? ⟨0,0,none⟩=some (.int .i64 m))(h1:1<=sep.size) :
  Ag Aa 281 #[.string s,.string sep] w fun e w'=>
   e=.returned (.slice (some ⟨w.heap.size,0,none⟩) (Lib.countB s sep+1) (Lib.countB s sep+1))/\w'=w.alloc (.cells ((Lib.splitB sep 0 (Lib.countB s sep) s).map Value.string).toArray 9):=Any.strings_Split Tryz.lays146 (by kernel_rfl) s sep m w hs hm h1
def Tryz.lays157_ren:BK:=⟨fun|157=>155|229=>190|199=>191|261=>208|311=>220|312=>221|n=>n,fun|9=>9|31=>22|3=>3|5=>5|4=>4|119=>221|0=>0|40=>223|152=>233|21=>21|154=>235|51=>36|141=>237|196=>256|193=>253|198=>258|49=>33|194=>254|201=>261|226=>273|46=>171|227=>274|n=>n,fun|0=>2|6=>3|n=>n⟩
theorem Tryz.lays157:Go.Proofs.Lays.n157 Aa Tryz.lays157_ren:={
 mixed:=by kernel_rfl
 f157:=Tryz.func155.trans (congrArg some (by kernel_rfl))
 f199:=Tryz.func191.trans (congrArg some (by kernel_rfl))
 f229:=Tryz.func190.trans (congrArg some (by kernel_rfl))
 f261:=Tryz.func208.trans (congrArg some (by kernel_rfl))
 f311:=Tryz.func220.trans (congrArg some (by kernel_rfl))
 f312:=Tryz.func221.trans (congrArg some (by kernel_rfl))
 t0:=CG
 a0:=EM
 z0:=Eb
 v0:=CW
 t3:=AW
 a3:=Cq
 z3:=BW
 v3:=Bp
 t4:=Br
 a4:=CI
 z4:=Ci
 v4:=BC
 t5:=Ba
 a5:=Db
 z5:=CH
 v5:=BN
 t9:=AK
 a9:=Cr
 z9:=BX
 v9:=Bq
 t21:=Ms
 a21:=Tryz.isAgg21
 z21:=Tryz.sizeOf21
 v21:=Nj
 t31:=Dy
 a31:=Tryz.isAgg22
 z31:=Tryz.sizeOf22
 v31:=Tryz.zeroValue22
 t40:=Tryz.underlying223
 a40:=Tryz.isAgg223
 z40:=Tryz.sizeOf223
 v40:=Tryz.zeroValue223
 t46:=CB
 a46:=Ek
 z46:=DK
 v46:=CP
 t49:=Tryz.underlying33
 a49:=Tryz.isAgg33
 z49:=Tryz.sizeOf33
 v49:=Tryz.zeroValue33
 t51:=CX
 a51:=Et
 z51:=DQ
 v51:=CU
 t119:=Tryz.underlying221
 a119:=Tryz.isAgg221
 z119:=Tryz.sizeOf221
 t141:=Tryz.underlying237
 a141:=Tryz.isAgg237
 z141:=Tryz.sizeOf237
 v141:=Tryz.zeroValue237
 t152:=Tryz.underlying233
 a152:=Tryz.isAgg233
 z152:=Tryz.sizeOf233
 v152:=Tryz.zeroValue233
 t154:=Tryz.underlying235
 a154:=Tryz.isAgg235
 z154:=Tryz.sizeOf235
 v154:=Tryz.zeroValue235
 t193:=Tryz.underlying253
 a193:=Tryz.isAgg253
 z193:=Tryz.sizeOf253
 v193:=Tryz.zeroValue253
 t194:=Tryz.underlying254
 a194:=Tryz.isAgg254
 z194:=Tryz.sizeOf254
 v194:=Tryz.zeroValue254
 t196:=Tryz.underlying256
 a196:=Tryz.isAgg256
 z196:=Tryz.sizeOf256
 v196:=Tryz.zeroValue256
 t198:=Tryz.underlying258
 a198:=Tryz.isAgg258
 z198:=Tryz.sizeOf258
 v198:=Tryz.zeroValue258
 t201:=Tryz.underlying261
 a201:=Tryz.isAgg261
 z201:=Tryz.sizeOf261
 v201:=Tryz.zeroValue261
 t226:=Tryz.underlying273
 a226:=Tryz.isAgg273
 z226:=Tryz.sizeOf273
 v226:=Tryz.zeroValue273
 t227:=Tryz.underlying274
 a227:=Tryz.isAgg274
 z227:=Tryz.sizeOf274
 v227:=Tryz.zeroValue274
 g0:=by kernel_rfl
 g6:=by kernel_rfl }
open Go.RowKit Go.Lib in
theorem Tryz.strings_Fields (s : ByteArray) (w : Ab) (hs : s.size < 4294967281) (hascii : ∀ (j : Nat) b, s.data.toList[j]? = some b -> b.toNat < 128) (htab : Io Aa w "strings.asciiSpace" .u8 Lib.asciiSpaceTab) :
    Ag Aa 155 #[.string s] w fun e w' =>
      e = .returned (.slice (some ⟨w.heap.size, 0, none⟩) (Lib.fields s.data.toList).length (Lib.fields s.data.toList).length) /\ w' = w.alloc (.cells ((Lib.fields s.data.toList).map fun l => Value.string ⟨l.toArray⟩).toArray 9) := Any.strings_Fields Tryz.lays157 (by kernel_rfl) (by kernel_rfl) s w hs hascii htab
end Go.Proofs
namespace Go.Proofs.YtoppdmlmhigogaaGreatDoor
open Go.ChangeShapes Go.WideShapes Go.ChangeAt Go.RowKit Go.Sort
theorem xB : Aa.globalNamed "internal/strconv.uint64pow10" = some 1 := by kernel_rfl
theorem dJ : Aa.globalNamed "strconv.ErrSyntax" = some 7 := by kernel_rfl
theorem aV : Aa.globalNamed "strconv.ErrRange" = some 8 := by kernel_rfl
theorem gSp : Aa.globalNamed "strings.asciiSpace" = some 2 := by kernel_rfl
theorem vD : Aa.globalNamed "nomenclator/master.lengths" = some 6 := by kernel_rfl
abbrev Uz:List Int:=[604800,86400,3600,60,1]
def Bk (w : Ab) : Prop := Io Aa w "internal/strconv.uint64pow10" .u64 OI /\ Io Aa w "strings.asciiSpace" .u8 Lib.asciiSpaceTab /\ 5 < w.heap.size /\ w.cell? ⟨5, 15, none⟩ = some (.int .u8 4)
def Cc (w : Ab) : Prop := (∃ tp p, w.var? Aa "strconv.ErrSyntax" = some #[.iface tp p]) /\ (∃ tp p, w.var? Aa "strconv.ErrRange" = some #[.iface tp p]) /\ (0 < w.heap.size /\ Io Aa w "nomenclator/master.lengths" .u64 Uz) /\ ∃ m, w.cell? ⟨0, 0, none⟩ = some (.int .i64 m)
theorem QU{w w':Ab}{g o:Nat}(hb:Blw w w')(hg:g<w.heap.size):w'.cell? ⟨g,o,none⟩=w.cell? ⟨g,o,none⟩:=by
 unfold Az;rw[hb.block g hg]
theorem Bk.below{w w':Ab}(h:Bk w)(hb:Blw w w'):Bk w':=⟨Joins.tab_stays xB h.1 hb (Ad _),Joins.tab_stays gSp h.2.1 hb (Ad _),Ap h.2.2.1 hb.size,by rw[QU hb h.2.2.1];exact h.2.2.2⟩
theorem Cc.below{w w':Ab}(h:Cc w)(hb:Blw w w'):Cc w':=by
 obtain⟨⟨tp,p,h1⟩,⟨tq,q,h2⟩,⟨h3,h5⟩,m,h4⟩:=h;exact⟨⟨tp,p,Joins.var_stays dJ h1 hb (Ad _)⟩,⟨tq,q,Joins.var_stays aV h2 hb (Ad _)⟩,⟨Ap h3 hb.size,Joins.tab_stays vD h5 hb (Ad _)⟩,m,by rw[QU hb h3];exact h4⟩
theorem Ou(n:Nat)(h1:n<9223372036854775808)(w:Ab)(hL:Bk w) :
  Ag Aa 154 #[.int .i64 n] w fun e w'=>e=.returned (.string ⟨(Bv n).toArray⟩)/\Hid (Blw w w'):=by
 refine(Tryz.strconv_Itoa n (by omega) (by omega) w hL.1).mono ?_;rintro e w' ⟨rfl,k,os,rfl⟩;rw[Lib.itoa_nonneg];exact⟨rfl,Lib.below_grow _ w (Ad _) k os⟩
theorem qW(w:Ab)(T:BH)(nd:Nat)(hs:nd<=24):Holds (fun(b:UInt8)=>AL .u8 (b.toNat:Int)) (w.alloc (.cells Ln T)) w.heap.size 0 (CF nd (0:UInt8)):=fun j hj=>by
 have hj':j<nd:=by simpa using hj
 refine⟨?_,World.frozen?_alloc_new _ _ _ _⟩;rw[World.cell?_alloc_new,Lib.zeros24_at _ (by omega),getElem!_pos _ j hj];simp
theorem wM(w:Ab)(o:Obj)(dk:Array UInt8)(k:Nat):∃os,(putRow (fun(b:UInt8)=>AL .u8 (b.toNat:Int)) (w.alloc o) w.heap.size 0 dk).drewN k=grow (w.drewN k) os:=by
 rw[alloc_eq_grow];obtain⟨os',_,e⟩:=putRow_grow_new (fun(b:UInt8)=>AL .u8 (b.toNat:Int)) w #[o] w.heap.size 0 dk (Ad _);exact⟨os',by rw[e];rfl⟩
theorem jI (u : Nat) (hu64 : u < 18446744073709551616) (w : Ab) (hL : Bk w) :
    Ag Aa 110 #[.int .u64 u, .int .i64 10] w fun e w' => e = .returned (.string ⟨(Bv u).toArray⟩) /\ Hid (Blw w w') := by
  have HT : Hid (Io Aa w "internal/strconv.uint64pow10" .u64 OI) := hL.1;clear hL;by_cases hs : u < 100
  · have hs' : (u : Int) < 100 := by omega
    go_enter Tryz.func110, Tryz.ntmps110;go_wp2_with fail;refine(Tryz.internal_strconv_small u hs _).mono ?_;rintro e w' ⟨rfl, rfl⟩;go_wp2_with fail;go_ret;exact⟨rfl, Ae _ _⟩
  · have hu1 : 1 <= u := by omega
    have hs' : ¬ (u : Int) < 100 := by omega
    have hnd20 : FK u <= 20 := by have := Lib.numDigits_eq u hu1 hu64; split at this <;> omega
    have hb3 : FK u <= 23 := by omega
    have hal : Aa.arrayLen 184 = 24 := by kernel_rfl
    have hsl1 : ∀ W, (Instr.sliceAt 184 (.pointer (some ⟨w.heap.size, 0, none⟩)) none (some (.int .i64 (FK u : Int))) none).run Aa W = .ok (.slice (some ⟨w.heap.size, 0, none⟩) (FK u) 24) W := fun W => by
      rw [run_sliceAt_array_h W 184 ⟨w.heap.size, 0, none⟩ (by simp [LA, PX, GB]) .i64 (FK u : Int) (by omega) (by rw [hal]; omega)]
      go_simp
    have hH0 := qW w 184 (FK u) (by omega);have hfmt := Tryz.internal_strconv_formatBase10 w.heap.size 0 24 u (CF (FK u) 0) (w.alloc (.cells Ln 184)) hH0 (by rw [Iy]; exact Lib.lt_pow_nDigits u) hu64 (by rw [Iy]; omega);rw [Iy]at hfmt;have HF := Ac hfmt;have HH0 := Ac hH0;clear hH0 hal hfmt;go_enter Tryz.func110, Tryz.ntmps110;go_wp2_with fail;refine(Tryz.internal_strconv_numDigits u hu1 hu64 _ (Lib.tabIs_alloc HT.out _)).mono ?_;rintro e w' ⟨rfl, rfl⟩;go_wp2_with fail;refine HF.out.mono ?_;rintro e w' ⟨rfl, k, v', dk, rfl, hF⟩;have hcv : (convert 39 9 (.slice (some ⟨w.heap.size, 0, none⟩) (FK u) 24)).run Aa ((putRow (fun(b : UInt8) => AL .u8 (b.toNat : Int)) (w.alloc (.cells Ln 184)) w.heap.size 0 dk).drewN k) = .ok (.string ⟨(Bv u).toArray⟩) ((putRow (fun(b : UInt8) => AL .u8 (b.toNat : Int)) (w.alloc (.cells Ln 184)) w.heap.size 0 dk).drewN k) := by
      have h := run_convert_bytes_back (P := Aa) ((putRow (fun(b : UInt8) => AL .u8 (b.toNat : Int)) (w.alloc (.cells Ln 184)) w.heap.size 0 dk).drewN k) 39 9 5 ⟨w.heap.size, 0, none⟩ 24 (Bv u) AI Ba AK (fun j hj => by
        rw [Lib.row_is_numeral hF j hj, Lib.add_plain, World.cell?_drewN];exact cell?_putRow (fun(b : UInt8) => AL .u8 (b.toNat : Int)) _ w.heap.size 0 _ dk HH0.out (by rw [hF.size, Iy]) j (by rw [hF.size]; rw [Lib.decDigits_length]at hj; exact hj))
      rw [Lib.decDigits_length]at h;exact h
    go_wp2;go_ret;obtain⟨os, eo⟩ := wM w (.cells Ln 184) dk k;refine⟨rfl, ?_⟩;show Below _ _ _;rw [eo];exact Lib.below_grow _ w (Ad _) k os
theorem sB(u:Nat)(hu64:u<18446744073709551616)(w:Ab)(hL:Bk w) :
  Ag Aa 78 #[.int .u64 u,.int .i64 10] w fun e w'=>e=.returned (.string ⟨(Bv u).toArray⟩)/\Hid (Blw w w'):=by
 have K:Hid (Bk w):=hL;go_enter Tryz.func78,Tryz.ntmps78;go_wp2_with fail;refine(jI u hu64 w K.out).mono ?_;rintro e w' ⟨rfl,H⟩;go_wp2_with fail;go_ret;exact⟨rfl,H.out⟩
end Go.Proofs.YtoppdmlmhigogaaGreatDoor
namespace Go.Proofs.YtoppdmlmhigogaaGreatDoor
open Go.ChangeShapes Go.WideShapes Go.ChangeAt Go.RowKit
open Go.ChangeShapes Go.WideShapes Go.ChangeAt Go.RowKit Go.Sort
def KOk(s:ByteArray)(ps:GE):Prop:=s.size<4294967281/\(∀(j:Nat) b,s.data.toList[j]?=some b->b.toNat<128)/\Lib.fields s.data.toList=Md ps/\ps.length<=1000/\∀p∈ps,p.2<65536
theorem RQ(s:ByteArray)(ps:GE)(w:Ab)(hK:KOk s ps)(hL:Bk w) :
  Ag Aa 155 #[.string s] w fun e w'=>e=.returned (.slice (some ⟨w.heap.size,0,none⟩) (2*ps.length) (2*ps.length))/\
   Hid (Blw w w'/\∀j p,ps[j]?=some p->w'.cell? ⟨w.heap.size,2*j,none⟩=some (.string ⟨p.1.toArray⟩)/\w'.cell? ⟨w.heap.size,2*j+1,none⟩=some (.string ⟨(Bv p.2).toArray⟩)):=by
 refine(Tryz.strings_Fields s w hK.1 hK.2.1 hL.2.1).mono ?_;rintro e w' ⟨rfl,rfl⟩;rw[hK.2.2.1,aZ];refine⟨rfl,(Ae _ _).alloc (Ad _) _,fun j p hp=>?_⟩;obtain⟨h1,h2⟩:=Wy ps j p hp;constructor
 ·unfold Az;rw[Au];simp[h1]
 ·unfold Az;rw[Au];simp[h2]
theorem xT(w:Ab)(hL:Bk w):Ag Aa 202 #[.int .u64 16] w fun e w'=>e=.returned (.int .i64 4)/\w'=w:=by
 have hc:=hL.2.2.2;have hA:bits .and .u64 16 (LL.wrap (-16))=16:=by decide +kernel
 have hW:LL.wrap 4573923408821661840=4573923408821661840:=by decide +kernel
 clear hL;go_enter Mr,Tryz.ntmps202;go_wp2;go_ret;exact⟨rfl,rfl⟩
theorem yM(w:Ab)(hL:Bk w):Ag Aa 181 #[.int .u64 16] w fun e w'=>e=.returned (.int .i64 4)/\w'=w:=by
 have K:Hid (Bk w):=hL;clear hL;go_enter Mq,Tryz.ntmps181;go_wp2_with fail;refine(xT w K.out).mono ?_;rintro e w' ⟨rfl,rfl⟩;go_wp2_with fail;go_ret;exact⟨rfl,rfl⟩
theorem wL(w:Ab):Ag Aa 180 #[.int .i64 16] w fun e w'=>e=.returned (.bool true)/\w'=w:=by
 go_enter Mp,Tryz.ntmps180;go_wp2;go_ret;exact⟨rfl,rfl⟩
def fbx(ds:List Int):List Ao:=AM (65 - ds.length) (.int .u8 0)++ds.map (AL .u8)
theorem Zu(ds:List Int)(h:ds.length<=65):(fbx ds).length=65:=by simp[fbx];omega
theorem Zj(ds:List Int)(z:Int)(h:ds.length<65):(fbx ds).set (64 - ds.length) (.int .u8 z)=fbx (z::ds):=by
 unfold fbx;rw[List.set_append_left _ _ (by simp;omega)];rw[show 65 - ds.length=(64 - ds.length)+1 by omega,List.replicate_succ',List.set_append_right _ _ (by simp)];simp[show 65 - (ds.length+1)=64 - ds.length by omega]
theorem vJ(ds:List Int)(j:Nat)(h:ds.length<=65)(hj:j<ds.length):(fbx ds)[65 - ds.length+j]?=some (.int .u8 (ds.getD j 0)):=by
 unfold fbx;rw[List.getElem?_append_right (by simp),LI,show 65 - ds.length+j - (65 - ds.length)=j by omega,List.getElem?_map,Am,AF hj]
 rfl
theorem pQ(w:Ab):Co (w.alloc (.cells Ku 215)) w.heap.size 215 (fbx []):=by
 have e:Ku=(fbx []).toArray:=by kernel_rfl
 rw[e];exact Au _ _
theorem eI(d:Nat)(h:d<({ data:=#[48,49,50,51,52,53,54,55,56,57,97,98,99,100,101,102,103,104,105,106,107,108,109,110,111,112,113,114,115,116,117,118,119,120,121,122] }:ByteArray).size)(h1:d<16):((({ data:=#[48,49,50,51,52,53,54,55,56,57,97,98,99,100,101,102,103,104,105,106,107,108,109,110,111,112,113,114,115,116,117,118,119,120,121,122] }:ByteArray)[d]'h).toNat:Int)=xhd d:=by
 obtain rfl|rfl|rfl|rfl|rfl|rfl|rfl|rfl|rfl|rfl|rfl|rfl|rfl|rfl|rfl|rfl:=(by omega:d=0∨d=1∨d=2∨d=3∨d=4∨d=5∨d=6∨d=7∨d=8∨d=9∨d=10∨d=11∨d=12∨d=13∨d=14∨d=15) <;> kernel_rfl
theorem yF(g k:Nat)(hk:k<=64)(W:Ab):(Instr.sliceAt 215 (.pointer (some ⟨g,0,none⟩)) (some (.int .i64 (k:Int))) none none).run Aa W=.ok (.slice (some ⟨g,k,none⟩) (65 - k) (65 - k)) W:=by
 have hal:Aa.arrayLen 215=65:=by kernel_rfl
 rw[run_sliceAt_array_l W 215 ⟨g,0,none⟩ (by simp[LA,PX,GC]) .i64 (k:Int) (by omega) (by rw[hal];omega)]
 go_simp
 omega
theorem p16(n v:Nat)(hv:1<=v)(h:v*16 ^ n<65536):n<4:=by
 by_cases hn:n<4
 ·exact hn
 ·have h1:(16:Nat) ^ 4<=16 ^ n:=Nat.pow_le_pow_right (by omega) (by omega);have h2:1*16 ^ n<=v*16 ^ n:=Nat.mul_le_mul_right _ hv;omega
theorem uX(u:Nat)(h:u<65536):bits .and .u64 (u:Int) 15=((u % 16:Nat):Int):=by
 have:=u64_and (u:Int) 15 (by omega) (by omega) (by omega) (by omega);rw[this];simp;have:u &&& 15=u % 16:=Nat.and_two_pow_sub_one_eq_mod u 4;rw[this];omega
theorem uU(u:Nat)(hu:u<65536)(w:Ab)(hL:Bk w) :
  Ag Aa 150 #[.slice none 0 0,.int .u64 u,.int .i64 16,.bool false,.bool false] w fun e w'=>e=.returned (.tuple #[.slice none 0 0,.string (lb (Dn u))])/\Hid (Blw w w'):=by
 have HL:Hid (Bk w):=hL;clear hL;have HU:Hid (u<65536):=hu;go_enter Mo,Tryz.ntmps150;go_wp2_with fail;have H0:=Ac (pQ w);have HB0:Hid (Blw w (w.alloc (.cells Ku 215))):=(Ae _ _).alloc (Ad _) _;generalize (w.alloc (.cells Ku 215))=wa at*;refine(wL _).mono ?_;rintro e w' ⟨rfl,hw⟩;subst w';go_wp2_with fail;refine(yM _ (HL.out.below HB0.out)).mono ?_;rintro e w' ⟨rfl,hw⟩;subst w';go_wp2_with fail;go_loopw [1,13] (fun x y wr=>∃(v k:Nat) (ds:List Int),x=.int .u64 v/\y=.int .i64 ((k:Int)+1)/\k+ds.length=64/\v<65536/\Hid (Dn u=Dn v++ds/\(∀z∈ds,0<=z/\z<=255))/\v*16 ^ ds.length<65536/\Hid (Co wr w.heap.size 215 (fbx ds)/\Blw w wr)) (fun x _ _=>(intOf x).toNat)
 case atStart=>exact⟨u,64,[],rfl,rfl,rfl,HU.out,⟨by simp,by simp⟩,by simpa using HU.out,H0.out,HB0.out⟩
 case round=>
  obtain⟨v,k,ds,rfl,rfl,hkd,hv,HX,hds,HW⟩:=hrel;clear H0 HB0;have hk:k<(fbx ds).length:=by rw[Zu _ (by omega)];omega
  have hc:=HW.out.1.cell k hk;have hfz:=HW.out.1.frozen k;generalize (fbx ds)[k]=c0 at hc;by_cases h16:16<=v
  ·have h16':(16:Int)<=(v:Int):=by omega
   have hA:=uX v hv;have hl4:=p16 ds.length v (by omega) hds;have HZ:Hid (0<=xhd (v % 16)/\xhd (v % 16)<=255):=by show _/\_;unfold xhd;split <;> omega
   have HD:Hid (Dn v=Dn (v / 16)++[xhd (v % 16)]):=by show _=_;rw[Dn,dif_neg (by omega)]
   have hk64:(k:Int)<65:=by omega
   go_wp2_with fail;rw[eI (v % 16) (by show _<36;omega) (by omega)];generalize xhd (v % 16)=z at*;have hsh:16 ^ (ds.length+1)=16*16 ^ ds.length:=by rw[Nat.pow_succ,Nat.mul_comm]
   refine⟨⟨v / 16,k - 1,z::ds,by go_num,by congr 1;omega,by simp;omega,by omega,⟨?_,?_⟩,?_,?_,?_⟩,by simp[intOf];omega⟩
   ·rw[HX.out.1,HD.out];simp
   ·intro y hy;obtain rfl|hy:=Ax.1 hy
    ·exact HZ.out
    ·exact HX.out.2 y hy
   ·rw[AP,hsh,<- Nat.mul_assoc];have:v / 16*16<=v:=Nat.div_mul_le_self v 16;exact Nat.lt_of_le_of_lt (Nat.mul_le_mul_right _ this) hds
   ·have:=HW.out.1.stored k (.int .u8 z);rw[show k=64 - ds.length by omega,Zj ds z (by omega)]at this;rw[show k=64 - ds.length by omega];exact this
   ·exact HW.out.2.setCell (show w.heap.size<=(⟨w.heap.size,k,none⟩:Addr).block from Ad _) _
  ·have h16':¬ (16:Int)<=(v:Int):=by omega
   have hk64:(k:Int)<65:=by omega
   have hsl:=yF w.heap.size k (by omega);have HZ:Hid (0<=xhd v/\xhd v<=255):=by show _/\_;unfold xhd;split <;> omega
   have HD:Hid (Dn v=[xhd v]):=by show _=_;rw[Dn,dif_pos (by omega)]
   have hzz:=eI v (by show _<36;omega) (by omega);generalize xhd v=z at*;have hb2:Co (wr.setCell ⟨w.heap.size,k,none⟩ (.int .u8 z)) w.heap.size 215 (fbx (z::ds)):=by
    have:=HW.out.1.stored k (.int .u8 z);rw[show k=64 - ds.length by omega,Zj ds z (by omega)]at this;rw[show k=64 - ds.length by omega];exact this
   have HL2:Hid (Dn u=z::ds/\∀y∈z::ds,0<=y/\y<=255):=by
    refine⟨by rw[HX.out.1,HD.out];rfl,fun y hy=>?_⟩;obtain rfl|hy:=Ax.1 hy
    ·exact HZ.out
    ·exact HX.out.2 y hy
   have hcv:(convert 39 9 (.slice (some ⟨w.heap.size,k,none⟩) (65 - k) (65 - k))).run Aa (wr.setCell ⟨w.heap.size,k,none⟩ (.int .u8 z))=.ok (.string (lb (Dn u))) (wr.setCell ⟨w.heap.size,k,none⟩ (.int .u8 z)):=by
    have h:=run_convert_bytes_back (P:=Aa) (wr.setCell ⟨w.heap.size,k,none⟩ (.int .u8 z)) 39 9 5 ⟨w.heap.size,k,none⟩ (65 - k) (txt (z::ds)) AI Ba AK (fun j hj=>by
     rw[II]at hj;rw[Lib.add_plain];have hjl:k+j<(fbx (z::ds)).length:=by rw[Zu _ (by simp;omega)];simp at hj;omega
     have h1:=hb2.cell (k+j) hjl;have h2:=vJ (z::ds) j (by simp;omega) hj;rw[show 65 - (z::ds).length+j=k+j by simp;omega,AF hjl]at h2;injection h2 with h2
     rw[h1,h2];have hm:(z::ds).getD j 0∈z::ds:=by rw[Am,AF hj];exact AU hj
     have hbd:=HL2.out.2 _ hm;have e:(txt (z::ds))[j]'(by rw[II];exact hj)=CS ((z::ds).getD j 0).toNat:=by
      simp only[txt,List.getElem_map,Am,AF hj,Option.getD_some]
     rw[e];generalize (z::ds).getD j 0=y at hbd;congr 2
     simp;omega)
    rw[II,show(z::ds).length=65 - k by simp;omega]at h;rw[HL2.out.1];exact h
   have HCV:=Ac hcv;have HB9:Hid (Blw w (wr.setCell ⟨w.heap.size,k,none⟩ (.int .u8 z))):=HW.out.2.setCell (show w.heap.size<=(⟨w.heap.size,k,none⟩:Addr).block from Ad _) _;clear hcv hb2;have hcv:=HCV.out;go_wp2_with fail;go_ret2;exact⟨rfl,HB9.out⟩
theorem iA(u:Nat)(hu:u<65536)(w:Ab)(hL:Bk w) :
  Ag Aa 110 #[.int .u64 u,.int .i64 16] w fun e w'=>e=.returned (.string (lb (Dn u)))/\Hid (Blw w w'):=by
 have K:Hid (Bk w):=hL;clear hL;go_enter Tryz.func110,Tryz.ntmps110;go_wp2_with fail;refine(uU u hu w K.out).mono ?_;rintro e w' ⟨rfl,H⟩;go_wp2_with fail;go_ret;exact⟨rfl,H.out⟩
theorem wC(u:Nat)(hu:u<65536)(w:Ab)(hL:Bk w) :
  Ag Aa 78 #[.int .u64 u,.int .i64 16] w fun e w'=>e=.returned (.string (lb (Dn u)))/\Hid (Blw w w'):=by
 have K:Hid (Bk w):=hL;clear hL;go_enter Tryz.func78,Tryz.ntmps78;go_wp2_with fail;refine(iA u hu w K.out).mono ?_;rintro e w' ⟨rfl,H⟩;go_wp2_with fail;go_ret;exact⟨rfl,H.out⟩
end Go.Proofs.YtoppdmlmhigogaaGreatDoor
namespace Go.Proofs.YtoppdmlmhigogaaGreatDoor
open Go.ChangeShapes Go.WideShapes Go.ChangeAt Go.RowKit Go.Sort
theorem UA:∀c:Fin 256,(65<=c.val/\c.val<=90->c.val ||| 32=c.val+32)/\(97<=c.val/\c.val<=122->c.val ||| 32=c.val)/\(¬ (65<=c.val/\c.val<=90)->¬ (97<=c.val/\c.val<=122)->(c.val ||| 32<97∨122<c.val ||| 32))/\c.val ||| 32<256:=by decide +kernel
theorem Zo(c:Nat)(hc:c<256)(w:Ab):Ag Aa 249 #[.int .u8 (c:Int)] w fun e w'=>e=.returned (.int .u8 ((c ||| 32:Nat):Int))/\w'=w:=by
 refine(Tryz.internal_strconv_lower (c:Int) w).mono ?_;rintro e w' ⟨rfl,rfl⟩;have:=u8_or (c:Int) 32 (by omega) (by omega) (by omega) (by omega);rw[this];exact⟨rfl,rfl⟩
def hx1(v:Nat):Option Nat:=if 97<=v/\v<=102 then some (v - 87) else none
theorem mZ(c:Nat)(hc:c<256)(hd:¬ (48<=c/\c<=57)):xhv (c:Int)=hx1 (c ||| 32):=by
 obtain⟨h1,h2,h3,h4⟩:=UA ⟨c,hc⟩;simp only at h1 h2 h3 h4;unfold xhv hx1;rw[if_neg (by omega)];by_cases ha:97<=c/\c<=122
 ·rw[h2 ha];by_cases hb:c<=102
  ·rw[if_pos (by omega),if_pos (by omega)];congr 1;omega
  ·rw[if_neg (by omega),if_neg (by omega),if_neg (by omega)]
 ·by_cases hb:65<=c/\c<=90
  ·rw[h1 hb,if_neg (by omega)];by_cases hb:c<=70
   ·rw[if_pos (by omega),if_pos (by omega)];congr 1;omega
   ·rw[if_neg (by omega),if_neg (by omega)]
  ·have:=h3 hb ha;rw[if_neg (by omega),if_neg (by omega),if_neg (by omega)]
theorem ZJ(t:ByteArray)(hne:t.size≠0)(hmax:t.size<=9223372036854775806)(w:Ab) :
  Ag Aa 234 #[.string t,.int .i64 16,.int .i64 16] w fun e w'=>e=.returned (Lib.uintTupleM 287 65535 (puX 0 t.data.toList))/\w'=Eu w 5 t:=by
 have hemp:t.toList.isEmpty=false:=by
  rw[<- decide_eq_emptyBytes];exact decide_eq_false (fun h=>hne (by rw[h];rfl))
 have hcv:=Lib.run_convert_string_bytes (P:=Aa) w 9 39 5 t (u:=.string) AK AI Ba;have hB:∀j,j<t.size->(Eu w 5 t).cell? ⟨w.heap.size,j,none⟩=some (.int .u8 (t.data.toList.getD j 0).toNat):=fun j hj=>Lib.bytesWorld_cell w 5 t j hj
 obtain⟨W1,hW1⟩:∃W1,W1=Eu w 5 t:=⟨_,rfl⟩;rw[<- hW1]at hcv hB ⊢;clear hW1;obtain⟨bs,hL⟩:∃bs,bs=t.data.toList:=⟨_,rfl⟩;have hLn:bs.length=t.size:=by rw[hL,Lib.size_eq]
 rw[<- hL]at hB ⊢;clear hL;have hmv:LL.wrap (LL.wrap 65536 - 1)=65535:=by
  rw[MN,MN];decide
 go_enter NR,Tryz.ntmps234;go_wp2
 go_loop [12,13,101] (fun vu vn vi=>∃(k acc:Nat) (a:Int),vu=.bool false/\vn=.int .u64 a/\vi=.int .i64 k/\k<=t.size/\Hid (a=(acc:Int)/\acc<=65535/\puX 0 bs=puX acc (bs.drop k)))
  (fun _ _ vi=>t.size - (intOf vi).toNat)
 case atStart=>exact⟨0,0,0,rfl,rfl,rfl,by omega,rfl,by omega,rfl⟩
 case round=>
  obtain⟨k,acc,a,rfl,rfl,rfl,hk,hh⟩:=hrel;obtain⟨ha,hacc,hdec⟩:=hh.out;clear hh;have a0:0<=a:=by omega
  have a1:a<=65535:=by omega
  by_cases hkn:k<t.size
  ·have hc:=hB k hkn;have hdrop:bs.drop k=bs[k]'(by omega)::bs.drop (k+1):=El (by omega);have hget:bs.getD k 0=bs[k]'(by omega):=by simp[List.getD,AF (show k<bs.length by omega)]
   rw[hdrop]at hdec;rw[hget]at hc;generalize bs[k]'(by omega)=c at hc hdec;have hc256:c.toNat<256:=c.toNat_lt;clear hB hdrop hget;simp only[puX]at hdec;generalize hR:bs.drop (k+1)=R at hdec;by_cases hdig:48<=c.toNat/\c.toNat<=57
   ·have hxv:xhv (c.toNat:Int)=some (c.toNat - 48):=by
     unfold xhv;rw[if_pos (by omega)];congr 1;omega
    rw[hxv]at hdec;simp only at hdec;obtain⟨hd0,hd1⟩:=hdig;clear hxv;by_cases hov:65535<acc*16+(c.toNat - 48)
    ·rw[if_pos hov]at hdec;have iov:65535<a*16+((c.toNat:Int) - 48):=by omega
     clear hacc hov ha;go_wp2;go_ret2;exact⟨rfl,rfl⟩
    ·rw[if_neg hov]at hdec;have HN:Hid (a*16+((c.toNat:Int) - 48)=((acc*16+(c.toNat - 48):Nat):Int)/\acc*16+(c.toNat - 48)<=65535/\puX 0 bs=puX (acc*16+(c.toNat - 48)) (bs.drop (k+1))):=Ac ⟨by omega,by omega,by rw[hR];exact hdec⟩;have iov:a*16+((c.toNat:Int) - 48)<=65535:=by omega
     clear hacc hov hdec ha;go_wp2;refine⟨⟨k+1,acc*16+(c.toNat - 48),a*16+((c.toNat:Int) - 48),rfl,(by first|rfl|(congr 1;omega)),(by first|rfl|(congr 1;omega)),by omega,HN⟩,by simp[intOf];omega⟩
   ·have KL:=Ac (Zo c.toNat hc256);rw[mZ c.toNat hc256 hdig]at hdec;have hv256:=(UA ⟨c.toNat,hc256⟩).2.2.2;have h95:c.toNat=95->c.toNat ||| 32=127:=by intro h;rw[h];rfl
    simp only at hv256;generalize c.toNat ||| 32=v at*
    by_cases h97:97<=v
    ·by_cases h122:v<=122
     ·have hn95:¬ (c.toNat:Int)=95:=by intro h;have:=h95 (by omega);omega
      have i97:(97:Int)<=(v:Int):=by omega
      have i122:(v:Int)<=122:=by omega
      by_cases h102:v<=102
      ·have hxv:hx1 v=some (v - 87):=by unfold hx1;rw[if_pos ⟨h97,h102⟩]
       rw[hxv]at hdec;simp only at hdec;clear hxv;have i102:(v:Int)<=102:=by omega
       by_cases hov:65535<acc*16+(v - 87)
       ·rw[if_pos hov]at hdec;have iov:65535<a*16+((v:Int) - 97+10):=by omega
        clear hacc hov ha h95;obtain hq|hq:=(by omega:(c.toNat:Int)<48∨57<(c.toNat:Int))
        all_goals
         go_wp2_with (go_at_call 249;refine(KL.out _).mono ?_;rintro e w' ⟨rfl,hw⟩;subst w');go_ret2;first|exact⟨rfl,rfl⟩|exact⟨by rw[hdec];rfl,rfl⟩
       ·rw[if_neg hov]at hdec;have HN:Hid (a*16+((v:Int) - 97+10)=((acc*16+(v - 87):Nat):Int)/\acc*16+(v - 87)<=65535/\puX 0 bs=puX (acc*16+(v - 87)) (bs.drop (k+1))):=Ac ⟨by omega,by omega,by rw[hR];exact hdec⟩;have iov:a*16+((v:Int) - 97+10)<=65535:=by omega
        clear hacc hov hdec ha h95;obtain hq|hq:=(by omega:(c.toNat:Int)<48∨57<(c.toNat:Int))
        all_goals
         go_wp2_with (go_at_call 249;refine(KL.out _).mono ?_;rintro e w' ⟨rfl,hw⟩;subst w');refine⟨⟨k+1,acc*16+(v - 87),a*16+((v:Int) - 97+10),rfl,(by first|rfl|(congr 1;omega)),(by first|rfl|(congr 1;omega)),by omega,HN⟩,by simp[intOf];omega⟩
      ·have hxv:hx1 v=none:=by unfold hx1;rw[if_neg (by omega)]
       rw[hxv]at hdec;simp only at hdec;have i102:102<(v:Int):=by omega
       clear hacc ha h95 hxv;obtain hq|hq:=(by omega:(c.toNat:Int)<48∨57<(c.toNat:Int))
       all_goals
        go_wp2_with (go_at_call 249;refine(KL.out _).mono ?_;rintro e w' ⟨rfl,hw⟩;subst w');go_ret2;first|exact⟨rfl,rfl⟩|exact⟨by rw[hdec];rfl,rfl⟩
     ·have hxv:hx1 v=none:=by unfold hx1;rw[if_neg (by omega)]
      rw[hxv]at hdec;simp only at hdec;have i97:(97:Int)<=(v:Int):=by omega
      have i122:122<(v:Int):=by omega
      clear hacc ha h95 hxv;obtain hq|⟨hq,hq2⟩|hq|hq:=(by omega:(c.toNat:Int)<48∨(57<(c.toNat:Int)/\(c.toNat:Int)<95)∨95<(c.toNat:Int)∨c.toNat=95)
      case inr.inr.inr=>
       have hq:(c.toNat:Int)=95:=by omega
       rw[hq]at hc KL;go_wp2_with (go_at_call 249;refine(KL.out _).mono ?_;rintro e w' ⟨rfl,hw⟩;subst w');go_ret2;first|exact⟨rfl,rfl⟩|exact⟨by rw[hdec];rfl,rfl⟩
      all_goals
       go_wp2_with (go_at_call 249;refine(KL.out _).mono ?_;rintro e w' ⟨rfl,hw⟩;subst w');go_ret2;first|exact⟨rfl,rfl⟩|exact⟨by rw[hdec];rfl,rfl⟩
    ·have hxv:hx1 v=none:=by unfold hx1;rw[if_neg (by omega)]
     rw[hxv]at hdec;simp only at hdec;have hn95:¬ (c.toNat:Int)=95:=by intro h;have:=h95 (by omega);omega
     have i97:(v:Int)<97:=by omega
     clear hacc ha h95 hxv;obtain hq|hq:=(by omega:(c.toNat:Int)<48∨57<(c.toNat:Int))
     all_goals
      go_wp2_with (go_at_call 249;refine(KL.out _).mono ?_;rintro e w' ⟨rfl,hw⟩;subst w');go_ret2;first|exact⟨rfl,rfl⟩|exact⟨by rw[hdec];rfl,rfl⟩
  ·have hkk:k=t.size:=by omega
   subst hkk;have hF:puX acc (bs.drop t.size)=.ok acc:=by rw[DH (by omega)];rfl
   rw[hF]at hdec;subst ha;clear hacc hF a0 a1;go_wp2;go_ret2;first|exact⟨rfl,rfl⟩|exact⟨by rw[hdec];rfl,rfl⟩
theorem CR(s:ByteArray):Ai s=bi s.data.toList:=rfl
theorem QY{w w':Ab}{s:ByteArray}(h:w'=w∨w'=Eu w 5 s):Blw w w':=by
 obtain rfl|rfl:=h
 ·exact Ae _ _
 ·exact Hq _ _ _
theorem YE(B:Nat)(hB:B=8∨B=32)(s:ByteArray)(hs:s.size<=281474976710656)(u:Nat)(h:Bn B s.data.toList=.ok u)(w:Ab) :
  Ag Aa 222 #[.string s,.int .i64 10,.int .i64 (B:Int)] w fun e w'=>e=.returned (.tuple #[.int .u64 u,.nilIface])/\Hid (Blw w w'):=by
 obtain rfl|rfl:=hB
 ·refine(Tryz.strconv_ParseUint_10_at8_ok s (by omega) u h w).mono ?_;rintro e w' ⟨rfl,hw⟩;exact⟨rfl,QY hw⟩
 ·refine(Tryz.strconv_ParseUint_10_at32_ok s (by omega) u h w).mono ?_;rintro e w' ⟨rfl,hw⟩;exact⟨rfl,QY hw⟩
theorem UT(B:Nat)(hB:B=8∨B=32)(s:ByteArray)(hs:s.size<=281474976710656)(h:∀u,Bn B s.data.toList≠.ok u)(w:Ab)(hE:Cc w) :
  Ag Aa 222 #[.string s,.int .i64 10,.int .i64 (B:Int)] w fun e w'=>∃x N,e=.returned (.tuple #[.int .u64 x,.iface 289 (.pointer (some ⟨N,0,none⟩))])/\(0<=x/\x<=4294967295)/\Hid (Blw w w'):=by
 obtain⟨⟨tp,p,h1⟩,⟨tq,q,h2⟩,_,_⟩:=hE;cases hr:Bn B s.data.toList with
 |ok u=>exact absurd hr (h u)
 |«syntax»=>
  obtain rfl|rfl:=hB
  ·refine(Tryz.strconv_ParseUint_10_at8_syntax_var s hs hr tp p w h1).mono ?_;rintro e w' ⟨N,rfl,_,_,hb⟩;exact⟨_,N,rfl,by omega,hb⟩
  ·refine(Tryz.strconv_ParseUint_10_at32_syntax_var s hs hr tp p w h1).mono ?_;rintro e w' ⟨N,rfl,_,_,hb⟩;exact⟨_,N,rfl,by omega,hb⟩
 |range=>
  obtain rfl|rfl:=hB
  ·refine(Tryz.strconv_ParseUint_10_at8_range_var s hs hr tq q w h2).mono ?_;rintro e w' ⟨N,rfl,_,_,hb⟩;exact⟨_,N,rfl,by omega,hb⟩
  ·refine(Tryz.strconv_ParseUint_10_at32_range_var s hs hr tq q w h2).mono ?_;rintro e w' ⟨N,rfl,_,_,hb⟩;exact⟨_,N,rfl,by omega,hb⟩
theorem Yi(w:Ab):Ag Aa 234 #[.string ⟨#[]⟩,.int .i64 16,.int .i64 16] w fun e w'=>e=.returned (.tuple #[.int .u64 0,.iface 287 (.int .i64 2)])/\w'=w:=by
 go_enter NR,Tryz.ntmps234;go_wp2;go_ret2;exact⟨rfl,rfl⟩
theorem Of{s:ByteArray}(h:s.data.toList≠[]):s.size≠0:=by
 intro e;apply h
 have:s.data.toList.length=s.size:=rfl;exact Aq.1 (by omega)
theorem OV{s:ByteArray}(h:s.data.toList=[]):s=⟨#[]⟩:=by
 apply ByteArray.ext
 simpa using h
theorem oH(s:ByteArray)(hs:s.size<=281474976710656)(u:Nat)(h:puH s.data.toList=.ok u)(w:Ab) :
  Ag Aa 222 #[.string s,.int .i64 16,.int .i64 16] w fun e w'=>e=.returned (.tuple #[.int .u64 u,.nilIface])/\Hid (Blw w w'):=by
 unfold puH at h;split at h
 ·cases h
 ·next h0=>
  have K:=Ac (ZJ s (Of h0) (by omega) w);rw[h]at K;go_enter Ks,MO;go_wp2_with fail;refine K.out.mono ?_;rintro e w' ⟨rfl,hw⟩;have HB:Hid (Blw w w'):=QY (.inr hw);clear hw;simp only[Lib.uintTupleM];go_wp2_with fail;go_ret2;exact⟨rfl,HB.out⟩
theorem nJ(s:ByteArray)(hs:s.size<=281474976710656)(h:∀u,puH s.data.toList≠.ok u)(w:Ab)(hE:Cc w) :
  Ag Aa 222 #[.string s,.int .i64 16,.int .i64 16] w fun e w'=>∃x N,e=.returned (.tuple #[.int .u64 x,.iface 289 (.pointer (some ⟨N,0,none⟩))])/\Hid (Blw w w'):=by
 have HE:Hid (Cc w):=hE;have K:(∃W1 x y,(y=1∨y=2)/\Ag Aa 234 #[.string s,.int .i64 16,.int .i64 16] w fun e w'=>e=.returned (.tuple #[.int .u64 x,.iface 287 (.int .i64 y)])/\w'=W1/\Blw w W1):=by
  by_cases h0:s.data.toList=[]
  ·have e:=OV h0;subst e;exact⟨w,0,2,.inr rfl,(Yi w).mono fun e w' ⟨h1,h2⟩=>⟨h1,h2,Ae _ _⟩⟩
  ·have K:=ZJ s (Of h0) (by omega) w;have hp:puH s.data.toList=puX 0 s.data.toList:=by unfold puH;rw[if_neg h0]
   rw[hp]at h;cases hr:puX 0 s.data.toList with
   |ok u=>exact absurd hr (h u)
   |«syntax»=>rw[hr]at K;exact⟨_,0,2,.inr rfl,K.mono fun e w' ⟨h1,h2⟩=>⟨h1,h2,Hq _ _ _⟩⟩
   |range=>rw[hr]at K;exact⟨_,65535,1,.inl rfl,K.mono fun e w' ⟨h1,h2⟩=>⟨h1,h2,Hq _ _ _⟩⟩
 clear hE h;obtain⟨W1,x,y,hy,K⟩:=K;have K:=Ac K;obtain rfl|rfl:=hy
 focus
  go_enter Ks,MO;go_wp2_with fail;refine K.out.mono ?_;rintro e w' ⟨rfl,hw,hb⟩;subst w';have HB:Hid (Blw w W1):=hb;have HE1:=Ac (HE.out.below hb);clear hb HE;obtain⟨⟨tp,p,h1⟩,⟨tq,q,h2⟩,_,_⟩:=HE1.out;have g1:W1.cell? ⟨7,0,none⟩=some (.iface tp p):=by have h0:=Fu dJ h1 0;simpa using h0
  have g2:W1.cell? ⟨8,0,none⟩=some (.iface tq q):=by have h0:=Fu aV h2 0;simpa using h0
  have G1:=Ac g1;have G2:=Ac g2;clear g1 g2 h1 h2;go_wp2_with fail;refine(Tryz.strconv_toError_range _ s 16 16 (.iface tq q) W1 hs G2.out (Or.inr ⟨tq,q,rfl⟩)).mono ?_
 rotate_left
 focus
  go_enter Ks,MO;go_wp2_with fail;refine K.out.mono ?_;rintro e w' ⟨rfl,hw,hb⟩;subst w';have HB:Hid (Blw w W1):=hb;have HE1:=Ac (HE.out.below hb);clear hb HE;obtain⟨⟨tp,p,h1⟩,⟨tq,q,h2⟩,_,_⟩:=HE1.out;have g1:W1.cell? ⟨7,0,none⟩=some (.iface tp p):=by have h0:=Fu dJ h1 0;simpa using h0
  have g2:W1.cell? ⟨8,0,none⟩=some (.iface tq q):=by have h0:=Fu aV h2 0;simpa using h0
  have G1:=Ac g1;have G2:=Ac g2;clear g1 g2 h1 h2;go_wp2_with fail;refine(Tryz.strconv_toError_syntax _ s 16 16 (.iface tp p) W1 hs G1.out (Or.inr ⟨tp,p,rfl⟩)).mono ?_
 rotate_left
 all_goals
  rintro e w' ⟨N,rfl,_,_,hb⟩;have HB2:Hid (Blw w w'):=HB.out.trans (hb.mono HB.out.size);clear hb;go_wp2_with fail;go_ret2;exact⟨_,N,rfl,HB2.out⟩
theorem Kz(s:ByteArray)(h:0<s.size):(Ai s).head?=some (s[0].toNat:Int):=by
 have h1:=Ef s 0 h;have h2:0<(Ai s).length:=by rw[Av];exact h
 rw[Am,AF h2]at h1;rw[List.head?_eq_getElem?,AF h2,<- h1]
 rfl
theorem YA{B:Nat}(hB:B=8∨B=32):2 ^ B - 1<1844674407370955162/\2 ^ B<=4294967296:=by obtain rfl|rfl:=hB <;> decide
theorem YX(B:Nat)(hB:B=8∨B=32)(s:ByteArray)(hs:s.size<=281474976710656)(n:Nat)(h:FN (Ai s) (2 ^ B)=some n)(w:Ab) :
  Ag Aa 226 #[.string s,.int .i64 (B:Int)] w fun e w'=>e=.returned (.tuple #[.int .u32 (n:Int),.bool true])/\Hid (Blw w w'):=by
 have hn:n<4294967296:=by have:=(Fy h).2;have:=(YA hB).2;omega
 have hz:¬ (1<s.data.toList.length/\(bi s.data.toList).head?=some 48):=by
  rintro⟨h1,h2⟩;rw[Tu (Ai s) (2 ^ B) (by rw[CR,OW];exact h1) h2]at h;cases h
 have K:=Ac (fun W=>YE B hB s hs n ((Qt B (YA hB).1 _ n hz).2 h) W);clear h;by_cases h1:1<s.size
 focus
  have h1':(1:Int)<(s.size:Int):=by omega
  have h0':(0:Int)<(s.size:Int):=by omega
  have h48:((s[0].toNat:Int) == 48)=false:=by
   rw[beq_eq_false_iff_ne];intro e;exact hz ⟨h1,by rw[<- CR,Kz s (by omega),e]⟩
 rotate_left
 focus
  have h1':¬ (1:Int)<(s.size:Int):=by omega
 rotate_left
 all_goals
  clear hz;go_enter Tryz.func226,Tryz.ntmps226;go_wp2_with fail;refine(K.out _).mono ?_;rintro e w' ⟨rfl,H⟩;go_wp2_with fail;go_quiet (fail);go_wp2_with fail;go_ret2;exact⟨rfl,H.out.trans ⟨rfl,rfl,rfl,Ad _,fun _ _=>rfl⟩⟩
theorem uP(B:Nat)(hB:B=8∨B=32)(s:ByteArray)(hs:s.size<=281474976710656)(h:FN (Ai s) (2 ^ B)=none)(w:Ab)(hE:Cc w) :
  Ag Aa 226 #[.string s,.int .i64 (B:Int)] w fun e w'=>∃x,e=.returned (.tuple #[.int .u32 x,.bool false])/\Hid (Blw w w'):=by
 by_cases hz:1<s.data.toList.length/\(bi s.data.toList).head?=some 48
 ·have h1:1<s.size:=hz.1;have h1':(1:Int)<(s.size:Int):=by omega
  have h0':(0:Int)<(s.size:Int):=by omega
  have h48:(s[0].toNat:Int)=48:=by
   have:=hz.2;rw[<- CR,Kz s (by omega)]at this;injection this
  clear hz;go_enter Tryz.func226,Tryz.ntmps226;go_wp2_with fail;go_ret2;exact⟨0,rfl,Ae _ _⟩
 ·have K:=Ac (UT B hB s hs (fun u hu=>by have:=(Qt B (YA hB).1 _ u hz).1 hu;rw[<- CR,h]at this;cases this) w hE);clear h hE;by_cases h1:1<s.size
  focus
   have h1':(1:Int)<(s.size:Int):=by omega
   have h0':(0:Int)<(s.size:Int):=by omega
   have h48:((s[0].toNat:Int) == 48)=false:=by
    rw[beq_eq_false_iff_ne];intro e;exact hz ⟨h1,by rw[<- CR,Kz s (by omega),e]⟩
  rotate_left
  focus
   have h1':¬ (1:Int)<(s.size:Int):=by omega
  rotate_left
  all_goals
   clear hz;go_enter Tryz.func226,Tryz.ntmps226;go_wp2_with fail;refine K.out.mono ?_;rintro e w' ⟨x,N,rfl,hx,H⟩;go_wp2_with fail;go_quiet (fail);go_wp2_with fail;go_ret2;exact⟨_,rfl,H.out.trans ⟨rfl,rfl,rfl,Ad _,fun _ _=>rfl⟩⟩
end Go.Proofs.YtoppdmlmhigogaaGreatDoor
namespace Go.Proofs.YtoppdmlmhigogaaGreatDoor
open Go.ChangeShapes Go.WideShapes Go.ChangeAt Go.RowKit
def rgo(l:List Int)(p:Nat)(out:List ByteArray):Option (List ByteArray × Nat):=
 if h:p<l.length/\l.getD p 0<=63 then
  if l.getD p 0=0 then some (out,p+1)
  else if (l.length:Int) - ((p:Int)+1)<l.getD p 0 then none
  else rgo l (p+1+(l.getD p 0).toNat) (out++[lb ((l.drop (p+1)).take (l.getD p 0).toNat)])
 else none
termination_by l.length - p
decreasing_by omega
def Dt(l:List Int)(d:Int):List ByteArray × Int × Int:=
 if d<0∨(l.length:Int)<=d then([],0,2)
 else match rgo l d.toNat [] with
  |none=>([],0,8)
  |some (out,q)=>if nck out=0 then(out,(q:Int),0) else([],0,8)
theorem MI(l:List Int)(p:Nat)(out:List ByteArray)(h:¬ (p<l.length/\l.getD p 0<=63)):rgo l p out=none:=by rw[rgo,dif_neg h]
theorem Kc(l:List Int)(p:Nat)(out:List ByteArray)(h:p<l.length/\l.getD p 0<=63)(h0:l.getD p 0=0):rgo l p out=some (out,p+1):=by rw[rgo,dif_pos h,if_pos h0]
theorem MD(l:List Int)(p:Nat)(out:List ByteArray)(h:p<l.length/\l.getD p 0<=63)(h0:¬ l.getD p 0=0)(h1:(l.length:Int) - ((p:Int)+1)<l.getD p 0):rgo l p out=none:=by rw[rgo,dif_pos h,if_neg h0,if_pos h1]
theorem Ka(l:List Int)(p:Nat)(out:List ByteArray)(h:p<l.length/\l.getD p 0<=63)(h0:¬ l.getD p 0=0)(h1:¬ (l.length:Int) - ((p:Int)+1)<l.getD p 0):rgo l p out=rgo l (p+1+(l.getD p 0).toNat) (out++[lb ((l.drop (p+1)).take (l.getD p 0).toNat)]):=by
 rw[rgo,dif_pos h,if_neg h0,if_neg h1]
def YL(r:List ByteArray × Int × Int)(w:Ab)(e:Ending)(w':Ab):Prop:=
 ∃v ys,e=.returned (.tuple #[v,.int .i64 r.2.1,.int .i64 r.2.2])/\Hid (BF w.heap.size w' v r.1.length ys 1000000000000/\ys.take r.1.length=r.1/\Blw w w')
theorem Nn{k:Int}{w w':Ab}{e:Ending}(he:e=.returned (.tuple #[.slice none 0 0,.int .i64 0,.int .i64 k]))(hb:Blw w w'):YL ([],0,k) w e w':=
 ⟨.slice none 0 0,[],he,BF.nil _ _ _,rfl,hb⟩
theorem sM(c:Int)(h:0<=c/\c<=255)(r:List Int):fr (tx1 c++r)=(c,((tx1 c).length:Int)):=by
 unfold tx1;by_cases hu:c<33∨126<c
 ·rw[if_pos hu];have hv:v3 (48+c / 100) (48+c / 10 % 10) (48+c % 10)=c:=by unfold v3;omega
  have d1:dgt (48+c / 100)=true:=(Fz _).2 (by omega);have d2:dgt (48+c / 10 % 10)=true:=(Fz _).2 (by omega);have d3:dgt (48+c % 10)=true:=(Fz _).2 (by omega);have hd:decide (c<=255)=true:=by simp[h.2]
  simp[fr,esc,MS,vis,d1,d2,d3,hv,h.2]
 ·rw[if_neg hu];obtain hs|⟨hs,e1,e2,_⟩:=Pf c
  ·obtain rfl|rfl|rfl|rfl|rfl|rfl|rfl|rfl:=hs <;> simp[fr,esc,spc,vis,dgt]
  ·rw[hs];have hv:vis c=true:=(mU c).2 (by omega);have e2':¬ c=92:=by simpa using e2
   simp[fr,hv,e2']
theorem eQ(c:Int)(h:0<=c/\c<=255)(r:List Int):(tx1 c++r).getD 0 0≠46:=by
 unfold tx1;by_cases hu:c<33∨126<c
 ·rw[if_pos hu];simp
 ·rw[if_neg hu];obtain hs|⟨hs,e1,e2,_⟩:=Pf c
  ·obtain rfl|rfl|rfl|rfl|rfl|rfl|rfl|rfl:=hs <;> simp[spc]
  ·rw[hs];simpa using e1
theorem go_tx(l:List Int):∀(P out R:List Int),(∀z∈l,0<=z/\z<=255)->(R=[]∨∃r,R=46::r)->go (P++(tx l++R)) P.length out=some (out++l,P.length+(tx l).length):=by
 induction l with
 |nil=>
  intro P out R _ hR;rw[go_stop]
  ·simp[tx]
  ·obtain rfl|⟨r,rfl⟩:=hR
   ·simp[tx]
   ·simp[tx,Am]
 |cons c l ih=>
  intro P out R hb hR;have hc:=hb c (by simp);have e:tx (c::l)++R=tx1 c++(tx l++R):=by simp[tx]
  have hd:(P++(tx1 c++(tx l++R))).drop P.length=tx1 c++(tx l++R):=by simp
  have hf:=sM c hc (tx l++R);have hlen:=Qm c;rw[e,go_step]
  ·rw[hd,hf];have:=ih (P++tx1 c) (out++[c]) R (fun z hz=>hb z (by simp[hz])) hR;simp only[BM];rw[AR,Af]at this;rw[this];simp[tx];omega
  ·refine⟨by simp only[Af];omega,?_⟩;have:=eQ c hc (tx l++R);rw[<- hd,show((P++(tx1 c++(tx l++R))).drop P.length).getD 0 0=(P++(tx1 c++(tx l++R))).getD P.length 0 by rw[Am,Am,List.getElem?_drop,Nat.add_zero]]at this;exact this
  ·rw[hd,hf];simp only;omega
theorem UK(l R:List Int)(hb:∀z∈l,0<=z/\z<=255)(hR:R=[]∨∃r,R=46::r)(hl:1<=l.length/\l.length<=63):Dx (tx l++R)=(l,((tx l).length:Int),0):=by
 have:=go_tx l [] [] R hb hR;simp only[AQ,CZ,Fg]at this;exact ZN this (by unfold chk;rw[if_pos hl])
theorem Wt(a b:ByteArray):Ai (a++b)=Ai a++Ai b:=by
 simp[Ai]
theorem IQ(l:List Int)(h:∀z∈l,0<=z/\z<=255):Ai ⟨(txt l).toArray⟩=l:=by
 unfold Ai txt;simp only[Fq];conv=>rhs;rw[<- List.map_id l]
 apply ED
 intro z hz;have:=h z hz;simp;omega
theorem Ey(s:ByteArray):(⟨(txt (Ai s)).toArray⟩:ByteArray)=s:=by
 have:txt (Ai s)=s.data.toList:=by
  unfold Ai txt;rw[Fq];conv=>rhs;rw[<- List.map_id s.data.toList]
  apply ED
  intro b _;simp
 rw[this]
end Go.Proofs.YtoppdmlmhigogaaGreatDoor
