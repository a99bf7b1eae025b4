/- Texts laid together, in parts: Np Nxa Nxf Nxg Nxj Nxh Pb Dsp Dbk Xb Nxi Pz Pc Pd. -/
import Derived.Test.YtoppdmlmhigogaaGreatDoorWzb
import Derived.Lib.AppendZerosOnto
import Derived.Lib.AppendStr
set_option maxRecDepth 100000
set_option maxHeartbeats 8000000
set_option linter.unusedVariables false
set_option linter.unusedSimpArgs false
open Array renaming replicate → CF
open Bool renaming and_eq_true → AA, or_eq_true → Ct
open ByteArray renaming size_append → Lu
open Go renaming World → Ab, Calls → Ag, Value → Ao, heap_alloc_new → Au, TypeId → BH, run_underlying → Cb, grownCap → EX, maxLen → Gi, info_parts → PT
open Go.Builtin renaming append_ → BQ, zeroCells → Er, lenOf → Il, firstCells → JD
open Go.ByteArray renaming toList_eq → Ip
open Go.IntKind renaming wrap_i64 → BZ, i64 → CV
open Go.Lib renaming hid → Ac, byteCells → Ak, parseUintB → Bn, byteCells_length → Dr
open Go.Proofs.Tryz renaming prog → Aa, underlying39 → AI, underlying9 → AK, underlying3 → AW, underlying23 → BV, ntmps269 → Iz, func269 → Jv
open Go.RowKit.Below renaming refl → Ae
open Go.Value renaming int → AL, ownBlock → Bm, slice → Ce
open Go.World renaming cell? → Az, cell?_of_block → AE
open Int renaming toNat_natCast → BM
open List renaming length_append → Af, take_of_length_le → Al, getD_eq_getElem?_getD → Am, length_eq_zero_iff → Aq, mem_cons → Ax, cons_append → Ay, eq_nil_of_length_eq_zero → AC, getElem?_eq_getElem → AF, mem_append → AG, replicate → AM, all_eq_true → AO, length_cons → AP, nil_append → AQ, append_assoc → AR, length_map → AS, getElem_mem → AU, mem_map → AY, mem_singleton → Bc, mem_of_mem_take → Be, length_drop → Bg, map_cons → Bh, take_append_of_le_length → Bs, take_append_drop → BE, length_singleton → Ch, flatMap_cons → Cn, length_take → CC, mem_of_mem_drop → CT, length_nil → CZ, map_nil → Df, flatMap_append → Dm, mem_cons_of_mem → Dw, mapM_cons → Dz, drop_eq_nil_of_le → DH, map_append → DL, drop_eq_getElem_cons → El, not_mem_nil → Ep, foldl_cons → EY, length → FH, mem_of_mem_head? → FL, exists_cons_of_ne_nil → LB, length_replicate → LI, mem_replicate → MW, drop_append → Pu
open Nat renaming le_refl → Ad, le_trans → Aj, lt_of_lt_of_le → Ap, zero_le → Aw, zero_add → Fg, strongRecOn → FI, add_sub_cancel_left → NS
open Option renaming bind_some → BL, map_eq_some_iff → Ju
namespace Go.Proofs.YtoppdmlmhigogaaGreatDoor
open Go.ChangeShapes Go.WideShapes Go.ChangeAt Go.RowKit
def ET(l:List ByteArray):List Int:=l.flatMap fun s=>tx (Ai s)++[46]
theorem oK(s:ByteArray):Ai (tb s)=tx (Ai s):=IQ _ (YY _ (CY s))
theorem FZ(l:List ByteArray):Ai (Kb l)=ET l:=by
 have:∀(l:List ByteArray) (acc:ByteArray),Ai (l.foldl (fun acc s=>acc++tb s++⟨#[46]⟩) acc)=Ai acc++ET l:=by
  intro l;induction l with
  |nil=>intro acc;simp[ET]
  |cons s l ih=>
   intro acc;rw[EY,ih,Wt,Wt,oK];simp[ET]
   rfl
 have h:=this l ⟨#[]⟩;rw[show Ai ⟨#[]⟩=[] from rfl,AQ]at h;exact h
theorem Lb{n:Nat}(h:chk n=0):1<=n/\n<=63:=by
 unfold chk at h;split at h
 ·assumption
 ·cases h
theorem Rq:∀(ss:List ByteArray) (out:List ByteArray),ss≠[]->Ex ss->lgo (ET ss) out=(out++ss,true,0)
 |[],_,h,_=>absurd rfl h
 |s::r,out,_,hok=>by
  have hs:=Lb (hok s (by simp));have hf:ET (s::r)=tx (Ai s)++(46::ET r):=by simp[ET]
  have hp:=UK (Ai s) (46::ET r) (CY s) (.inr ⟨_,rfl⟩) (by rw[Av];exact hs);rw[<- hf]at hp;have hd:(ET (s::r)).drop ((tx (Ai s)).length+1)=ET r:=by
   rw[hf,Pu,DH (by omega),NS];rfl
  rw[lgo,hp];have hlb:lb (Ai s)=s:=Ey s;simp only[if_true,BM,hd,hlb];rw[if_neg (by rw[hf,Af];simp;omega)];by_cases hr:r=[]
  ·subst hr;rw[dif_pos (by simp[ET])]
  ·have hne:¬ (ET r).length=0:=by
    obtain⟨x,r',rfl⟩:=LB hr;simp[ET]
   rw[dif_neg hne,Rq r (out++[s]) hr (fun x hx=>hok x (by simp[hx]))];simp
theorem pL(s:ByteArray):(Ai s)=s.toList.map fun b=>(b.toNat:Int):=by rw[Da];rfl
theorem dX(ss:List ByteArray)(h:ss≠[])(hok:Ex ss):2<=(ET ss).length:=by
 obtain⟨s,r,rfl⟩:=LB h;have hs:=Lb (hok s (by simp));have hne:Ai s≠[]:=fun e=>by have:=Av s;rw[e]at this;simp at this;omega
 obtain⟨c,l,hcl⟩:=LB hne;have h1:=Qm c;have:1<=(tx (Ai s)).length:=by rw[hcl];simp only[tx,Cn,Af];omega
 simp only[ET,Cn,Af,AP,CZ];omega
theorem Rr(ss:List ByteArray)(h:ss≠[])(hok:Ex ss)(x:UInt8):¬ (Kb ss).toList=[x]:=by
 intro e;have h1:=dX ss h hok;have h2:=FZ ss;rw[pL,e]at h2;have:=congrArg FH h2;simp at this;omega
theorem XE(ss:List ByteArray)(h:nck ss=0):LW (AN ss).1=(ss,0):=by
 have hok:=(BI h).2;unfold AN;rw[if_pos h];by_cases h0:ss=[]
 ·subst h0;rw[if_pos (show([]:List ByteArray).length=0 from rfl)];unfold LW;rw[if_pos (by rw[Da])]
 ·have hl:¬ ss.length=0:=fun e=>h0 (AC e)
  rw[if_neg hl];unfold LW;rw[if_neg (Rr ss h0 hok 46)];simp only[FZ,Rq ss [] h0 hok,AQ,if_true,h]
theorem Oy(ss og:List ByteArray)(h:nck ss=0)(hg:nck og=0):Di (AN ss).1 og=(ss,0):=by
 have hok:=(BI h).2;have hp:=XE ss h;unfold Di;rw[if_pos hg];unfold AN at hp ⊢;rw[if_pos h]at hp ⊢;by_cases h0:ss=[]
 ·subst h0;rw[if_pos (show([]:List ByteArray).length=0 from rfl)];simp only;rw[if_neg (by rw[Da];decide),if_pos (by rw[Da])]
 ·have hl:¬ ss.length=0:=fun e=>h0 (AC e)
  rw[if_neg hl]at hp ⊢;simp only at hp ⊢;rw[if_neg (Rr ss h0 hok 64),if_neg (Rr ss h0 hok 46)];simp only[FZ,Rq ss [] h0 hok,if_true,hp]
theorem YN:∀(ss:List ByteArray) (P R:List Int) (out:List ByteArray),Ex ss->rgo (P++(nby ss++(0::R))) P.length out=some (out++ss,P.length+(nby ss).length+1)
 |[],P,R,out,_=>by
  rw[Kc]
  ·simp[nby]
  ·simp[nby,Am]
  ·simp[nby,Am]
 |s::r,P,R,out,hok=>by
  have hs:=Lb (hok s (by simp));have hf:nby (s::r)++(0::R)=(s.size:Int)::(Ai s++(nby r++(0::R))):=by simp[nby]
  have hg:(P++(nby (s::r)++(0::R))).getD P.length 0=(s.size:Int):=by
   rw[hf];simp[Am]
  have hlen:(P++(nby (s::r)++(0::R))).length=P.length+(1+(s.size+((nby r).length+(1+R.length)))):=by
   rw[hf];simp[Av];omega
  have hd:((P++(nby (s::r)++(0::R))).drop (P.length+1)).take s.size=Ai s:=by
   rw[hf,Pu,DH (by omega),NS,AQ];show(Ai s++_).take s.size=Ai s;rw[Bs (by rw[Av];exact Ad _),Al (by rw[Av];exact Ad _)]
  have hlb:lb (Ai s)=s:=Ey s;rw[Ka _ _ _ ⟨by rw[hlen];omega,by rw[hg];omega⟩ (by rw[hg];omega) (by rw[hg,hlen];omega)];rw[hg,BM,hd,hlb];have ih:=YN r (P++((s.size:Int)::Ai s)) R (out++[s]) (fun x hx=>hok x (by simp[hx]));have e1:P++(nby (s::r)++(0::R))=P++((s.size:Int)::Ai s)++(nby r++(0::R)):=by rw[hf];simp
  have e2:(P++((s.size:Int)::Ai s)).length=P.length+1+s.size:=by simp[Av];omega
  rw[e2]at ih;rw[e1,ih];simp[nby,Av];omega
theorem vI{ss:List ByteArray}(h1:nsz ss<=255)(h2:Ex ss):nck ss=0:=by
 unfold nck;rw[if_pos h2,if_neg (by omega)]
theorem Hu(ss:List ByteArray)(k:Nat)(h:nck ss=0):nck (ss.take k)=0:=by
 have:=BI h;exact vI (Aj (UO ss k) this.1) (fun s hs=>this.2 s (Be hs))
theorem RV(a:Option Addr)(len cap:Nat)(ss:List ByteArray)(w:Ab)(hr:RdT w a ss)(hl:ss.length=len)(hm:nsz ss<=1000000000000000) :
  Ag Aa 46 #[.slice a len cap] w fun e w'=>e=.returned (.int .i64 (nsz ss))/\w'=w:=by
 have HR:Hid (RdT w a ss):=hr;have HL:Hid (ss.length=len):=hl;have hln:len<=9223372036854775807:=by have:=Gt ss;omega
 obtain⟨T,hT⟩:∃T,nsz ss=T:=⟨_,rfl⟩;have HT:Hid (nsz ss=T):=hT;rw[hT]at hm ⊢;clear hr hl hT;go_enter Tryz.func46,Tryz.ntmps46;go_wp2_with fail
 go_loop [3,8] (fun n x=>∃k m:Nat,k<=len/\m<=T/\x=.int .i64 k/\n=.int .i64 m/\Hid (nsz (ss.take k)=m)) (fun _ x=>len - (intOf x).toNat)
 case atStart=>exact⟨0,1,Aw _,by rw[<- HT.out];exact UO ss 0,rfl,rfl,rfl⟩
 case round=>
  obtain⟨k,m,hk,hmT,rfl,rfl,HM⟩:=hrel;by_cases hlt:k<len
  ·have hlt':(k:Int)<(len:Int):=by omega
   have hks:k<ss.length:=by rw[HL.out];exact hlt
   obtain⟨b,o,rfl,hb,hc⟩:=HR.out.at k hks;have hn:nsz (ss.take (k+1))=m+ss[k].size+1:=by rw[IR ss k hks,QG,HM.out]
   have hle:=UO ss (k+1);rw[hn,HT.out]at hle;have HN:Hid (nsz (ss.take (k+1))=m+ss[k].size+1):=hn;clear hn;generalize ss[k]=s at*;go_wp2;go_round
   case rel=>exact⟨k+1,m+s.size+1,by omega,hle,by go_num,by go_num,HN⟩
   case measure=>simp[intOf];omega
  ·have hge:(len:Int)<=(k:Int):=by omega
   have e:m=T:=by rw[<- HM.out,<- HT.out,Al (by rw[HL.out];omega)]
   subst e;go_wp2;go_ret;exact⟨rfl,rfl⟩
theorem cJ(a:Option Addr)(len cap:Nat)(ss:List ByteArray)(w:Ab)(hr:RdT w a ss)(hl:ss.length=len)(hm:nsz ss<=1000000000000000)(hlen:len<=9223372036854775807)(hz:∀s∈ss,s.size<=9223372036854775807) :
  Ag Aa 19 #[.slice a len cap] w fun e w'=>e=.returned (.int .i64 (nck ss))/\w'=w:=by
 have HR:Hid (RdT w a ss/\∀s∈ss,s.size<=9223372036854775807):=⟨hr,hz⟩;have HL:Hid (ss.length=len):=hl;have HS:Hid (∀W,RdT W a ss->Ag Aa 46 #[.slice a len cap] W fun e w'=>e=.returned (.int .i64 (nsz ss))/\w'=W):=fun W hW=>RV a len cap ss W hW hl hm
 obtain⟨T,hT⟩:∃T,nsz ss=T:=⟨_,rfl⟩;have HT:Hid (nsz ss=T):=hT;rw[hT]at hm HS;clear hr hl hT hz;go_enter Tryz.func19,Tryz.ntmps19;go_wp2_with fail;go_loopw [8] (fun x wr=>∃k:Nat,k<=len/\x=.int .i64 k/\wr=w/\Hid (∀i (h:i<ss.length),i<k->chk ss[i].size=0)) (fun x _=>len - (intOf x).toNat)
 case atStart=>exact⟨0,Aw _,rfl,rfl,fun i _ h=>absurd h (by omega)⟩
 case round=>
  obtain⟨k,hk,rfl,rfl,HK⟩:=hrel;by_cases hlt:k<len
  ·have hlt':(k:Int)<(len:Int):=by omega
   have hks:k<ss.length:=by rw[HL.out];exact hlt
   obtain⟨b,o,rfl,hb,hc⟩:=HR.out.1.at k hks;have HC:Hid (∀W,Ag Aa 45 #[.string ss[k]] W fun e w'=>e=.returned (.int .i64 (chk ss[k].size))/\w'=W):=fun W=>Ud ss[k] W (HR.out.2 _ (AU hks))
   obtain hk0|hk4:=SR ss[k].size
   ·have HN:Hid (∀i (h:i<ss.length),i<k+1->chk ss[i].size=0):=by
     intro i h hi;by_cases e:i=k
     ·subst e;exact hk0
     ·exact HK.out i h (by omega)
    rw[hk0]at HC;clear hk0 HK;generalize ss[k]=s at*;go_wp2_with fail;refine(HC.out _).mono ?_;rintro e w1 ⟨rfl,rfl⟩;go_wp2;exact⟨⟨k+1,by omega,by go_num,trivial,HN⟩,by simp[intOf];omega⟩
   ·have HE:Hid (nck ss=4):=by
     show nck ss=4;unfold nck;rw[if_neg (fun h=>by have:=h _ (AU hks);rw[hk4]at this;cases this)]
    rw[hk4]at HC;clear hk4 HK;generalize ss[k]=s at*;go_wp2_with fail;refine(HC.out _).mono ?_;rintro e w1 ⟨rfl,rfl⟩;go_wp2;go_ret;exact⟨by rw[HE.out];rfl,rfl⟩
  ·have hge:(len:Int)<=(k:Int):=by omega
   have HO:Hid (Ex ss):=by
    intro s hs;obtain⟨i,hi,rfl⟩:=List.getElem_of_mem hs;exact HK.out i hi (by have:=HL.out;omega)
   by_cases hb:255<T
   focus
    have HE:Hid (nck ss=5):=by show nck ss=5;unfold nck;rw[if_pos HO.out,HT.out,if_pos hb]
    have hb':(255:Int)<(T:Int):=by omega
   rotate_left
   focus
    have HE:Hid (nck ss=0):=by show nck ss=0;unfold nck;rw[if_pos HO.out,HT.out,if_neg hb]
    have hb':¬ (255:Int)<(T:Int):=by omega
   rotate_left
   all_goals
    clear HK HO;go_wp2_with fail;refine(HS.out _ HR.out.1).mono ?_;rintro e w1 ⟨rfl,rfl⟩;go_wp2;go_ret;exact⟨by rw[HE.out];rfl,rfl⟩
theorem Gy{a:Option Addr}{n:Nat}{ss:List ByteArray}{w:Ab}(c:Nat)(h:Nm w a n ss):Ag Aa 19 #[.slice a n c] w fun e w'=>e=.returned (.int .i64 (nck ss))/\w'=w:=
 cJ a n c ss w h.rd h.len (by have:=h.sz;omega) (by have:=h.n63;omega) (fun s hs=>by have:=h.mem s hs;omega)
theorem kS(a:Option Addr)(cap len:Nat)(ss:List ByteArray)(M:Nat)(w:Ab)(hr:RdT w a ss)(hl:ss.length=len)(hM:∀s∈ss,s.size<=M)(hm:len<=8796093022000) :
  Ag Aa 53 #[.slice a len cap] w (JS ss M w):=by
 have HR:Hid (RdT w a ss/\∀s∈ss,s.size<=M):=⟨hr,hM⟩;have HL:Hid (ss.length=len):=hl;clear hr hl hM;go_enter Tryz.func53,Tryz.ntmps53;go_wp2_with (at_builtin;refine BA tyN _ rfl _ _ 23 9 BV rfl w.heap.size _ 0 [] M rfl (BF.nil _ _ _) a len cap ss rfl HR.out.1 HL.out HR.out.2 (by omega) (Ad _) ?_;intro v' w' ys hO hT hG);go_ret;refine⟨v',ys,rfl,?_,?_,?_⟩
 ·have h:=hO.out;rw[Fg,<- HL.out]at h;exact h
 ·have h:=hT.out;rw[Fg,<- HL.out]at h;simpa using h
 ·exact(Ae _ _).grown hG (Ad _) (by intro k hk;cases hk)
theorem ZH{a:Option Addr}{n:Nat}{ss:List ByteArray}{w:Ab}(c:Nat)(h:Nm w a n ss):Ag Aa 53 #[.slice a n c] w (JS ss 1000000000000 w):=
 kS a c n ss 1000000000000 w h.rd h.len h.mem (by have:=h.n63;omega)
theorem aX(a:Option Addr)(n c:Nat)(ss:List ByteArray)(w:Ab)(h:Nm w a n ss):Ag Aa 53 #[.slice a n c] w (JS ss 1000000000000 w):=ZH c h
def fZ(w:Ab)(e:Ending)(w':Ab):Prop:=∃v ys,e=.returned v/\Hid (BF w.heap.size w' v 0 ys 1000000000000/\Blw w w')
theorem kM(N:Nat)(w:Ab)(hN:N<=8796093022000):Ag Aa 135 #[.slice none 0 0,.int .i64 N] w (fZ w):=by
 by_cases h0:N=0
 ·subst h0;go_enter Tryz.func135,Tryz.ntmps135;go_wp2;go_ret;exact⟨_,[],rfl,BF.nil _ _ _,Ae _ _⟩
 ·obtain⟨i,hi,hz0,hz1,hz2⟩:=PT tyN.hi;have hr:∀ty,(BQ #[23,3] ty #[.slice none 0 0,.int .i64 N]).run Aa w=.ok (.slice (some ⟨w.heap.size,0,none⟩) N (EX w N 0 9)) (w.drew.alloc (.cells (tv (AM (EX w N 0 9) ⟨#[]⟩)).toArray 9)):=by
   intro ty;have hge:=grownCap_ge w N 0 9;have h:=Lib.run_append_grow_zeros w 23 3 ty 9 i (.string ⟨#[]⟩) .i64 .i64 BV (by kernel_rfl) hi hz0 none 0 0 [] (run_firstCells_none w.drew i.size 0 0 0) N (by omega) (by omega) (by omega) (by omega) (by rw[hz2];omega) (growslice_fits (by omega) (by rw[hz2];omega));simp only[Fg]at h;rw[h,Ps _ tyN.hz,Ps _ tyN.hz];have e:(([]:List Ao).toArray++(AM N (Value.string ⟨#[]⟩)).toArray++(AM (EX w N 0 9 - N) (Value.string ⟨#[]⟩)).toArray)=(tv (AM (EX w N 0 9) ⟨#[]⟩)).toArray:=by
    simp only[tv,List.map_replicate,List.append_toArray,AQ,List.replicate_append_replicate];congr 2
    omega
   rw[e]
  have hG1:=grownCap_ge w N 0 9;have hG2:=grownCap_le_maxLen w N 0 9 (by unfold Gi;omega);generalize EX w N 0 9=G at*;have HP:Hid (BF w.heap.size (w.drew.alloc (.cells (tv (AM G ⟨#[]⟩)).toArray 9)) (.slice (some ⟨w.heap.size,0,none⟩) 0 G) 0 (AM G ⟨#[]⟩) 1000000000000/\Blw w (w.drew.alloc (.cells (tv (AM G ⟨#[]⟩)).toArray 9))):=by
   refine⟨⟨.inr ⟨w.heap.size,by simp[tv],Ad _,Au w.drew _,Aw _,by simpa[tv] using hG2⟩,?_⟩,(Ae _ _).drew.alloc (Ad _) _⟩;intro s hs;rw[List.eq_of_mem_replicate hs];exact Aw _
  unfold Gi at hG2;have hn:¬ (N:Int)<0:=by omega
  have hp:(0:Int)<(N:Int):=by omega
  generalize w.drew.alloc (.cells (tv (AM G ⟨#[]⟩)).toArray 9)=W2 at*;clear hi hz0 hz1 hz2;have HR:Hid (∀ty,(BQ #[23,3] ty #[.slice none 0 0,.int .i64 N]).run Aa w=.ok (.slice (some ⟨w.heap.size,0,none⟩) N G) W2):=hr;clear hr;go_enter Tryz.func135,Tryz.ntmps135;go_wp2_with (at_builtin;refine Lib.wpList_append_run _ rfl _ _ _ _ rfl _ _ rfl rfl _ _ (HR.out _) ?_);go_ret;exact⟨_,_,rfl,HP⟩
theorem WG(g:Nat)(a b:Option Addr)(n m c d:Nat)(ss ts:List ByteArray)(w:Ab)(hg:g<w.heap.size)(c0:w.cell? ⟨g,0,none⟩=some (.slice a n c))(c1:w.cell? ⟨g,1,none⟩=some (.slice b m d))(h:Nm w a n ss)(h':Nm w b m ts) :
  Ag Aa 92 #[.slice (some ⟨g,0,none⟩) 2 2] w (JS (ss++ts) 1000000000000 w):=by
 have HN:Hid (Nm w a n ss/\Nm w b m ts):=⟨h,h'⟩;have HL:Hid (ss.length=n/\ts.length=m):=⟨h.len,h'.len⟩;have hn:=h.n63;have hm:=h'.n63;clear h h';go_enter Tryz.func92,Tryz.ntmps92;go_wp2_with fail;go_loopw [3,11] (fun z x wr=>∃k q:Nat,z=.int .i64 q/\x=.int .i64 k/\wr=w/\Hid ((k=0/\q=0)∨(k=1/\q=n)∨(k=2/\q=n+m))) (fun _ x _=>2 - (intOf x).toNat)
 case atStart=>exact⟨0,0,rfl,rfl,rfl,.inl ⟨rfl,rfl⟩⟩
 case round=>
  obtain⟨k,q,rfl,rfl,rfl,HK⟩:=hrel;obtain⟨rfl,rfl⟩|⟨rfl,rfl⟩|⟨rfl,rfl⟩:=HK.out
  ·clear HK;have hq:¬ (n:Int)<0:=by omega
   go_wp2;exact⟨⟨1,n,by go_num,rfl,trivial,.inr (.inl ⟨rfl,rfl⟩)⟩,by simp[intOf]⟩
  ·clear HK;have hq:¬ ((q:Int)+(m:Int))<0:=by omega
   go_wp2;exact⟨⟨2,q+m,by go_num,rfl,trivial,.inr (.inr ⟨rfl,rfl⟩)⟩,by simp[intOf]⟩
  ·clear HK;go_wp2_with fail;refine(kM (n+m) wr (by omega)).mono ?_;rintro e w1 ⟨v,ys,rfl,H1⟩;have c0':=(H1.out.2.cell (p:=⟨g,0,none⟩) hg).trans c0;have c1':=(H1.out.2.cell (p:=⟨g,1,none⟩) hg).trans c1;obtain⟨wz,hwz⟩:∃x,x=wr:=⟨_,rfl⟩;subst hwz;have HC:Hid (w1.cell? ⟨g,0,none⟩=some (.slice a n c)/\w1.cell? ⟨g,1,none⟩=some (.slice b m d)/\g<w1.heap.size):=⟨c0',c1',Ap hg H1.out.2.size⟩;clear c0 c1 c0' c1';go_wp2_with fail;go_loopw [6,27] (fun v x wr=>∃(k:Nat),x=.int .i64 k/\Hid ((k=0/\∃ys,BF wz.heap.size wr v 0 ys 1000000000000/\ys.take 0=[])∨(k=1/\∃ys,BF wz.heap.size wr v n ys 1000000000000/\ys.take n=ss)∨(k=2/\∃ys,BF wz.heap.size wr v (n+m) ys 1000000000000/\ys.take (n+m)=ss++ts))/\Hid (Blw wz wr/\wr.cell? ⟨g,0,none⟩=some (.slice a n c)/\wr.cell? ⟨g,1,none⟩=some (.slice b m d))) (fun _ x _=>2 - (intOf x).toNat)
   case atStart=>exact⟨0,rfl,.inl ⟨rfl,ys,H1.out.1,rfl⟩,H1.out.2,HC.out.1,HC.out.2.1⟩
   case round=>
    clear H1 HC;obtain⟨k,rfl,HK,HB⟩:=hrel;have c0:=HB.out.2.1;have c1:=HB.out.2.2;obtain⟨rfl,zs,h1,h2⟩|⟨rfl,zs,h1,h2⟩|⟨rfl,zs,h1,h2⟩:=HK.out
    ·have HO:Hid (BF wz.heap.size wr u6 0 zs 1000000000000/\zs.take 0=[]/\RdT wr a ss/\∀s∈ss,s.size<=1000000000000):=⟨h1,h2,HN.out.1.rd.below HB.out.1,HN.out.1.mem⟩;have HC:Hid (wr.cell? ⟨g,0,none⟩=some (.slice a n c)/\wr.cell? ⟨g,1,none⟩=some (.slice b m d)):=⟨c0,c1⟩;clear HK h1 h2 c1;go_wp2_with (at_builtin;refine BA tyN _ rfl _ _ 23 9 BV rfl wz.heap.size _ 0 zs 1000000000000 rfl HO.out.1 a n c ss rfl HO.out.2.2.1 HL.out.1 HO.out.2.2.2 (by omega) HB.out.1.size ?_;intro v' w' ys' hO' hT' hG');have hne:∀j,u6.ownBlock=some j->wz.heap.size<=j:=HO.out.1.1.lt;refine⟨⟨1,by go_num,.inr (.inl ⟨rfl,ys',by simpa using hO'.out,by simpa using hT'.out⟩),HB.out.1.grown hG' HB.out.1.size hne,?_,?_⟩,by simp[intOf]⟩
     ·exact(AE (hG'.block g (Ap hg HB.out.1.size) (fun e=>by have:=hne g e.symm;omega))).trans HC.out.1
     ·exact(AE (hG'.block g (Ap hg HB.out.1.size) (fun e=>by have:=hne g e.symm;omega))).trans HC.out.2
    ·have HO:Hid (BF wz.heap.size wr u6 n zs 1000000000000/\zs.take n=ss/\RdT wr b ts/\∀s∈ts,s.size<=1000000000000):=⟨h1,h2,HN.out.2.rd.below HB.out.1,HN.out.2.mem⟩;have HC:Hid (wr.cell? ⟨g,0,none⟩=some (.slice a n c)/\wr.cell? ⟨g,1,none⟩=some (.slice b m d)):=⟨c0,c1⟩;clear HK h1 h2 c0;go_wp2_with (at_builtin;refine BA tyN _ rfl _ _ 23 9 BV rfl wz.heap.size _ n zs 1000000000000 rfl HO.out.1 b m d ts rfl HO.out.2.2.1 HL.out.2 HO.out.2.2.2 (by omega) HB.out.1.size ?_;intro v' w' ys' hO' hT' hG');have hne:∀j,u6.ownBlock=some j->wz.heap.size<=j:=HO.out.1.1.lt;refine⟨⟨2,by go_num,.inr (.inr ⟨rfl,ys',hO'.out,by rw[hT'.out,HO.out.2.1]⟩),HB.out.1.grown hG' HB.out.1.size hne,?_,?_⟩,by simp[intOf]⟩
     ·exact(AE (hG'.block g (Ap hg HB.out.1.size) (fun e=>by have:=hne g e.symm;omega))).trans HC.out.1
     ·exact(AE (hG'.block g (Ap hg HB.out.1.size) (fun e=>by have:=hne g e.symm;omega))).trans HC.out.2
    ·have HF:Hid (BF wz.heap.size wr u6 (ss++ts).length zs 1000000000000/\zs.take (ss++ts).length=ss++ts/\Blw wz wr):=by
      rw[Af,HL.out.1,HL.out.2];exact⟨h1,h2,HB.out.1⟩
     clear HK h1 h2 c0 c1;go_wp2;go_ret;exact⟨_,zs,rfl,HF⟩
theorem vU(a:Option Addr)(n c:Nat)(ss:List ByteArray)(w:Ab)(h:Nm w a n ss)(hk:nck ss=0):Ag Aa 55 #[.slice a n c] w fun e w'=>e=.returned (.tuple #[.slice a n c,.int .i64 0])/\w'=w:=by
 have K1:Hid (Ag Aa 19 #[.slice a n c] w fun e w'=>e=.returned (.int .i64 (nck ss))/\w'=w):=Gy c h;rw[hk]at K1;clear h hk;go_enter Tryz.func55,Tryz.ntmps55;go_wp2_with fail;refine K1.out.mono ?_;rintro e w1 ⟨rfl,rfl⟩;go_wp2;go_ret2;exact⟨rfl,rfl⟩
theorem uF(a:Option Addr)(n c:Nat)(ss:List ByteArray)(w:Ab)(h:Nm w a n ss)(hk:¬ nck ss=0):Ag Aa 55 #[.slice a n c] w fun e w'=>e=.returned (.tuple #[.slice none 0 0,.int .i64 (nck ss)])/\w'=w:=by
 have K1:Hid (Ag Aa 19 #[.slice a n c] w fun e w'=>e=.returned (.int .i64 (nck ss))/\w'=w):=Gy c h;generalize nck ss=q at*;have hq:(q != 0)=true:=bne_iff_ne.2 hk;clear h hk;go_enter Tryz.func55,Tryz.ntmps55;go_wp2_with fail;refine K1.out.mono ?_;rintro e w1 ⟨rfl,rfl⟩;go_wp2;go_ret2;exact⟨rfl,rfl⟩
theorem Zk(B:Nat)(w0:Ab)(a:Option Addr)(n c:Nat)(ss ys:List ByteArray)(w:Ab)(hl:ss.length=n)(ho:BF B w (.slice a n c) n ys 1000000000000)(ht:ys.take n=ss)(hz:nsz ss<=1000000000000)(hb:Below B w0 w)(hB:B=w0.heap.size) :
  Ag Aa 55 #[.slice a n c] w fun e w'=>LO (if nck ss=0 then ss else[]) (nck ss) w0 e w':=by
 have hn:Nm w a n ss:=⟨by have:=ho.rd n;rw[ht]at this;exact this,hl,hz⟩;subst hB;by_cases hk:nck ss=0
 ·rw[if_pos hk,hk];refine(vU a n c ss w hn hk).mono ?_;rintro e w' ⟨rfl,rfl⟩;exact⟨_,ys,rfl,by rw[hl];exact ho,by rw[hl];exact ht,hb⟩
 ·rw[if_neg hk];refine(uF a n c ss w hn hk).mono ?_;rintro e w' ⟨rfl,rfl⟩;exact IT rfl hb
theorem qC{a b:List ByteArray}(h:nck a=0)(h':nck b=0):nck (a++b)=0∨nck (a++b)=5:=by
 have h1:=(BI h).2;have h2:=(BI h').2;have:Ex (a++b):=by
  intro s hs;obtain hs|hs:=AG.1 hs
  ·exact h1 s hs
  ·exact h2 s hs
 unfold nck;rw[if_pos this];by_cases hz:255<nsz (a++b)
 ·rw[if_pos hz];exact .inr rfl
 ·rw[if_neg hz];exact .inl rfl
theorem aA(a b:Option Addr)(n m c d:Nat)(ss ts:List ByteArray)(w:Ab)(h:Nm w a n ss)(h':Nm w b m ts):Ag Aa 56 #[.slice a n c,.slice b m d] w (LO (GK ss ts).1 (GK ss ts).2 w):=by
 have K1:Hid (Ag Aa 19 #[.slice a n c] w fun e w'=>e=.returned (.int .i64 (nck ss))/\w'=w):=Gy c h;have K2:Hid (Ag Aa 19 #[.slice b m d] w fun e w'=>e=.returned (.int .i64 (nck ts))/\w'=w):=Gy d h';by_cases hk:nck ss=0
 ·rw[hk]at K1;by_cases hk2:nck ts=0
  ·rw[hk2]at K2;have z1:=BI hk;have z2:=BI hk2;have hJ:nsz (ss++ts)<=1000000000000:=by have:=NC ss ts;omega
   have hlen:(ss++ts).length=n+m:=by rw[Af,h.len,h'.len]
   have hj:GK ss ts=(if nck (ss++ts)=0 then ss++ts else[],nck (ss++ts)):=by
    unfold GK;rw[if_pos hk,if_pos hk2];obtain e|e:=qC hk hk2
    ·rw[if_pos e,if_pos e,e]
    ·rw[if_neg (by omega),if_neg (by omega),e]
   rw[hj];have hb:Blw w (w.alloc (.cells #[.slice a n c,.slice b m d] 23)):=(Ae _ _).alloc (Ad _) _;have KC:Hid (Ag Aa 92 #[.slice (some ⟨w.heap.size,0,none⟩) 2 2] (w.alloc (.cells #[.slice a n c,.slice b m d] 23)) (JS (ss++ts) 1000000000000 (w.alloc (.cells #[.slice a n c,.slice b m d] 23)))):=
    WG w.heap.size a b n m c d ss ts _ (by simp) (by simp[go_sem]) (by simp[go_sem]) (h.below hb) (h'.below hb)
   have KM:Hid (∀W v ys,BF w.heap.size W v (ss++ts).length ys 1000000000000->ys.take (ss++ts).length=ss++ts->Blw w W->∃ao,v=.slice ao (n+m) ys.length/\Ag Aa 55 #[.slice ao (n+m) ys.length] W fun e w'=>LO (if nck (ss++ts)=0 then ss++ts else[]) (nck (ss++ts)) w e w'):=by
    intro W v ys ho ht hB;obtain⟨ao,hv,_⟩:=ho.shape;rw[hlen]at hv ho ht;subst hv;exact⟨ao,rfl,Zk w.heap.size w ao (n+m) ys.length (ss++ts) ys W hlen ho ht hJ hB rfl⟩
   have HB:Hid (Blw w (w.alloc (.cells #[.slice a n c,.slice b m d] 23))):=hb;clear h h' hk hk2 z1 z2 hj hb hJ hlen;generalize (if nck (ss++ts)=0 then ss++ts else[])=R at*;generalize nck (ss++ts)=q at*;go_enter Tryz.func56,Tryz.ntmps56;go_wp2_with fail;refine K1.out.mono ?_;rintro e w1 ⟨rfl,rfl⟩;go_wp2_with fail;refine K2.out.mono ?_;rintro e w1 ⟨rfl,rfl⟩;go_wp2_with fail;refine KC.out.mono ?_;rintro e w2 ⟨v,ys,rfl,H2⟩;have hB2:Blw w1 w2:=HB.out.trans (H2.out.2.2.mono HB.out.size);obtain⟨ao,rfl,K3⟩:=KM.out w2 v ys (H2.out.1.mono (by simp)) H2.out.2.1 hB2;have HK3:Hid (Ag Aa 55 #[.slice ao (n+m) ys.length] w2 fun e w'=>LO R q w1 e w'):=K3;clear K1 K2 KC KM H2 hB2 HB K3;go_wp2_with fail;refine HK3.out.mono ?_;rintro e w3 ⟨v,zs,rfl,H3⟩;go_wp2;go_ret2;exact⟨v,zs,rfl,H3⟩
  ·have hj:GK ss ts=([],nck ts):=by unfold GK;rw[if_pos hk,if_neg hk2]
   rw[hj];generalize nck ts=q at*;have hq:(q != 0)=true:=bne_iff_ne.2 hk2;clear h h' hk hj hk2;go_enter Tryz.func56,Tryz.ntmps56;go_wp2_with fail;refine K1.out.mono ?_;rintro e w1 ⟨rfl,rfl⟩;go_wp2_with fail;refine K2.out.mono ?_;rintro e w1 ⟨rfl,rfl⟩;go_wp2;go_ret2;exact IT rfl (Ae _ _)
 ·have hj:GK ss ts=([],nck ss):=by unfold GK;rw[if_neg hk]
  rw[hj];generalize nck ss=q at*;have hq:(q != 0)=true:=bne_iff_ne.2 hk;clear h h' hk hj K2;go_enter Tryz.func56,Tryz.ntmps56;go_wp2_with fail;refine K1.out.mono ?_;rintro e w1 ⟨rfl,rfl⟩;go_wp2;go_ret2;exact IT rfl (Ae _ _)
theorem go_dot(l:List Int)(hb:∀z∈l,0<=z/\z<=255):∀(n p:Nat) (out o:List Int) (q:Nat),l.length - p<=n->p<=l.length->go l p out=some (o,q)->q<l.length->l.getD q 0=46:=by
 intro n;induction n with
 |zero=>
  intro p out o q hn hp h hq;have hpe:¬ (p<l.length/\l.getD p 0≠46):=by omega
  rw[go_stop l p out hpe]at h;cases h;omega
 |succ n ih=>
  intro p out o q hn hp h hq;by_cases hc:p<l.length/\l.getD p 0≠46
  ·have hbd:=dT (l.drop p) (fun z hz=>hb z (CT hz)) (by simp;omega);by_cases h0:(fr (l.drop p)).2<=0
   ·rw[go_bad l p out hc h0]at h;cases h
   ·rw[go_step l p out hc h0]at h;have hl:((l.drop p).length:Int)=(l.length:Int) - (p:Int):=by simp;omega
    exact ih _ _ o q (by omega) (by omega) h hq
  ·rw[go_stop l p out hc]at h;cases h;by_cases h46:l.getD p 0=46
   ·exact h46
   ·exact absurd ⟨hq,h46⟩ hc
theorem iS (l : List Int) (hb : ∀ z ∈ l, 0 <= z /\ z <= 255) (p : Nat) (h : (Dx l).2.2 = 0) (hp : (Dx l).2.1 = (p : Int)) (hl : p < l.length) : l.getD p 0 = 46 := by
  unfold Dx at h hp;cases hg : go l 0 [] with
  | none => rw [hg]at h; cases h
  | some r =>
    obtain⟨o, q⟩ := r;rw [hg]at h hp;dsimp only at h hp;by_cases hc : 1 <= o.length /\ o.length <= 63
    · rw [if_pos hc]at hp
      have e : q = p := by have : (q : Int) = (p : Int) := by simpa using hp
                           omega
      subst e;exact go_dot l hb l.length 0 [] o q (by omega) (by omega) hg hl
    · rw [if_neg hc]at h;exact absurd h (by decide)
theorem nX(t:ByteArray)(w:Ab)(h:t.size=0):Ag Aa 171 #[.string t,.string ⟨#[46]⟩] w fun e w'=>e=.returned (.bool false)/\w'=w:=by
 go_enter Tryz.func171,Tryz.ntmps171;go_wp2;go_ret;exact⟨rfl,rfl⟩
theorem dR(t:ByteArray)(w:Ab)(h:1<=t.size)(hm:t.size<=9223372036854775807)(h46:t.extract 0 1=⟨#[46]⟩):Ag Aa 171 #[.string t,.string ⟨#[46]⟩] w fun e w'=>e=.returned (.bool true)/\w'=w:=by
 have h1:(1:Int)<=(t.size:Int):=by omega
 go_enter Tryz.func171,Tryz.ntmps171;go_wp2;go_ret;exact⟨rfl,rfl⟩
theorem mR(t:ByteArray)(w:Ab)(h:t.size=0):Ag Aa 134 #[.string t,.string ⟨#[46]⟩] w fun e w'=>e=.returned (.tuple #[.string t,.bool false])/\w'=w:=by
 have K:Hid (∀W,Ag Aa 171 #[.string t,.string ⟨#[46]⟩] W fun e w'=>e=.returned (.bool false)/\w'=W):=fun W=>nX t W h
 clear h;go_enter Tryz.func134,Tryz.ntmps134;go_wp2_with fail;refine(K.out _).mono ?_;rintro e w1 ⟨rfl,rfl⟩;go_wp2;go_ret2;exact⟨rfl,rfl⟩
theorem vA(t:ByteArray)(w:Ab)(h:t.size=0):Ag Aa 91 #[.string t,.string ⟨#[46]⟩] w fun e w'=>e=.returned (.tuple #[.string t,.bool false])/\w'=w:=by
 have K:Hid (∀W,Ag Aa 134 #[.string t,.string ⟨#[46]⟩] W fun e w'=>e=.returned (.tuple #[.string t,.bool false])/\w'=W):=fun W=>mR t W h
 clear h;go_enter Tryz.func91,Tryz.ntmps91;go_wp2_with fail;refine(K.out _).mono ?_;rintro e w1 ⟨rfl,rfl⟩;go_wp2;go_ret2;exact⟨rfl,rfl⟩
theorem kJ(t:ByteArray)(w:Ab)(h:1<=t.size)(hm:t.size<=9223372036854775807)(h46:t.extract 0 1=⟨#[46]⟩):Ag Aa 134 #[.string t,.string ⟨#[46]⟩] w fun e w'=>e=.returned (.tuple #[.string (t.extract 1 t.size),.bool true])/\w'=w:=by
 have K:Hid (∀W,Ag Aa 171 #[.string t,.string ⟨#[46]⟩] W fun e w'=>e=.returned (.bool true)/\w'=W):=fun W=>dR t W h hm h46
 have h1:(1:Int)<=(t.size:Int):=by omega
 clear h46;go_enter Tryz.func134,Tryz.ntmps134;go_wp2_with fail;refine(K.out _).mono ?_;rintro e w1 ⟨rfl,rfl⟩;go_wp2;go_ret2;exact⟨rfl,rfl⟩
theorem qX(t:ByteArray)(w:Ab)(h:1<=t.size)(hm:t.size<=9223372036854775807)(h46:t.extract 0 1=⟨#[46]⟩):Ag Aa 91 #[.string t,.string ⟨#[46]⟩] w fun e w'=>e=.returned (.tuple #[.string (t.extract 1 t.size),.bool true])/\w'=w:=by
 have K:Hid (∀W,Ag Aa 134 #[.string t,.string ⟨#[46]⟩] W fun e w'=>e=.returned (.tuple #[.string (t.extract 1 t.size),.bool true])/\w'=W):=fun W=>kJ t W h hm h46
 generalize t.extract 1 t.size=q at*;clear h46;go_enter Tryz.func91,Tryz.ntmps91;go_wp2_with fail;refine(K.out _).mono ?_;rintro e w1 ⟨rfl,rfl⟩;go_wp2;go_ret2;exact⟨rfl,rfl⟩
theorem kB{a b:ByteArray}(h:Ai a=Ai b):a=b:=by rw[<- Ey a,<- Ey b,h]
theorem Nc(s:ByteArray)(p q:Nat):Ai (s.extract p q)=((Ai s).take q).drop p:=by
 simp only[Ai,ByteArray.data_extract,Array.toList_extract,List.map_drop,List.map_take,List.extract];rw[List.drop_take]
theorem iZ(t:ByteArray)(h:1<=t.size)(h46:(Ai t).getD 0 0=46):t.extract 0 1=⟨#[46]⟩:=by
 apply kB
 rw[Nc];have hl:=Av t;cases hn:Ai t with
 |nil=>rw[hn]at hl;simp at hl;omega
 |cons x l=>
  rw[hn]at h46;have e:x=46:=by simpa using h46
  subst e
  rfl
def GI(s:ByteArray):List ByteArray × Bool × Int:=if s.toList=[46] then([],true,0) else lgo (Ai s) []
theorem VS(s:ByteArray)(w:Ab)(hs:s.size<=1000000000):Ag Aa 54 #[.string s] w (rL (GI s) w):=by
 by_cases hd:s.toList=[46]
 ·have hp:GI s=([],true,0):=by unfold GI;rw[if_pos hd]
  rw[hp];clear hp;go_enter Tryz.func54,Tryz.ntmps54;go_wp2
  go_ret3
  exact⟨.slice none 0 0,[],rfl,BF.nil _ _ _,rfl,Ae _ _⟩
 have hp:GI s=lgo (Ai s) []:=by unfold GI;rw[if_neg hd]
 rw[hp];have hdf:(s.toList == [46])=false:=by simpa using hd
 obtain⟨R,hR⟩:∃R,lgo (Ai s) []=R:=⟨_,rfl⟩;have HR0:Hid (lgo (Ai s) []=R):=hR;rw[hR];clear hR hp hd;go_enter Tryz.func54,Tryz.ntmps54;go_wp2_with fail;go_loopw [0,5] (fun x v wr=>∃(t:ByteArray) (out:List ByteArray),x=.string t/\t.size<=1000000000/\out.length+t.size<=1000000000/\Hid (lgo (Ai t) out=R)/\Hid (∃ys,BF w.heap.size wr v out.length ys 1000000000000/\ys.take out.length=out)/\Hid (Blw w wr)) (fun x _ _=>match x with | .string t=>t.size|_=>0)
 case atStart=>exact⟨s,[],rfl,hs,by simpa using hs,HR0,⟨[],BF.nil _ _ _,rfl⟩,Ae _ _⟩
 case round=>
  clear hdf;obtain⟨t,out,rfl,htz,hout,HK,HW,HB⟩:=hrel;have KP:Hid (∀W,Ag Aa 90 #[.string t] W fun e w'=>e=.returned (.tuple #[.string (lb (Dx (Ai t)).1),.int .i64 (Dx (Ai t)).2.1,.int .i64 (Dx (Ai t)).2.2])/\Hid (Blw W w')):=fun W=>aK t W (by omega)
  have HU:Hid (lgo (Ai t) out=if (Dx (Ai t)).2.2=0 then(if (Dx (Ai t)).2.1=(t.size:Int) then(out++[lb (Dx (Ai t)).1],false,0) else if ((Ai t).drop ((Dx (Ai t)).2.1.toNat+1)).length=0 then(out++[lb (Dx (Ai t)).1],true,0) else lgo ((Ai t).drop ((Dx (Ai t)).2.1.toNat+1)) (out++[lb (Dx (Ai t)).1])) else([],false,(Dx (Ai t)).2.2)):=by
   show _=_;rw[lgo,Av];split <;> rfl
  by_cases h0:(Dx (Ai t)).2.2=0
  ·obtain⟨p,hp,hpl,hl1,hl2⟩:=ZS (Ai t) (CY t) h0;rw[Av]at hpl;have hlz:(lb (Dx (Ai t)).1).size<=1000000000000:=by rw[Fv];omega
   have hdot:p<t.size->(Ai t).getD p 0=46:=fun h=>iS (Ai t) (CY t) p h0 hp (by rw[Av];exact h)
   rw[h0,if_pos rfl,hp,BM]at HU;rw[h0,hp]at KP;generalize lb (Dx (Ai t)).1=f at*;clear h0 hp hl1 hl2;have hpI:(p:Int)<=(t.size:Int):=by omega
   have hz1:(t.extract p t.size).size=t.size - p:=by simp
   have HN1:Hid (Ai (t.extract p t.size)=(Ai t).drop p):=IG t p;by_cases hpt:p=t.size
   ·have e:R=(out++[f],false,0):=by rw[<- HK.out,HU.out,if_pos (by omega)]
    subst e;have KC:Hid (∀W,Ag Aa 91 #[.string (t.extract p t.size),.string ⟨#[46]⟩] W fun e w'=>e=.returned (.tuple #[.string (t.extract p t.size),.bool false])/\w'=W):=fun W=>vA _ W (by rw[hz1];omega)
    have hze:((t.extract p t.size).toList == [])=true:=by
     have:(t.extract p t.size).toList=[]:=by rw[Da];exact AC (by have:(t.extract p t.size).data.toList.length=(t.extract p t.size).size:=rfl;omega)
     rw[this];rfl
    clear HU HK HR0 hdot hz1 HN1 hpt;go_wp2_with fail;refine(KP.out _).mono ?_;rintro e w1 ⟨rfl,H1⟩;obtain⟨ys,hO,hT⟩:=HW.out;have hnb:Blw wr (w1.alloc (.cells #[.string f] 9)):=H1.out.alloc H1.out.size _;have HO2:Hid (BF w.heap.size (w1.alloc (.cells #[.string f] 9)) u5 out.length ys 1000000000000/\ys.take out.length=out):=⟨hO.below hnb,hT⟩;have HNB:Hid (Blw wr (w1.alloc (.cells #[.string f] 9))):=hnb;clear hO hT hnb KP;go_wp2_with (at_builtin;refine BA tyN _ rfl _ _ 23 9 BV rfl w.heap.size _ out.length ys 1000000000000 rfl HO2.out.1 (some ⟨w1.heap.size,0,none⟩) 1 1 [f] rfl (EN w1 f) rfl (by intro s hs;simp at hs;subst hs;exact hlz) (by omega) (Aj HB.out.size HNB.out.size) ?_;intro v' w' ys' hO' hT' hG';have HB2:Hid (Blw w w'):=((HB.out.trans (HNB.out.mono HB.out.size)).grown hG' (Aj HB.out.size HNB.out.size) HO2.out.1.1.lt);clear hG');refine(KC.out _).mono ?_;rintro e w3 ⟨rfl,rfl⟩;clear KC;go_wp2
    go_ret3
    refine⟨v',ys',rfl,?_,?_,HB2.out⟩
    ·rw[Af];exact hO'.out
    ·rw[Af];exact hT'.out.trans (by rw[HO2.out.2])
   ·have hp1:p+1<=t.size:=by omega
    have h46:(t.extract p t.size).extract 0 1=⟨#[46]⟩:=by
     refine iZ _ (by rw[hz1];omega) ?_;rw[HN1.out,Am,List.getElem?_drop,Nat.add_zero,<- Am];exact hdot (by omega)
    have KC:Hid (∀W,Ag Aa 91 #[.string (t.extract p t.size),.string ⟨#[46]⟩] W fun e w'=>e=.returned (.tuple #[.string ((t.extract p t.size).extract 1 (t.extract p t.size).size),.bool true])/\w'=W):=fun W=>qX _ W (by rw[hz1];omega) (by rw[hz1];omega) h46
    have HN2:Hid (Ai ((t.extract p t.size).extract 1 (t.extract p t.size).size)=(Ai t).drop (p+1)):=by
     show _=_;rw[IG,HN1.out,List.drop_drop]
    have hz2:((t.extract p t.size).extract 1 (t.extract p t.size).size).size=t.size - (p+1):=by
     have:=congrArg FH HN2.out;rw[Av,Bg,Av]at this;exact this
    generalize (t.extract p t.size).extract 1 (t.extract p t.size).size=L at*;rw[if_neg (by omega),Bg,Av]at HU;clear h46 hdot hz1 HN1;by_cases hp2:p+1=t.size
    ·have e:R=(out++[f],true,0):=by rw[<- HK.out,HU.out,if_pos (by omega)]
     subst e;have hze:(L.toList == [])=true:=by
      have:L.toList=[]:=by rw[Da];exact AC (by have:L.data.toList.length=L.size:=rfl;omega)
      rw[this];rfl
     clear HU HK HR0 HN2 hz2 hp2;go_wp2_with fail;refine(KP.out _).mono ?_;rintro e w1 ⟨rfl,H1⟩;obtain⟨ys,hO,hT⟩:=HW.out;have hnb:Blw wr (w1.alloc (.cells #[.string f] 9)):=H1.out.alloc H1.out.size _;have HO2:Hid (BF w.heap.size (w1.alloc (.cells #[.string f] 9)) u5 out.length ys 1000000000000/\ys.take out.length=out):=⟨hO.below hnb,hT⟩;have HNB:Hid (Blw wr (w1.alloc (.cells #[.string f] 9))):=hnb;clear hO hT hnb KP;go_wp2_with (at_builtin;refine BA tyN _ rfl _ _ 23 9 BV rfl w.heap.size _ out.length ys 1000000000000 rfl HO2.out.1 (some ⟨w1.heap.size,0,none⟩) 1 1 [f] rfl (EN w1 f) rfl (by intro s hs;simp at hs;subst hs;exact hlz) (by omega) (Aj HB.out.size HNB.out.size) ?_;intro v' w' ys' hO' hT' hG';have HB2:Hid (Blw w w'):=((HB.out.trans (HNB.out.mono HB.out.size)).grown hG' (Aj HB.out.size HNB.out.size) HO2.out.1.1.lt);clear hG');refine(KC.out _).mono ?_;rintro e w3 ⟨rfl,rfl⟩;clear KC;go_wp2
     go_ret3
     refine⟨v',ys',rfl,?_,?_,HB2.out⟩
     ·rw[Af];exact hO'.out
     ·rw[Af];exact hT'.out.trans (by rw[HO2.out.2])
    ·have HK2:Hid (lgo (Ai L) (out++[f])=R):=by
      show _=_;rw[HN2.out,<- HK.out,HU.out,if_neg (by omega)]
     have hze:(L.toList == [])=false:=by
      cases hL:L.toList with
      |nil=>
       have:L.size=0:=by
        have h:=congrArg FH hL;rw[Da]at h;exact h
       omega
      |cons x l=>rfl
     clear HU HK HR0 HN2;go_wp2_with fail;refine(KP.out _).mono ?_;rintro e w1 ⟨rfl,H1⟩;obtain⟨ys,hO,hT⟩:=HW.out;have hnb:Blw wr (w1.alloc (.cells #[.string f] 9)):=H1.out.alloc H1.out.size _;have HO2:Hid (BF w.heap.size (w1.alloc (.cells #[.string f] 9)) u5 out.length ys 1000000000000/\ys.take out.length=out):=⟨hO.below hnb,hT⟩;have HNB:Hid (Blw wr (w1.alloc (.cells #[.string f] 9))):=hnb;clear hO hT hnb KP;go_wp2_with (at_builtin;refine BA tyN _ rfl _ _ 23 9 BV rfl w.heap.size _ out.length ys 1000000000000 rfl HO2.out.1 (some ⟨w1.heap.size,0,none⟩) 1 1 [f] rfl (EN w1 f) rfl (by intro s hs;simp at hs;subst hs;exact hlz) (by omega) (Aj HB.out.size HNB.out.size) ?_;intro v' w' ys' hO' hT' hG';have HB2:Hid (Blw w w'):=((HB.out.trans (HNB.out.mono HB.out.size)).grown hG' (Aj HB.out.size HNB.out.size) HO2.out.1.1.lt);clear hG');refine(KC.out _).mono ?_;rintro e w3 ⟨rfl,rfl⟩;clear KC;go_wp2;refine⟨⟨L,out++[f],rfl,by omega,by rw[Af,hz2];show out.length+1+_<=_;omega,HK2,⟨ys',?_,?_⟩,HB2⟩,by simp only[hz2];omega⟩
     ·rw[Af];exact hO'.out
     ·rw[Af];exact hT'.out.trans (by rw[HO2.out.2])
  ·have e:R=([],false,(Dx (Ai t)).2.2):=by rw[<- HK.out,HU.out,if_neg h0]
   subst e;generalize (Dx (Ai t)).2.2=q at*;have hq:(q != 0)=true:=bne_iff_ne.2 h0;clear HU HK HR0 h0;go_wp2_with fail;refine(KP.out _).mono ?_;rintro e w1 ⟨rfl,H1⟩;go_wp2
   go_ret3
   exact⟨.slice none 0 0,[],rfl,BF.nil _ _ _,rfl,HB.out.trans (H1.out.mono HB.out.size)⟩
theorem tM{w:Ab}{ao:Option Addr}{news:List Int}(hr:Rd w ao news):∀z∈news,0<=z/\z<=255:=by
 intro z hz;obtain⟨i,hi,rfl⟩:=List.getElem_of_mem hz;have:=hr.bd i;rw[Am,AF hi]at this;exact this
end Go.Proofs.YtoppdmlmhigogaaGreatDoor
namespace Go.Proofs.YtoppdmlmhigogaaGreatDoor
open Go.ChangeShapes Go.WideShapes Go.ChangeAt Go.RowKit Go.Sort
def Gv:List Int->Int × Nat
 |[]=>(0,0)
 |c::l=>if c≠92 then(c,1) else(match l with
  |[]=>(0,0)
  |d::r=>if CN d=false then(d,2) else(match r with
   |e::f::q=>if CN e=true/\CN f=true/\100*(d - 48)+10*(e - 48)+(f - 48)<=255 then(100*(d - 48)+10*(e - 48)+(f - 48),4) else(0,0)
   |_=>(0,0)))
theorem TE(l:List Int)(hl:l≠[])(h:(Gv l).2=0):FC l=none:=by
 match l,hl with
 |c::l,_=>
  rw[FC.eq_def];simp only[Gv]at h;by_cases hc:c=92
  ·subst hc;simp only[ne_eq,not_true,if_false]at h;simp only[if_true];match l with
   |[]=>rfl
   |d::r=>
    simp only at h ⊢;by_cases hd:CN d=false
    ·rw[if_pos hd]at h;simp at h
    ·have hd':CN d=true:=by simpa using hd
     rw[if_neg hd]at h;rw[if_pos hd'];match r with
     |[]=>rfl
     |[e]=>rfl
     |e::f::q=>
      simp only at h ⊢;rw[if_neg];intro hh;simp only[AA,decide_eq_true_eq]at hh;rw[if_pos ⟨hh.1.1,hh.1.2,hh.2⟩]at h;simp at h
  ·simp only[ne_eq,hc,not_false_eq_true,if_true]at h;simp at h
theorem SI(l:List Int)(h:(Gv l).2≠0):FC l=(FC (l.drop (Gv l).2)).map (fun o=>(Gv l).1::o)/\1<=(Gv l).2/\(Gv l).2<=l.length:=by
 match l with
 |[]=>simp[Gv]at h
 |c::l=>
  simp only[Gv]at h ⊢;by_cases hc:c=92
  ·subst hc;simp only[ne_eq,not_true,if_false]at h ⊢;match l with
   |[]=>simp at h
   |d::r=>
    simp only at h ⊢;by_cases hd:CN d=false
    ·rw[if_pos hd,UV d r hd];simp
    ·have hd':CN d=true:=by simpa using hd
     rw[if_neg hd]at h ⊢;match r with
     |[]=>simp at h
     |[e]=>simp at h
     |e::f::q=>
      simp only at h ⊢;by_cases hh:CN e=true/\CN f=true/\100*(d - 48)+10*(e - 48)+(f - 48)<=255
      ·rw[if_pos hh,Vu d e f q hd' hh.1 hh.2.1 hh.2.2];simp
      ·rw[if_neg hh]at h;simp at h
  ·simp only[ne_eq,hc,not_false_eq_true,if_true];rw[Rz c l hc];simp
theorem pM(l:List Int)(hb:∀z∈l,0<=z/\z<=255):0<=(Gv l).1/\(Gv l).1<=255:=by
 match l with
 |[]=>simp[Gv]
 |c::l=>
  simp only[Gv];have h1:=hb c (by simp);by_cases hc:c=92
  ·subst hc;simp only[ne_eq,not_true,if_false];match l with
   |[]=>simp
   |d::r=>
    simp only;have h2:=hb d (by simp);by_cases hd:CN d=false
    ·rw[if_pos hd];exact h2
    ·have hd':CN d=true:=by simpa using hd
     rw[if_neg hd];match r with
     |[]=>simp
     |[e]=>simp
     |e::f::q=>
      simp only;by_cases hh:CN e=true/\CN f=true/\100*(d - 48)+10*(e - 48)+(f - 48)<=255
      ·rw[if_pos hh];simp[CN]at hd' hh;simp only;omega
      ·rw[if_neg hh];simp
  ·simp only[ne_eq,hc,not_false_eq_true,if_true];exact h1
theorem Ox(c:Int)(w:Ab):Ag Aa 284 #[.int .u8 c] w fun e w'=>e=.returned (.bool (CN c))/\w'=w:=by
 go_enter Tryz.func284,Tryz.ntmps284;by_cases h1:(48:Int)<=c
 ·by_cases h2:c<=(57:Int)
  ·have e:CN c=true:=by simp[CN,h1,h2]
   rw[e];go_wp2_with fail;go_ret;exact⟨rfl,rfl⟩
  ·have e:CN c=false:=by simp[CN,h2]
   rw[e];go_wp2_with fail;go_ret;exact⟨rfl,rfl⟩
 ·have e:CN c=false:=by simp[CN,h1]
  rw[e];go_wp2_with fail;go_ret;exact⟨rfl,rfl⟩
theorem eR(s:ByteArray)(h3:s.size=3)(u:Nat)(hu:u<=255)(h:Bn 8 s.data.toList=.ok u)(w:Ab) :
  Ag Aa 285 #[.string s] w fun e w'=>e=.returned (.tuple #[.int .u8 (u:Int),.int .i64 4])/\Hid (Blw w w'):=by
 have K:=Ac (YE 8 (.inl rfl) s (by omega) u h w);have hu':(u:Int)<=255:=by omega
 go_enter Tryz.func285,Tryz.ntmps285;go_wp2_with fail;refine K.out.mono ?_;rintro e w' ⟨rfl,H⟩;go_wp2_with fail;go_ret2;refine⟨?_,H.out⟩;first|rfl|(simp[h3];done)|(rw[h3];rfl)
theorem pW(s:ByteArray)(hs:s.size<=281474976710656)(h:∀u,Bn 8 s.data.toList≠.ok u)(w:Ab)(hE:Cc w) :
  Ag Aa 285 #[.string s] w fun e w'=>e=.returned (.tuple #[.int .u8 0,.int .i64 0])/\Hid (Blw w w'):=by
 have K:=Ac (UT 8 (.inl rfl) s hs h w hE);go_enter Tryz.func285,Tryz.ntmps285;go_wp2_with fail;refine K.out.mono ?_;rintro e w' ⟨x,N,rfl,_,H⟩;go_wp2_with fail;go_ret2;exact⟨rfl,H.out⟩
theorem EW(s:ByteArray)(p:Nat)(h:p<s.size):(Ai s).drop p=(s[p].toNat:Int)::(Ai s).drop (p+1):=by
 rw[El (by rw[Av];exact h)];congr 1
 have:=Ef s p h;rw[Am,AF (by rw[Av];exact h)]at this;simpa using this
theorem gD(s:ByteArray)(p:Nat)(h:s.size<=p):(Ai s).drop p=[]:=DH (by rw[Av];exact h)
theorem XS(s:ByteArray)(h:3<s.size):(s.extract 1 4).data.toList=[s[1],s[2],s[3]]:=by
 apply sR
 rw[<- CR,Nc];have e:Ai s=(s[0].toNat:Int)::(s[1].toNat:Int)::(s[2].toNat:Int)::(s[3].toNat:Int)::(Ai s).drop 4:=by
  have h0:Ai s=(Ai s).drop 0:=rfl;rw[h0,EW s 0 (by omega),EW s 1 (by omega),EW s 2 (by omega),EW s 3 (by omega)]
  rfl
 rw[e]
 rfl
def F1(s:ByteArray)(c:Int)(n:Nat):Prop:=Gv (Ai s)=(c,n)
theorem bJ(s:ByteArray)(h0:0<s.size)(hs:s.size<=281474976710656)(w:Ab)(hE:Cc w) :
  Ag Aa 269 #[.string s] w fun e w'=>∃(c:Int) (n:Nat),e=.returned (.tuple #[.int .u8 c,.int .i64 (n:Int)])/\Hid (F1 s c n)/\Hid (Blw w w'):=by
 have HE:=Ac hE;have h0':(0:Int)<(s.size:Int):=by omega
 have hbd0:=Lf s 0;rw[Ef s 0 h0]at hbd0;have e0:Ai s=(s[0].toNat:Int)::(Ai s).drop 1:=EW s 0 h0;by_cases h92:(s[0].toNat:Int)=92
 ·have h92b:((s[0].toNat:Int) != 92)=false:=by simp[h92]
  rw[h92]at e0;by_cases h1:1<s.size
  ·have h1':(1:Int)<(s.size:Int):=by omega
   have hbd1:=Lf s 1;rw[Ef s 1 h1]at hbd1;rw[EW s 1 h1]at e0;by_cases hd:CN (s[1].toNat:Int)=true
   ·by_cases h3:3<s.size
    ·have h3':(3:Int)<(s.size:Int):=by omega
     rw[EW s 2 (by omega),EW s 3 h3]at e0;have e3:=XS s h3;have hsz:(s.extract 1 4).size=3:=by rw[ByteArray.size_extract];omega
     by_cases hok:∃u,Bn 8 (s.extract 1 4).data.toList=.ok u
     ·obtain⟨u,hu⟩:=hok;have hu2:=hu;rw[e3,VU]at hu2;obtain⟨_,d2,d3,hv,hu255⟩:=hu2;have HF:Hid (F1 s u 4):=by
       show Gv (Ai s)=_;rw[e0];simp only[Gv];rw[if_neg (by simp),if_neg (by rw[hd];simp),if_pos ⟨d2,d3,by omega⟩,hv]
      have K:=Ac (fun W=>eR (s.extract 1 4) hsz u hu255 hu W);have KD:=Ac (fun W=>Ox (s[1].toNat:Int) W);rw[hd]at KD;clear e0 e3 hu hv d2 d3 hd hsz HE;go_enter Jv,Iz;go_wp2_with (go_at_call 284;refine(KD.out _).mono ?_;rintro e w' ⟨rfl,hw⟩;subst w');refine(K.out _).mono ?_;rintro e w' ⟨rfl,H⟩;go_wp2_with fail;go_ret2;exact⟨_,4,rfl,HF,H.out⟩
     ·have hno:∀u,Bn 8 (s.extract 1 4).data.toList≠.ok u:=fun u hu=>hok ⟨u,hu⟩
      have HF:Hid (F1 s 0 0):=by
       show Gv (Ai s)=_;rw[e0];simp only[Gv];rw[if_neg (by simp),if_neg (by rw[hd];simp),if_neg];rintro⟨d2,d3,hv⟩;have b2:48<=(s[2].toNat:Int)/\(s[2].toNat:Int)<=57:=by simpa[CN] using d2
       have b3:48<=(s[3].toNat:Int)/\(s[3].toNat:Int)<=57:=by simpa[CN] using d3
       have b1:48<=(s[1].toNat:Int)/\(s[1].toNat:Int)<=57:=by simpa[CN] using hd
       refine hno (100*((s[1].toNat:Int) - 48)+10*(s[2].toNat - 48)+(s[3].toNat - 48):Int).toNat ?_;rw[e3,VU];exact⟨hd,d2,d3,by omega,by omega⟩
      have K:=Ac (pW (s.extract 1 4) (by rw[hsz];omega) hno w HE.out);have KD:=Ac (fun W=>Ox (s[1].toNat:Int) W);rw[hd]at KD;clear e0 e3 hd hsz HE hno hok;go_enter Jv,Iz;go_wp2_with (go_at_call 284;refine(KD.out _).mono ?_;rintro e w' ⟨rfl,hw⟩;subst w');refine K.out.mono ?_;rintro e w' ⟨rfl,H⟩;go_wp2_with fail;go_ret2;exact⟨_,0,rfl,HF,H.out⟩
    ·have h3':¬ (3:Int)<(s.size:Int):=by omega
     have HF:Hid (F1 s 0 0):=by
      show Gv (Ai s)=_;rw[e0];simp only[Gv];rw[if_neg (by simp),if_neg (by rw[hd];simp)];have hl:((Ai s).drop (1+1)).length<=1:=by rw[Bg,Av];omega
      generalize (Ai s).drop (1+1)=r at hl;match r,hl with
      |[],_=>rfl
      |[a],_=>rfl
      |a::b::c,hl=>simp at hl
     have KD:=Ac (fun W=>Ox (s[1].toNat:Int) W);rw[hd]at KD;clear e0 hd HE;go_enter Jv,Iz;go_wp2_with (go_at_call 284;refine(KD.out _).mono ?_;rintro e w' ⟨rfl,hw⟩;subst w');go_ret2;exact⟨_,0,rfl,HF,Ae _ _⟩
   ·have hdf:CN (s[1].toNat:Int)=false:=by simpa using hd
    have HF:Hid (F1 s (s[1].toNat:Int) 2):=by
     show Gv (Ai s)=_;rw[e0];simp only[Gv];rw[if_neg (by simp),if_pos hdf]
    have KD:=Ac (fun W=>Ox (s[1].toNat:Int) W);rw[hdf]at KD;clear e0 hd HE hdf;go_enter Jv,Iz;go_wp2_with (go_at_call 284;refine(KD.out _).mono ?_;rintro e w' ⟨rfl,hw⟩;subst w');go_ret2;exact⟨_,2,rfl,HF,Ae _ _⟩
  ·have h1':¬ (1:Int)<(s.size:Int):=by omega
   have h3':¬ (3:Int)<(s.size:Int):=by omega
   have HF:Hid (F1 s 0 0):=by
    show Gv (Ai s)=_;rw[e0,gD s 1 (by omega)];simp only[Gv];rw[if_neg (by simp)]
   clear e0 HE;go_enter Jv,Iz;go_wp2_with fail;go_ret2;exact⟨_,0,rfl,HF,Ae _ _⟩
 ·have h92b:((s[0].toNat:Int) != 92)=true:=by simp[h92]
  have HF:Hid (F1 s (s[0].toNat:Int) 1):=by
   show Gv (Ai s)=_;rw[e0];simp only[Gv];rw[if_pos h92]
  go_enter Jv,Iz;go_wp2_with fail;go_ret2;exact⟨_,1,rfl,HF,Ae _ _⟩
def Ga(l:List Int):ByteArray × Int:=match FC l with|some o=>(lb o,0)|none=>(⟨#[]⟩,7)
theorem WV{l:List Int}(h:FC l=none):Ga l=(⟨#[]⟩,7):=by unfold Ga;rw[h]
theorem WU{l o:List Int}(h:FC l=some o):Ga l=(lb o,0):=by unfold Ga;rw[h]
def rV:Ao->Nat | .string t=>t.size|_=>0
def StB(s t:ByteArray)(out:List Int):Prop:=FC (Ai s)=(FC (Ai t)).map (fun o=>out++o)
theorem Xz(s:ByteArray)(w:Ab)(hs:s.size<=140737488355328)(hE:Cc w) :
  Ag Aa 247 #[.string s] w fun e w'=>e=.returned (.tuple #[.string (Ga (Ai s)).1,.int .i64 (Ga (Ai s)).2])/\Hid (Blw w w'):=by
 have HE:Hid (Cc w):=hE;clear hE;have H0:Hid (Own w.heap.size (w.alloc (.cells (CF s.size (AL .u8 0)) 5)) (.slice (some ⟨w.heap.size,0,none⟩) 0 s.size) 0 (AM s.size 0)/\Blw w (w.alloc (.cells (CF s.size (AL .u8 0)) 5))):=by
  have e:CF s.size (AL .u8 0)=((AM s.size (0:Int)).map (AL .u8)).toArray:=by simp
  rw[e];refine⟨.inr ⟨w.heap.size,by simp,Ad _,⟨Au _ _,fun z hz=>?_⟩,Aw _,by simp[Gi];omega⟩,(Ae _ _).alloc (Ad _) _⟩;rw[MW]at hz;omega
 go_enter Tryz.func247,Tryz.ntmps247;go_wp2_with (at_make;refine Ls _ rfl _ _ rfl 0 s.size _ _ rfl rfl rfl rfl (Aw _) (by omega) ?_);generalize (w.alloc (.cells (CF s.size (AL .u8 0)) 5))=wa at*;go_loopw [0,4] (fun x v wr=>∃(t:ByteArray) (out:List Int),x=.string t/\out.length+t.size<=s.size/\Hid (StB s t out)/\Hid (∃ys,Own w.heap.size wr v out.length ys/\ys.take out.length=out)/\Hid (Blw w wr)) (fun x _ _=>rV x)
 case atStart=>exact⟨s,[],rfl,by simp,(by show _=_;simp),⟨_,H0.out.1,by simp⟩,H0.out.2⟩
 case round=>
  clear H0;obtain⟨t,out,rfl,hle,HS,HW,HB⟩:=hrel;by_cases h0:0<t.size
  ·have h0':(0:Int)<(t.size:Int):=by omega
   go_wp2_with fail;refine(bJ t h0 (by omega) wr (HE.out.below HB.out)).mono ?_;rintro e w1 ⟨c,n,rfl,HF,H1⟩;have HB1:Hid (Blw w w1):=HB.out.trans (H1.out.mono HB.out.size);by_cases hn:n=0
   ·subst hn;have HQ:Hid (Ga (Ai s)=(⟨#[]⟩,7)):=by
     refine WV ?_;have h1:FC (Ai t)=none:=TE _ (fun e=>by have:=Av t;rw[e]at this;simp at this;omega) (by rw[HF.out]);have h2:=HS.out;unfold StB at h2;rw[h2,h1];rfl
    go_wp2_with fail;go_ret2;exact⟨by rw[HQ.out];rfl,HB1.out⟩
   ·have hn':¬ (n:Int)=0:=by omega
    have hn2:((n:Int) == 0)=false:=by rw[beq_eq_false_iff_ne];exact hn'
    have hq:=SI (Ai t) (by rw[HF.out];exact hn);have hbd:=pM (Ai t) (MF t);rw[HF.out]at hq hbd;simp only at hq hbd;rw[Av]at hq;obtain⟨hq1,hq2,hq3⟩:=hq;have hq3':(n:Int)<=(t.size:Int):=by omega
    have HS2:Hid (StB s (t.extract n t.size) (out++[c])):=by
     have h2:=HS.out;show _=_;unfold StB at h2;rw[h2,hq1,IG,Option.map_map];congr 1
     funext o
     simp[Function.comp]
    have HT2:Hid ((t.extract n t.size).size=t.size - n):=by show _=_;rw[ByteArray.size_extract];omega
    clear hq1;obtain⟨ys,hO,hT⟩:=HW.out;have hnb:Blw w1 (w1.alloc (.cells #[.int .u8 c] 5)):=(Ae _ _).alloc (Ad _) _;have HO2:Hid (Own w.heap.size (w1.alloc (.cells #[.int .u8 c] 5)) u4 out.length ys/\ys.take out.length=out):=⟨(hO.below H1.out).below hnb,hT⟩;have HR2:Hid (Rd (w1.alloc (.cells #[.int .u8 c] 5)) (some ⟨w1.heap.size,0,none⟩) [c]):=Uj w1 _ hbd;have HNB:Hid (Blw w1 (w1.alloc (.cells #[.int .u8 c] 5))):=hnb;clear hO hT hnb HW HB H1;go_wp2_with (at_builtin;refine Cz _ rfl _ _ rfl w.heap.size _ out.length ys rfl HO2.out.1 (some ⟨w1.heap.size,0,none⟩) 1 1 [c] rfl HR2.out rfl (by simp) (by omega) (Aj HB1.out.size HNB.out.size) ?_;intro v' w' ys' hO' hT' hG');have hrow:=HO2.out.1.lt;refine⟨⟨t.extract n t.size,out++[c],rfl,?_,HS2,⟨ys',?_,?_⟩,?_⟩,?_⟩
    ·rw[HT2.out,Af,Ch];omega
    ·rw[Af];exact hO'.out
    ·rw[Af];exact hT'.out.trans (by rw[HO2.out.2])
    ·exact(HB1.out.trans (HNB.out.mono HB1.out.size)).grown hG' (Aj HB1.out.size HNB.out.size) hrow
    ·simp only[rV];rw[HT2.out];omega
  ·have h0':¬ (0:Int)<(t.size:Int):=by omega
   have HQ:Hid (Ga (Ai s)=(lb out,0)):=by
    refine WU ?_;have h2:=HS.out;unfold StB at h2;have h3:Ai t=[]:=Aq.1 (by rw[Av];omega);rw[h2,h3];simp[FC]
   obtain⟨ys,hO,hT⟩:=HW.out;obtain⟨ao,rfl,hA⟩:=hO.addr;have hcv:=Hk ao out.length ys.length out wr (by have:=hA.rdTake out.length;rw[hT]at this;exact this) rfl;have HL:Hid (lb out=⟨(txt out).toArray⟩):=rfl;clear hO hT HW hA;generalize ys.length=yl at*;go_wp2_with fail;go_ret2;exact⟨by rw[HQ.out];rfl,HB.out⟩
end Go.Proofs.YtoppdmlmhigogaaGreatDoor
namespace Go.Proofs.YtoppdmlmhigogaaGreatDoor
open Go.ChangeShapes Go.WideShapes Go.ChangeAt Go.RowKit
structure Dat where
 ns:List (List ByteArray)
 us:List Nat
 ts:List ByteArray
 raw:List Int
structure Shp where
 nn:Nat
 nu:Nat
 nt:Int
 nr:Int
 wd:Nat
def shp(t:Nat):Shp:=
 if t=1 then⟨0,0,0,4,0⟩ else if t=28 then⟨0,0,0,16,0⟩ else if t=2∨t=5∨t=12 then⟨1,0,0,0,0⟩ else if t=6 then⟨2,5,0,0,4⟩ else
 if t=15 then⟨1,1,0,0,2⟩ else if t=33 then⟨1,3,0,0,2⟩ else if t=16 then⟨0,0,-1,0,0⟩ else if t=257 then⟨0,1,2,0,1⟩ else⟨0,0,0,-1,0⟩
def Gz(t:Nat):Bool:=decide (t≠0) && (decide (t<128) || decide (255<t))
def Cg(wd:Nat):Nat:=if wd=1 then 255 else if wd=2 then 65535 else 4294967295
def Oi(z:Int):Bool:=(decide (97<=z) && decide (z<=122)) || (decide (65<=z) && decide (z<=90)) || (decide (48<=z) && decide (z<=57))
def tagB(s:ByteArray):Bool:=decide (1<=s.size) && decide (s.size<=15) && (Ai s).all Oi
def Ir(t:Nat)(d:Dat):Bool:=
 decide (d.ns.length=(shp t).nn) && decide (d.us.length=(shp t).nu) && (decide ((shp t).nt<0) || decide ((d.ts.length:Int)=(shp t).nt)) && (decide (0<=(shp t).nt) || decide (d.ts.length≠0)) &&
 (decide ((shp t).nr<0) || decide ((d.raw.length:Int)=(shp t).nr)) && d.us.all (fun n=>decide (n<=Cg (shp t).wd)) && (decide (t≠16) || d.ts.all (fun s=>decide (s.size<=255))) && (decide (t≠257) || tagB (d.ts.getD 0 ⟨#[]⟩))
def tsz(t:Nat)(l:List ByteArray):Nat:=if t=16 then(nby l).length else(match l with|[]=>0|s::r=>s.size+1+(r.flatMap Ai).length)
def Jf(t:Nat)(d:Dat):Nat:=d.raw.length+d.us.length*(shp t).wd+(d.ns.map nsz).sum+tsz t d.ts
def Gu:List (List ByteArray)->Int
 |[]=>0
 |n::r=>if nck n=0 then Gu r else nck n
def Bw(t:Nat)(d:Dat):Int:=if Gz t then(if Ir t d then(if Gu d.ns=0 then(if 65535<Jf t d then 3 else 0) else Gu d.ns) else 7) else 6
def BR(n wd:Nat):List Int:=if wd=1 then[(n:Int)] else if wd=2 then[((n / 256:Nat):Int),((n % 256:Nat):Int)] else[((n / 16777216:Nat):Int),((n / 65536 % 256:Nat):Int),((n / 256 % 256:Nat):Int),((n % 256:Nat):Int)]
def nmB(n:List ByteArray):List Int:=nby n++[0]
def tsB(t:Nat)(l:List ByteArray):List Int:=if t=16 then nby l else(match l with|[]=>[]|s::r=>((s.size:Int)::Ai s)++r.flatMap Ai)
def CD(t:Nat)(d:Dat):List Int:=if t=6 then d.ns.flatMap nmB++d.us.flatMap (fun n=>BR n 4) else d.us.flatMap (fun n=>BR n (shp t).wd)++d.ns.flatMap nmB++tsB t d.ts++d.raw
def RZ(b:List Int)(p:Nat):Option (List ByteArray × Nat):=if p<b.length then(match rgo b p [] with|some (o,q)=>if nck o=0 then some (o,q) else none|none=>none) else none
def Re(b:List Int)(p wd:Nat):Nat:=(val ((b.drop p).take wd)).toNat
def Sf(b:List Int)(p:Nat):Option (List ByteArray):=
 if h:p<b.length then(if p+1+(b.getD p 0).toNat<=b.length then(Sf b (p+1+(b.getD p 0).toNat)).map (lb ((b.drop (p+1)).take (b.getD p 0).toNat)::·) else none) else some []
termination_by b.length - p
decreasing_by omega
def Jh(t:Nat)(b:List Int):Option Dat:=
 if t=6 then(RZ b 0).bind fun x=>(RZ b x.2).bind fun y=>if y.2+20<=b.length then some ⟨[x.1,y.1],[Re b y.2 4,Re b (y.2+4) 4,Re b (y.2+8) 4,Re b (y.2+12) 4,Re b (y.2+16) 4],[],[]⟩ else none
 else if (shp t).nn=1 then(if (shp t).nu*(shp t).wd<=b.length then(RZ b ((shp t).nu*(shp t).wd)).map fun x=>⟨[x.1],(List.range (shp t).nu).map (fun i=>Re b (i*(shp t).wd) (shp t).wd),[],[]⟩ else none)
 else if t=16 then(Sf b 0).map fun l=>⟨[],[],l,[]⟩
 else if t=257 then(if 2<=b.length/\2+(b.getD 1 0).toNat<=b.length then some ⟨[],[Re b 0 1],[lb ((b.drop 2).take (b.getD 1 0).toNat),lb (b.drop (2+(b.getD 1 0).toNat))],[]⟩ else none)
 else some ⟨[],[],[],b⟩
def JI(t:Nat)(b:List Int):Option Dat:=(Jh t b).bind fun d=>if Bw t d=0/\CD t d=b then some d else none
theorem Qq(n:List ByteArray):(nmB n).length=nsz n:=by
 have:=Ot n;simp[nmB];omega
theorem Kh(P R:List Int)(n:List ByteArray)(h:nck n=0):RZ (P++(nmB n++R)) P.length=some (n,P.length+nsz n):=by
 unfold RZ;have hl:=Qq n;have hz:1<=nsz n:=by have:=Gt n;omega
 have e:P++(nmB n++R)=P++(nby n++(0::R)):=by simp[nmB]
 rw[if_pos (by simp[hl];omega),e,YN n P R [] (BI h).2];have:=Ot n;simp[h];omega
theorem Fm(n wd:Nat)(h:wd=1∨wd=2∨wd=4):(BR n wd).length=wd:=by
 obtain rfl|rfl|rfl:=h <;> simp[BR]
theorem Vj(n wd:Nat)(h:(wd=1/\n<=255)∨(wd=2/\n<=65535)∨(wd=4/\n<=4294967295)):(val (BR n wd)).toNat=n:=by
 obtain⟨rfl,h⟩|⟨rfl,h⟩|⟨rfl,h⟩:=h
 ·simp[BR,val]
 ·simp only[BR,val];simp;omega
 ·simp only[BR,val];simp;omega
theorem ID(P R:List Int)(n wd p:Nat)(h:(wd=1/\n<=255)∨(wd=2/\n<=65535)∨(wd=4/\n<=4294967295))(hp:p=P.length):Re (P++(BR n wd++R)) p wd=n:=by
 subst hp;unfold Re;have hl:=Fm n wd (by omega);rw[List.drop_left,Bs (by omega),Al (by omega)];exact Vj n wd h
theorem SD:∀(l:List ByteArray) (P:List Int),Sf (P++nby l) P.length=some l
 |[],P=>by
  rw[Sf,dif_neg (by simp[nby])]
 |s::r,P=>by
  have hf:nby (s::r)=(s.size:Int)::(Ai s++nby r):=by simp[nby]
  have hg:(P++nby (s::r)).getD P.length 0=(s.size:Int):=by rw[hf];simp[Am]
  have hl:(P++nby (s::r)).length=P.length+(1+(s.size+(nby r).length)):=by rw[hf];simp[Av];omega
  rw[Sf,dif_pos (by rw[hl];omega),hg,BM,if_pos (by rw[hl];omega)];have ih:=SD r (P++((s.size:Int)::Ai s));have e1:P++nby (s::r)=P++((s.size:Int)::Ai s)++nby r:=by rw[hf];simp
  have e2:(P++((s.size:Int)::Ai s)).length=P.length+1+s.size:=by simp[Av];omega
  have hd:((P++nby (s::r)).drop (P.length+1)).take s.size=Ai s:=by
   rw[hf,Pu,DH (by omega),NS,AQ];show(Ai s++_).take s.size=Ai s;rw[Bs (by rw[Av];exact Ad _),Al (by rw[Av];exact Ad _)]
  have hlb:lb (Ai s)=s:=Ey s;rw[e2]at ih;rw[hd,hlb];conv=>lhs;arg 2;rw[e1]
  rw[ih]
  rfl
theorem Tw:∀l:List (List ByteArray),Gu l=0↔∀n∈l,nck n=0
 |[]=>by simp[Gu]
 |n::r=>by
  have ih:=Tw r;unfold Gu;by_cases h:nck n=0
  ·rw[if_pos h,ih];simp[h]
  ·rw[if_neg h];simp[h]
theorem Eg{t:Nat}{d:Dat}(h:Bw t d=0):Gz t=true/\Ir t d=true/\(∀n∈d.ns,nck n=0)/\Jf t d<=65535:=by
 unfold Bw at h;split at h
 ·rename_i h1
  split at h
  ·rename_i h2
   split at h
   ·rename_i h3
    split at h
    ·cases h
    ·rename_i h4
     exact⟨h1,h2,(Tw _).1 h3,by omega⟩
   ·rename_i h3;exact absurd h h3
  ·cases h
 ·cases h
structure Fit(t:Nat)(d:Dat):Prop where
 ns:d.ns.length=(shp t).nn
 us:d.us.length=(shp t).nu
 ts:(shp t).nt<0∨(d.ts.length:Int)=(shp t).nt
 t1:0<=(shp t).nt∨d.ts.length≠0
 raw:(shp t).nr<0∨(d.raw.length:Int)=(shp t).nr
 un:∀n∈d.us,n<=Cg (shp t).wd
 tx:t=16->∀s∈d.ts,s.size<=255
 tg:t=257->tagB (d.ts.getD 0 ⟨#[]⟩)=true
theorem Ue(t:Nat)(d:Dat):Ir t d=true↔Fit t d:=by
 unfold Ir;simp only[AA,Ct,decide_eq_true_eq,AO];constructor
 ·rintro⟨⟨⟨⟨⟨⟨⟨a,b⟩,c⟩,e⟩,f⟩,g⟩,h⟩,i⟩;exact⟨a,b,c,e,f,g,fun ht=>h.resolve_left (fun hn=>hn ht),fun ht=>i.resolve_left (fun hn=>hn ht)⟩
 ·rintro⟨a,b,c,e,f,g,h,i⟩;refine⟨⟨⟨⟨⟨⟨⟨a,b⟩,c⟩,e⟩,f⟩,g⟩,?_⟩,?_⟩
  ·by_cases ht:t=16
   ·exact .inr (h ht)
   ·exact .inl ht
  ·by_cases ht:t=257
   ·exact .inr (i ht)
   ·exact .inl ht
theorem IH{α:Type}{l:List α}(h:l.length=0):l=[]:=AC h
theorem Sk{α:Type}{l:List α}(h:l.length=1):∃a,l=[a]:=List.length_eq_one_iff.1 h
theorem WI{α:Type}{l:List α}(h:l.length=2):∃a b,l=[a,b]:=by
 match l,h with
 |[a,b],_=>exact⟨a,b,rfl⟩
theorem yT{α:Type}{l:List α}(h:l.length=3):∃a b c,l=[a,b,c]:=by
 match l,h with
 |[a,b,c],_=>exact⟨a,b,c,rfl⟩
theorem xO{α:Type}{l:List α}(h:l.length=5):∃a b c e f,l=[a,b,c,e,f]:=by
 match l,h with
 |[a,b,c,e,f],_=>exact⟨a,b,c,e,f,rfl⟩
theorem Gc(t:Nat):(t=1/\shp t=⟨0,0,0,4,0⟩)∨(t=28/\shp t=⟨0,0,0,16,0⟩)∨((t=2∨t=5∨t=12)/\shp t=⟨1,0,0,0,0⟩)∨(t=6/\shp t=⟨2,5,0,0,4⟩)∨(t=15/\shp t=⟨1,1,0,0,2⟩)∨(t=33/\shp t=⟨1,3,0,0,2⟩)∨(t=16/\shp t=⟨0,0,-1,0,0⟩)∨(t=257/\shp t=⟨0,1,2,0,1⟩) ∨
  ((t≠1/\t≠28/\t≠2/\t≠5/\t≠12/\t≠6/\t≠15/\t≠33/\t≠16/\t≠257)/\shp t=⟨0,0,0,-1,0⟩):=by
 by_cases h1:t=1
 ·subst h1;left;exact⟨rfl,rfl⟩
 by_cases h2:t=28
 ·subst h2;right;left;exact⟨rfl,rfl⟩
 by_cases h3:t=2∨t=5∨t=12
 ·right;right;left;refine⟨h3,?_⟩;obtain rfl|rfl|rfl:=h3 <;> rfl
 by_cases h4:t=6
 ·subst h4;right;right;right;left;exact⟨rfl,rfl⟩
 by_cases h5:t=15
 ·subst h5;right;right;right;right;left;exact⟨rfl,rfl⟩
 by_cases h6:t=33
 ·subst h6;right;right;right;right;right;left;exact⟨rfl,rfl⟩
 by_cases h7:t=16
 ·subst h7;right;right;right;right;right;right;left;exact⟨rfl,rfl⟩
 by_cases h8:t=257
 ·subst h8;right;right;right;right;right;right;right;left;exact⟨rfl,rfl⟩
 ·right;right;right;right;right;right;right;right
  refine⟨⟨h1,h2,fun e=>h3 (.inl e),fun e=>h3 (.inr (.inl e)),fun e=>h3 (.inr (.inr e)),h4,h5,h6,h7,h8⟩,?_⟩;unfold shp;rw[if_neg h1,if_neg h2,if_neg h3,if_neg h4,if_neg h5,if_neg h6,if_neg h7,if_neg h8]
theorem Wp(t:Nat)(d:Dat)(h:Bw t d=0):Jh t (CD t d)=some d:=by
 obtain⟨h1,h2,h3,h4⟩:=Eg h;have hf:=(Ue t d).1 h2;obtain⟨ns,us,ts,raw⟩:=d;obtain⟨fns,fus,fts,ft1,fraw,fun_,ftx,ftg⟩:=hf;simp only at fns fus fts ft1 fraw fun_ ftx ftg h3;obtain⟨rfl,e⟩|⟨rfl,e⟩|⟨ht,e⟩|⟨rfl,e⟩|⟨rfl,e⟩|⟨rfl,e⟩|⟨rfl,e⟩|⟨rfl,e⟩|⟨ht,e⟩:=Gc t <;> rw[e]at fns fus fts ft1 fraw fun_ <;> simp only at fns fus fts ft1 fraw fun_
 rotate_left
 rotate_left
 ·obtain⟨n,rfl⟩:=Sk fns;obtain rfl:=IH fus;obtain rfl:=IH (l:=ts) (by omega);obtain rfl:=IH (l:=raw) (by omega);have hg:=Kh [] [] n (h3 n (by simp));simp only[AQ,CZ,List.append_nil]at hg;have h6:t≠6:=by obtain rfl|rfl|rfl:=ht <;> decide
  have hw:CD t ⟨[n],[],[],[]⟩=nmB n:=by
   unfold CD tsB;rw[if_neg h6];split <;> simp[nby]
  rw[hw];unfold Jh;rw[if_neg h6,e];simp[hg]
 ·obtain⟨n,m,rfl⟩:=WI fns;obtain⟨a,b,c,x,y,rfl⟩:=xO fus;obtain rfl:=IH (l:=ts) (by omega);obtain rfl:=IH (l:=raw) (by omega);have hb:∀z∈[a,b,c,x,y],z<=4294967295:=fun_;have hw:CD 6 ⟨[n,m],[a,b,c,x,y],[],[]⟩=nmB n++(nmB m++(BR a 4++(BR b 4++(BR c 4++(BR x 4++(BR y 4++[])))))):=by simp[CD]
  rw[hw];have g1:=Kh [] (nmB m++(BR a 4++(BR b 4++(BR c 4++(BR x 4++(BR y 4++[])))))) n (h3 n (by simp));have g2:=Kh (nmB n) (BR a 4++(BR b 4++(BR c 4++(BR x 4++(BR y 4++[]))))) m (h3 m (by simp));have l1:=Qq n;have l2:=Qq m;have na:=Fm a 4 (by simp);have nb:=Fm b 4 (by simp);have nc:=Fm c 4 (by simp);have nx:=Fm x 4 (by simp);have ny:=Fm y 4 (by simp);have k1:=ID (nmB n++nmB m) (BR b 4++(BR c 4++(BR x 4++(BR y 4++[])))) a 4 (nsz n+nsz m) (.inr (.inr ⟨rfl,hb a (by simp)⟩)) (by simp[l1,l2]);have k2:=ID (nmB n++nmB m++BR a 4) (BR c 4++(BR x 4++(BR y 4++[]))) b 4 (nsz n+nsz m+4) (.inr (.inr ⟨rfl,hb b (by simp)⟩)) (by simp only[Af,l1,l2,na]);have k3:=ID (nmB n++nmB m++BR a 4++BR b 4) (BR x 4++(BR y 4++[])) c 4 (nsz n+nsz m+8) (.inr (.inr ⟨rfl,hb c (by simp)⟩)) (by simp only[Af,l1,l2,na,nb]);have k4:=ID (nmB n++nmB m++BR a 4++BR b 4++BR c 4) (BR y 4++[]) x 4 (nsz n+nsz m+12) (.inr (.inr ⟨rfl,hb x (by simp)⟩)) (by simp only[Af,l1,l2,na,nb,nc]);have k5:=ID (nmB n++nmB m++BR a 4++BR b 4++BR c 4++BR x 4) [] y 4 (nsz n+nsz m+16) (.inr (.inr ⟨rfl,hb y (by simp)⟩)) (by simp only[Af,l1,l2,na,nb,nc,nx]);simp only[AR]at k1 k2 k3 k4 k5;simp only[AQ,CZ,Fg]at g1;rw[l1]at g2;unfold Jh;rw[if_pos rfl,g1];simp only[BL];rw[g2];simp only[BL]
  rw[if_pos (by simp[l1,l2,na,nb,nc,nx,ny];omega),k1,k2,k3,k4,k5]
 ·obtain⟨n,rfl⟩:=Sk fns;obtain⟨a,rfl⟩:=Sk fus;obtain rfl:=IH (l:=ts) (by omega);obtain rfl:=IH (l:=raw) (by omega);have hb:∀z∈[a],z<=65535:=fun_;have hw:CD 15 ⟨[n],[a],[],[]⟩=BR a 2++(nmB n++[]):=by simp[CD,e,tsB]
  rw[hw];have na:=Fm a 2 (by simp);have g1:=Kh (BR a 2) [] n (h3 n (by simp));have k1:=ID [] (nmB n++[]) a 2 0 (.inr (.inl ⟨rfl,hb a (by simp)⟩)) rfl;rw[na]at g1;simp only[AQ]at k1;unfold Jh;rw[if_neg (by decide),e];simp only[if_true];rw[if_pos (by simp[na]),show 1*2=2 from rfl,g1];simp[List.range_succ];simpa using k1
 ·obtain⟨n,rfl⟩:=Sk fns;obtain⟨a,b,c,rfl⟩:=yT fus;obtain rfl:=IH (l:=ts) (by omega);obtain rfl:=IH (l:=raw) (by omega);have hb:∀z∈[a,b,c],z<=65535:=fun_;have hw:CD 33 ⟨[n],[a,b,c],[],[]⟩=BR a 2++(BR b 2++(BR c 2++(nmB n++[]))):=by simp[CD,e,tsB]
  rw[hw];have na:=Fm a 2 (by simp);have nb:=Fm b 2 (by simp);have nc:=Fm c 2 (by simp);have g1:=Kh (BR a 2++BR b 2++BR c 2) [] n (h3 n (by simp));have k1:=ID [] (BR b 2++(BR c 2++(nmB n++[]))) a 2 0 (.inr (.inl ⟨rfl,hb a (by simp)⟩)) rfl;have k2:=ID (BR a 2) (BR c 2++(nmB n++[])) b 2 2 (.inr (.inl ⟨rfl,hb b (by simp)⟩)) (by rw[na]);have k3:=ID (BR a 2++BR b 2) (nmB n++[]) c 2 4 (.inr (.inl ⟨rfl,hb c (by simp)⟩)) (by simp[na,nb]);simp only[AR,Af,na,nb,nc,AQ]at g1 k1 k2 k3;unfold Jh;rw[if_neg (by decide),e];simp only[if_true];rw[if_pos (by simp[na,nb,nc];omega),show 3*2=2+(2+2) from rfl,g1];simp only[Option.map_some];rw[show List.range 3=[0,1,2] from rfl];simp only[Bh,Df,Nat.zero_mul,Nat.one_mul];rw[k1,k2,show 2*2=4 from rfl,k3]
 ·obtain rfl:=IH fns;obtain rfl:=IH fus;obtain rfl:=IH (l:=raw) (by omega);have hw:CD 16 ⟨[],[],ts,[]⟩=nby ts:=by simp[CD,tsB]
  have g1:=SD ts [];simp only[AQ,CZ]at g1;rw[hw];unfold Jh;rw[if_neg (by decide),e];simp[g1]
 ·obtain rfl:=IH fns;obtain⟨a,rfl⟩:=Sk fus;obtain⟨s,u,rfl⟩:=WI (l:=ts) (by omega);obtain rfl:=IH (l:=raw) (by omega);have hb:∀z∈[a],z<=255:=fun_;have hw:CD 257 ⟨[],[a],[s,u],[]⟩=(a:Int)::(s.size:Int)::(Ai s++Ai u):=by simp[CD,e,tsB,BR]
  rw[hw];have hl:((a:Int)::(s.size:Int)::(Ai s++Ai u)).length=2+(s.size+u.size):=by simp[Av];omega
  have hd:((a:Int)::(s.size:Int)::(Ai s++Ai u)).getD 1 0=(s.size:Int):=rfl;unfold Jh;rw[if_neg (by decide),e,if_neg (by decide),if_neg (by decide),if_pos rfl,hd,BM,hl,if_pos ⟨by omega,by omega⟩];have d1:(((a:Int)::(s.size:Int)::(Ai s++Ai u)).drop 2).take s.size=Ai s:=by
   show(Ai s++Ai u).take s.size=Ai s;rw[Bs (by rw[Av];exact Ad _),Al (by rw[Av];exact Ad _)]
  have d2:((a:Int)::(s.size:Int)::(Ai s++Ai u)).drop (2+s.size)=Ai u:=by
   rw[Nat.add_comm];show(Ai s++Ai u).drop s.size=Ai u;rw[List.drop_append_of_le_length (by rw[Av];exact Ad _),DH (by rw[Av];exact Ad _),AQ]
  have d3:Re ((a:Int)::(s.size:Int)::(Ai s++Ai u)) 0 1=a:=by simp[Re,val]
  rw[d1,d2,d3,show lb (Ai s)=s from Ey s,show lb (Ai u)=u from Ey u]
 ·obtain rfl:=IH fns;obtain rfl:=IH fus;obtain rfl:=IH (l:=ts) (by omega);have hw:CD t ⟨[],[],[],raw⟩=raw:=by
   unfold CD tsB;rw[if_neg ht.2.2.2.2.2.1,if_neg ht.2.2.2.2.2.2.2.2.1];simp
  rw[hw];unfold Jh;rw[if_neg ht.2.2.2.2.2.1,e,if_neg (by decide),if_neg ht.2.2.2.2.2.2.2.2.1,if_neg ht.2.2.2.2.2.2.2.2.2]
 all_goals
  obtain rfl:=IH fns;obtain rfl:=IH fus;obtain rfl:=IH (l:=ts) (by omega);simp[Jh,CD,e,tsB]
theorem QM(t:Nat)(d:Dat)(h:Bw t d=0):JI t (CD t d)=some d:=by
 unfold JI;rw[Wp t d h];simp[h]
theorem Nq{t:Nat}{b:List Int}{d:Dat}(h:JI t b=some d):Bw t d=0/\CD t d=b:=by
 unfold JI at h;cases hg:Jh t b with
 |none=>rw[hg]at h;cases h
 |some x=>
  rw[hg]at h;simp only[BL]at h;split at h
  ·rename_i hc;cases h;exact hc
  ·cases h
theorem UZ{t:Nat}{b:List Int}{o:Option Dat}(h1:∀d,o=some d->Bw t d=0/\CD t d=b)(h2:o=none->∀d,Bw t d=0->CD t d≠b):o=JI t b:=by
 cases ho:o with
 |none=>
  cases hd:JI t b with
  |none=>rfl
  |some d=>exact absurd (Nq hd).2 (h2 ho d (Nq hd).1)
 |some d=>
  obtain⟨a,e⟩:=h1 d ho;rw[<- e,QM t d a]
theorem Ed(l:List Int)(h:∀z∈l,0<=z/\z<=255):Ai (lb l)=l:=IQ l h
theorem Qu(s:ByteArray):lb (Ai s)=s:=eC s
def EQ(l:List Int):List Int:=l.flatMap fun c=>[xhd (c / 16).toNat,xhd (c % 16).toNat]
theorem MA(l:List Int):(EQ l).length=2*l.length:=by
 induction l with
 |nil=>rfl
 |cons c l ih=>
  show(xhd (c / 16).toNat::xhd (c % 16).toNat::EQ l).length=_;simp only[AP,ih];omega
theorem gL(v:Nat)(h:v<16):48<=xhd v/\xhd v<=102:=by unfold xhd;split <;> omega
theorem Mb(l:List Int)(h:∀c∈l,0<=c/\c<=255):∀c∈EQ l,48<=c/\c<=102:=by
 intro c hc;simp only[EQ,List.mem_flatMap]at hc;obtain⟨b,hb,hc⟩:=hc;have:=h b hb;simp only[Ax,Ep,or_false]at hc;obtain rfl|rfl:=hc
 ·exact gL _ (by omega)
 ·exact gL _ (by omega)
def xkn(t:Nat):Bool:=[1,2,5,6,12,15,16,28,33,257].contains t
def xqw(s:ByteArray):ByteArray:=lb (Fp (Ai s))
def xtw(t:Nat)(ts:List ByteArray):List ByteArray:=if t=257 then(match ts with|[]=>[]|a::r=>a::r.map xqw) else ts.map xqw
def xnw(n:Nat):ByteArray:=lb (DR n)
def AZ(t:Nat)(d:Dat):List ByteArray:=
 if t=1∨t=28 then[lb ((Fl d.raw).getD [])]
 else if xkn t=false then lb [92,35]::xnw d.raw.length::(if d.raw=[] then[] else[lb (EQ d.raw)])
 else if t=6 then d.ns.map (fun n=>(AN n).1)++d.us.map xnw
 else d.us.map xnw++d.ns.map (fun n=>(AN n).1)++xtw t d.ts
def Bz(s:ByteArray):ByteArray × Bool:=if (Ai s).head?=some 34/\2<=s.size then(lb (Ai s).tail.dropLast,true) else(s,false)
def rF(p:ByteArray × Bool):Option ByteArray:=(FC (Ai p.1)).map lb
theorem GA(s:ByteArray)(h:(Ai s).head?≠some 34):Bz s=(s,false):=by
 unfold Bz;rw[if_neg (fun e=>h e.1)]
theorem vZ(l:List Int)(h:∀c∈l,0<=c/\c<=255):∀c∈xq l,0<=c/\c<=255:=fun c hc=>by have:=Wk l h c hc;omega
theorem OU(l:List Int)(h:∀c∈l,0<=c/\c<=255):∀c∈Fp l,0<=c/\c<=255:=fun c hc=>by have:=UB l h c hc;omega
theorem Qo(s:ByteArray):Bz (xqw s)=(lb (xq (Ai s)),true):=by
 have e:Ai (xqw s)=Fp (Ai s):=Ed _ (OU _ (CY s));unfold Bz;rw[<- Av,e,if_pos (by simp[Fp])];simp[Fp]
theorem oM(s:ByteArray):rF (Bz (xqw s))=some s:=by
 rw[Qo];unfold rF;rw[Ed _ (vZ _ (CY s)),tE _ (CY s)];simp[Qu]
theorem Yw(n:Nat):∀c∈DR n,0<=c/\c<=255:=fun c hc=>by have:=Fk n c hc;omega
theorem IZ(n:Nat):Ai (xnw n)=DR n:=Ed _ (Yw n)
theorem IE(n:Nat):Bz (xnw n)=(xnw n,false):=by
 apply GA
 rw[IZ];intro h;have:=Fk n 34 (FL h);omega
theorem eH(c:Int):(tx1 c).head?≠some 34:=by
 unfold tx1;split
 ·simp
 ·split
  ·simp
  ·next h1 h2=>simp;intro e;subst e;exact h2 rfl
theorem qM(l:List Int):(tx l).head?≠some 34:=by
 cases l with
 |nil=>simp[tx]
 |cons c l=>
  have h:=eH c;have hn:tx1 c≠[]:=by unfold tx1;split;simp;split <;> simp
  cases e:tx1 c with
  |nil=>exact absurd e hn
  |cons x r=>rw[e]at h;simpa[tx,e] using h
theorem Ky(n:List ByteArray)(h:nck n=0):Bz (AN n).1=((AN n).1,false):=by
 apply GA
 unfold AN;rw[if_pos h];split
 ·decide
 ·next hl=>
  show(Ai (Kb n)).head?≠some 34;rw[FZ];cases n with
  |nil=>simp at hl
  |cons s n=>
   have hs:=qM (Ai s);unfold ET;rw[Cn];cases e:tx (Ai s) with
   |nil=>simp
   |cons x r=>rw[e]at hs;simpa using hs
theorem My(k c:Int)(ps:List (List Int))(h:c∈Dj k ps):c=k∨∃p∈ps,c∈p:=by
 induction ps with
 |nil=>simp[Dj]at h
 |cons p ps ih=>
  cases ps with
  |nil=>exact .inr ⟨p,by simp,h⟩
  |cons q ps=>
   simp only[Dj,AG,Ax]at h;obtain h|h|h:=h
   ·exact .inr ⟨p,by simp,h⟩
   ·exact .inl h
   ·obtain h|⟨x,h1,h2⟩:=ih h
    ·exact .inl h
    ·exact .inr ⟨x,Dw _ h1,h2⟩
def xok(c:Int):Prop:=46<=c/\c<=102/\c≠92
theorem YG(n:Nat):∀c∈Dn n,xok c:=by
 induction n using FI with
 |_ n ih=>
  rw[Dn];have hd:∀v,v<16->xok (xhd v):=by intro v hv;unfold xhd xok;split <;> omega
  by_cases h:n<16
  ·rw[dif_pos h];intro c hc;simp at hc;subst hc;exact hd n h
  ·rw[dif_neg h];intro c hc;simp only[AG,Bc]at hc;obtain hc|rfl:=hc
   ·exact ih (n / 16) (by omega) c hc
   ·exact hd _ (by omega)
theorem Qr(l:List Nat):∀c∈Ev l,xok c:=by
 intro c hc;obtain rfl|⟨p,hp,hc⟩:=My _ _ _ hc
 ·unfold xok;omega
 ·obtain⟨n,_,rfl⟩:=AY.1 hp;exact YG n c hc
theorem vN(l:List Nat):∀c∈xa6 l,xok c:=by
 intro c hc;unfold xa6 at hc;split at hc
 ·exact Qr _ c hc
 ·simp only[AG,Ax]at hc;obtain h|rfl|rfl|h:=hc
  ·exact Qr _ c h
  ·unfold xok;omega
  ·unfold xok;omega
  ·exact Qr _ c h
theorem Sd(b s:List Int)(h:Fl b=some s):∀c∈s,xok c:=by
 unfold Fl at h;split at h
 ·injection h with h;subst h
  intro c hc;obtain rfl|⟨p,hp,hc⟩:=My _ _ _ hc
  ·unfold xok;omega
  ·obtain⟨n,_,rfl⟩:=AY.1 hp;have:=Fk _ c hc;unfold xok;omega
 ·split at h
  ·injection h with h;subst h;exact vN _
  ·cases h
theorem Lj(b:List Int)(h:b.length=4∨b.length=16):∃s,Fl b=some s:=by
 unfold Fl;split
 ·exact⟨_,rfl⟩
 ·split
  ·exact⟨_,rfl⟩
  ·omega
theorem rY(l m:List Int)(hl:∀z∈l,0<=z/\z<=255)(hm:∀z∈m,0<=z/\z<=255)(h:l≠m):lb l≠lb m:=by
 intro e;apply h
 rw[<- Ed l hl,e,Ed m hm]
theorem OY(s:List Int)(h:∀c∈s,xok c):Ai (lb s)=s/\Bz (lb s)=(lb s,false)/\lb s≠lb [92,35]:=by
 have hb:∀z∈s,0<=z/\z<=255:=fun z hz=>by have:=h z hz;unfold xok at this;omega
 refine⟨Ed s hb,GA _ ?_,rY _ _ hb (by decide) ?_⟩
 ·rw[Ed s hb];intro e;have:=h 34 (FL e);unfold xok at this;omega
 ·rintro rfl;have:=h 92 (by simp);unfold xok at this;omega
theorem jY(n:Nat):xnw n≠lb [92,35]:=by
 apply rY _ _ (Yw n) (by decide)
 intro e;have:=Fk n 92 (by rw[e];simp);omega
theorem YT(n:List ByteArray)(h:nck n=0):(AN n).1≠lb [92,35]:=by
 intro e;have e2:Ai (AN n).1=[92,35]:=by rw[e];exact Ed _ (by decide)
 unfold AN at e2;rw[if_pos h]at e2;split at e2
 ·revert e2;decide
 ·next hl=>
  simp only at e2;rw[FZ]at e2;have hl2:(ET n).getLast?=some 46:=by
   cases n with
   |nil=>simp at hl
   |cons s n=>
    obtain⟨ys,y,hy⟩:∃ys y,s::n=ys++[y]:=⟨_,_,(List.dropLast_concat_getLast (by simp:s::n≠[])).symm⟩;rw[hy];unfold ET;rw[Dm];simp
  rw[e2]at hl2;simp at hl2
theorem Ma(s:ByteArray):Lib.strCells s=Ak s.data.toList:=by
 simp[Lib.strCells,Ak]
theorem wD(B b:Nat)(bs:List Ao)(s:ByteArray)(w:Ab)(h:GS B w b bs)(hB:B<=b)(hs0:0<s.size)(hl:bs.length+s.size<=140737488355328) :
  Ag Aa 57 #[.pointer (some ⟨b,0,none⟩),.string s] w fun e w'=>e=.returned (.tuple #[.int .i64 s.size,.nilIface])/\Hid (GS B w' b (bs++Ak s.data.toList)/\Below B w w'):=by
 have HG:Hid (GS B w b bs):=h;have hcl:(Ak s.data.toList).length=s.size:=by rw[Dr];rfl
 have HCL:Hid ((Ak s.data.toList).length=s.size):=hcl;clear h hcl;go_enter Tryz.func57,Tryz.ntmps57;go_wp2_with fail;refine(QE B b bs _ HG.out hB).mono ?_;rintro e w1 ⟨rfl,H1⟩;obtain⟨v,h1,h2,h4⟩:=H1.out.1;have HB1:Hid (Below B w w1):=H1.out.2;have HB:Hid (BB w1 b (.pointer (some ⟨b,0,none⟩)) v/\w1.ownsRow B 5 1 v bs.length bs):=⟨h1,h2⟩;have c1:=h1.c1;have hlt:=h1.lt;clear h1 h2 H1 HG;obtain⟨i5,hi,hz0,hz1,hz2⟩:=PT Tryz.info5;have HI:Hid (Aa.info? 5=some i5/\i5.zero=some (.int .u8 0)/\i5.size=1/\i5.bytes=1):=⟨hi,hz0,hz1,hz2⟩;clear hi hz0 hz1 hz2;go_wp2_with (at_builtin;refine Lib.wpList_append_own_string _ rfl _ _ 39 9 rfl B 5 i5 AI AK HI.out.1 HI.out.2.1 HI.out.2.2.1 HI.out.2.2.2 v bs.length bs rfl HB.out.2 s rfl (by simp only[Gi];omega) (by omega) (by omega) ?_;intro v' w2 hown2 hgr2 hnil;obtain⟨ao,cc,rfl⟩:=Kj hown2;have hbk:Hid (w2.heap[b]?=w1.heap[b]?):=(hgr2.block b hlt (fun e=>h4 e.symm));have d1:=(HB.out.1.same hbk.out).c1;have d2:=(HB.out.1.same hbk.out).fz 1;have HG2:Hid (w1.grownBy w2 v.ownBlock/\w2.ownsRow B 5 1 (.slice ao (bs.length+s.size) cc) (bs.length+s.size) (bs++Ak s.data.toList)):=⟨hgr2,by rw[<- Ma];exact hown2⟩;clear hown2 hgr2 hnil);go_ret2;have hb2:=HB.out.1.same hbk.out;have hrow:∀g,v.ownBlock=some g->B<=g:=fun g hg=>(HB.out.2.lt g hg).1
 have hbel:Below B w1 w2:=(Ae B w1).grown HG2.out.1 (by omega) hrow;have hne:(Ce ao (bs.length+s.size) cc).ownBlock≠some b:=by
  intro e;obtain⟨_,hc|⟨g,cap,cur,hv,_,hg,_⟩⟩:=HG2.out.2
  ·rw[hc.1]at e;simp[Bm]at e
  ·rw[hv]at e;have e2:g=b:=by simpa[Bm] using e
   rw[e2]at hg;have hb3:w2.heap[b]?=_:=hb2;rw[hb3]at hg;injection hg with hg
   injection hg with _ hg _
   exact absurd hg (by decide)
 have hn2:bs++Ak s.data.toList≠[]:=by
  intro e;have:=congrArg FH e;rw[Af,HCL.out,CZ]at this;omega
 refine⟨rfl,.inr ⟨⟨.slice ao (bs.length+s.size) cc,?_,?_,hne⟩,hn2⟩,HB1.out.trans (hbel.setCell hB _)⟩
 ·have:=AD hb2 1 (.slice ao (bs.length+s.size) cc);simpa[BB] using this
 ·have:=Qe HG2.out.2 hne 1 (.slice ao (bs.length+s.size) cc);rw[Af,HCL.out];exact this
theorem NZ(a b:ByteArray):Ak (a++b).data.toList=Ak a.data.toList++Ak b.data.toList:=by
 simp[Ak]
theorem vQ(s:ByteArray)(h:1<=s.size):0<(tb s).size:=by
 have e:(tb s).size=(tx (Ai s)).length:=Oc _;have hl:=Av s;rw[e];cases hn:Ai s with
 |nil=>rw[hn]at hl;simp at hl;omega
 |cons x l=>
  have:=(Qm x).2;simp only[tx,Cn,Af];omega
theorem Tj(a:Option Addr)(n c:Nat)(ss:List ByteArray)(w:Ab)(h:Nm w a n ss):Ag Aa 24 #[.slice a n c] w fun e w'=>e=.returned (.tuple #[.string (AN ss).1,.int .i64 (AN ss).2])/\Hid (Blw w w'):=by
 have KC:Hid (Ag Aa 19 #[.slice a n c] w fun e w'=>e=.returned (.int .i64 (nck ss))/\w'=w):=Gy c h;have HN:Hid (Nm w a n ss):=h;have hn:=h.n63;have HL:Hid (ss.length=n):=h.len;by_cases hk:nck ss=0
 ·rw[hk]at KC;have hsm:=(BI hk).1;have HLB:Hid (∀s∈ss,1<=s.size):=fun s hs=>(Lb ((BI hk).2 s hs)).1
  by_cases h0:n=0
  ·have hp:AN ss=(⟨#[46]⟩,0):=by unfold AN;rw[if_pos hk,if_pos (by rw[h.len];exact h0)]
   rw[hp];subst h0;clear h hk hp;go_enter Tryz.func24,Tryz.ntmps24;go_wp2_with fail;refine KC.out.mono ?_;rintro e w1 ⟨rfl,rfl⟩;go_wp2;go_ret2;exact⟨rfl,Ae _ _⟩
  ·have hp:AN ss=(Kb ss,0):=by unfold AN;rw[if_pos hk,if_neg (by rw[h.len];exact h0)]
   rw[hp];have h0':((n:Int) == 0)=false:=by simp;omega
   have HSZ:Hid (∀k,k<=ss.length->(Kb (ss.take k)).size<=1020):=fun k hk=>by have:=Pe ss k hk;omega
   obtain⟨R,hR⟩:∃R,Kb ss=R:=⟨_,rfl⟩;have HRR:Hid (Kb ss=R):=hR;rw[hR];clear h hk hp hR;have H0:Hid (GS w.heap.size (w.alloc (.cells #[.pointer none,.slice none 0 0] 65)) w.heap.size []/\Blw w (w.alloc (.cells #[.pointer none,.slice none 0 0] 65))):=⟨GS.fresh w,(Ae _ _).alloc (Ad _) _⟩;go_enter Tryz.func24,Tryz.ntmps24;go_wp2_with fail;refine KC.out.mono ?_;rintro e w1 ⟨rfl,rfl⟩;go_wp2_with fail;go_loopw [18] (fun x wr=>∃(k:Nat) (t:ByteArray),k<=n/\x=.int .i64 k/\t.size<=1020/\Hid (Kb (ss.take k)=t)/\Hid (GS w1.heap.size wr w1.heap.size (Ak t.data.toList)/\Blw w1 wr)) (fun x _=>n - (intOf x).toNat)
   case atStart=>exact⟨0,⟨#[]⟩,Aw _,rfl,by decide,rfl,H0⟩
   case round=>
    clear H0;obtain⟨k,t,hkn,rfl,htz,HT,HB⟩:=hrel;by_cases hlt:k<n
    ·have hlt':(k:Int)<(n:Int):=by omega
     have hks:k<ss.length:=by rw[HL.out];exact hlt
     obtain⟨b,o,rfl,hb,hc⟩:=(HN.out.below HB.out.2).rd.at k hks;have hsz:=Aj (UH ss _ (AU hks)) hsm;have HT2:Hid (Kb (ss.take (k+1))=t++tb ss[k]++⟨#[46]⟩):=by show _=_;rw[IR ss k hks,Tg,HT.out]
     have hz2:=HSZ.out (k+1) (by omega);rw[HT2.out]at hz2;have KT:Hid (∀W,Ag Aa 58 #[.string ss[k]] W fun e w'=>e=.returned (.string (tb ss[k]))/\Hid (Blw W w')):=fun W=>dW ss[k] W (by omega)
     have htb:(tb ss[k]).size<=1020:=by have:=Zy ss[k];omega
     have htp:0<(tb ss[k]).size:=vQ _ (HLB.out _ (AU hks));generalize tb ss[k]=f at*;generalize ss[k]=s at*;have KW1:Hid (∀W,GS w1.heap.size W w1.heap.size (Ak t.data.toList)->Ag Aa 57 #[.pointer (some ⟨w1.heap.size,0,none⟩),.string f] W fun e w'=>e=.returned (.tuple #[.int .i64 f.size,.nilIface])/\Hid (GS w1.heap.size w' w1.heap.size (Ak (t++f).data.toList)/\Below w1.heap.size W w')):=fun W hW=>by
      have:=wD w1.heap.size w1.heap.size _ f W hW (Ad _) htp (by rw[Dr];have:t.data.toList.length=t.size:=rfl;omega);rw[<- NZ]at this;exact this
     have KW2:Hid (∀W,GS w1.heap.size W w1.heap.size (Ak (t++f).data.toList)->Ag Aa 57 #[.pointer (some ⟨w1.heap.size,0,none⟩),.string ⟨#[46]⟩] W fun e w'=>e=.returned (.tuple #[.int .i64 1,.nilIface])/\Hid (GS w1.heap.size w' w1.heap.size (Ak (t++f++⟨#[46]⟩).data.toList)/\Below w1.heap.size W w')):=fun W hW=>by
      have:=wD w1.heap.size w1.heap.size _ ⟨#[46]⟩ W hW (Ad _) (by decide) (by rw[Dr];have:(t++f).data.toList.length=(t++f).size:=rfl;rw[this,Lu];show _+1<=_;omega);rw[<- NZ]at this;exact this
     go_wp2_with fail;refine(KT.out _).mono ?_;rintro e w2 ⟨rfl,H2⟩;have HG2:Hid (GS w1.heap.size w2 w1.heap.size (Ak t.data.toList)/\Blw w1 w2):=by
      refine⟨?_,HB.out.2.trans (H2.out.mono HB.out.2.size)⟩;obtain⟨g1,g2⟩|⟨⟨v,g1,g2,g3⟩,g4⟩:=HB.out.1
      ·exact .inl ⟨g1.same (H2.out.block _ g1.lt),g2⟩
      ·exact .inr ⟨⟨v,g1.same (H2.out.block _ g1.lt),g2.kept (row:=none) ⟨H2.out.os,H2.out.tape,H2.out.output,H2.out.size,fun k hk _=>H2.out.block k hk⟩ (by rcases hv:v.ownBlock with _|g;exact .inl rfl;exact .inr (by simp)),g3⟩,g4⟩
     clear hc KT HB H2;go_wp2_with fail;refine(KW1.out _ HG2.out.1).mono ?_;rintro e w3 ⟨rfl,H3⟩;go_wp2_with fail;refine(KW2.out _ H3.out.1).mono ?_;rintro e w4 ⟨rfl,H4⟩;go_wp2;refine⟨⟨k+1,_,by omega,by go_num,hz2,HT2,H4.out.1,(HG2.out.2.trans H3.out.2).trans H4.out.2⟩,by simp[intOf];omega⟩
    ·have hge:(n:Int)<=(k:Int):=by omega
     have e:t=R:=by rw[<- HT.out,<- HRR.out,Al (by rw[HL.out];omega)]
     subst e;go_wp2_with fail;refine(Qn w1.heap.size w1.heap.size t.data.toList _ HB.out.1 (by have:t.data.toList.length=t.size:=rfl;omega)).mono ?_;rintro e w2 ⟨rfl,H2⟩;go_wp2;go_ret2;exact⟨rfl,HB.out.2.trans H2.out⟩
 ·have hp:AN ss=(⟨#[]⟩,nck ss):=by unfold AN;rw[if_neg hk]
  rw[hp];generalize nck ss=q at*;have hq:(q != 0)=true:=bne_iff_ne.2 hk;clear h hk hp;go_enter Tryz.func24,Tryz.ntmps24;go_wp2_with fail;refine KC.out.mono ?_;rintro e w1 ⟨rfl,rfl⟩;go_wp2;go_ret2;exact⟨rfl,Ae _ _⟩
def UQ(k:Nat):ByteArray:=⟨CF k 0⟩
theorem IL(k:Nat):(UQ k).size=k:=by show(CF k (0:UInt8)).size=k;simp
theorem gI (w : Ab) (ty : BH) (base : Option Addr) (sLen sCap k : Nat) (hk : k <= 1000) (hs : sLen <= 1000000) :
    (BQ #[39, 3] ty #[.slice base sLen sCap, .int .i64 (k : Int)]).run Aa w = (BQ #[39, 9] ty #[.slice base sLen sCap, .string (UQ k)]).run Aa w := by
  obtain⟨i, hi, hz0, hz1, hz2⟩ := PT Tryz.info5;have hw : CV.wrap (k : Int) = k := by rw [BZ]; omega
  have hneg : ¬ ((k : Int) < 0) := by omega
  have h48 : ¬ (281474976710656 < (k : Int) * (i.bytes : Int)) := by rw [hz2]; omega
  have h48k : ¬ (281474976710656 < (k : Int)) := by omega
  have h63' : ¬ (9223372036854775807 < ((sLen : Int) + (k : Int))) := by omega
  have e1 : ∀ W, (JD 1 k (.string (UQ k))).run Aa W = .ok (CF k (.int .u8 0)) W := fun W => by
    have := firstCells_string (P := Aa) (UQ k) W;rw [IL]at this;rw [this];congr 1
    apply Array.ext'
    simp [byteCells, UQ]
  have e2 : Er (AL .u8 0).cells k = CF k (.int .u8 0) := by rw [VG]; simp
  have e3 : ∀ W : Ab, (if k * 1 = 0 then(pure #[] : Sem (Array Ao)) else pure (CF k (.int .u8 0))).run Aa W = .ok (CF k (.int .u8 0)) W := fun W => by
    split
    · next h => have : k = 0 := by omega
                subst this; rfl
    · rfl
  have hw0 : CV.wrap 0 = 0 := by rfl
  by_cases hr : sLen + k <= sCap
  · by_cases h0 : k = 0
    · subst h0;have hr0 : sLen <= sCap := hr;simp [BQ, Cb AI, Cb AW, Cb AK, sizeOf, typeInfo, zeroValue, hi, hz0, hz1, hz2, asInt, asIntOf, hw, hneg, h48, h63', h48k, Il, IL, e1, e2, hw0, hr0]
    · simp [BQ, Cb AI, Cb AW, Cb AK, sizeOf, typeInfo, zeroValue, hi, hz0, hz1, hz2, asInt, asIntOf, hw, hneg, h48, h63', h48k, Il, IL, e1, e2, h0, hr]
  · have hfit : ¬ 281474976710656 < Builtin.nextslicecap (sLen + k) sCap := by
      have := nextslicecap_le (need := sLen + k) (old := sCap) (by omega);omega
    by_cases h0 : k = 0
    · subst h0;have hr0 : ¬ sLen <= sCap := hr;have hfit0 : ¬ 281474976710656 < Builtin.nextslicecap sLen sCap := hfit;have h630 : ¬ (9223372036854775807 < (sLen : Int)) := by omega
      simp [BQ, Cb AI, Cb AW, Cb AK, sizeOf, typeInfo, zeroValue, hi, hz0, hz1, hz2, asInt, asIntOf, hw, hneg, h48, h63', h48k, Il, IL, e1, e2, hw0, hr0, hfit0, h630]
    · simp [BQ, Cb AI, Cb AW, Cb AK, sizeOf, typeInfo, zeroValue, hi, hz0, hz1, hz2, asInt, asIntOf, hw, hneg, h48, h63', h48k, Il, IL, e1, e2, h0, hr, hfit]
theorem Iu(w:Ab){ops:Array Oper}{rest:List Oper}{o:Oper}{a:Act}{Q:Exit->Act->Ab->Prop}(hgd:o.guard=none)(s x:Operand)
  (ho:o.op=.call { callee:=.builtin .append,args:=#[s,x],argTypes:=#[39,3] }) (B:Nat) (v:Ao) (n:Nat) (zs:List Int) (hs:a.eval s=v) (hown:Own B w v n zs)
  (k:Nat) (X:Int) (hx:a.eval x=.int .i64 X) (hX:X=(k:Int)) (hk:k<=1000) (hn:n<=1000000) (hB:B<=w.heap.size)
  (h:∀v' w' zs',Hid (Own B w' v' (n+k) zs')->Hid (zs'.take (n+k)=zs.take n++AM k 0)->w.grownBy w' v.ownBlock->wpList Aa ops Q rest (a.put o.dst v') w'):wpList Aa ops Q (o::rest) a w:=by
 subst hX;obtain⟨ao,rfl,hA⟩:=hown.addr;have hV:EI B w 5 (.slice ao n zs.length) n (zs.map (AL .u8)):=by
  obtain⟨h1,h2,h3⟩|⟨g,h1,h2,h3,h4,h5⟩:=hown
  ·subst h3;injection h1 with h1 _ _;subst h1;subst h2;exact .inl ⟨rfl,rfl,rfl⟩
  ·exact .inr ⟨g,by rw[h1];simp,h2,h3.1,by simpa using h4,by simpa using h5⟩
 obtain⟨v',w',xs',hr,h1,h2,h3,h4,h5⟩:=IV tyB w B 9 o.type _ n _ hV (.string (UQ k)) k _ (by have:=Src.ofString (P:=Aa) w (tx:=9) AK (UQ k);rw[IL]at this;exact this) (by simp;omega) (by simp only[Gi];omega) hB;rw[<- gI w o.type ao n zs.length k hk hn]at hr;have hb:byteCells (UQ k)=(AM k (0:Int)).map (AL .u8):=by simp[byteCells,UQ]
 obtain⟨zs',e1,e2⟩:=Wc xs' (h4 QB ⟨0,rfl,by omega,by omega⟩ (by
  intro u hu;obtain⟨z,hz,rfl⟩:=AY.1 hu;exact⟨z,rfl,(tM hA.rd) z hz⟩) (by
  rw[hb];intro u hu;obtain⟨z,hz,rfl⟩:=AY.1 hu;rw[MW]at hz;exact⟨z,rfl,by omega,by omega⟩))
 subst e1;refine Lib.wpList_append_run w hgd s x 39 3 ho _ _ hs hx v' w' hr (h v' w' zs' ?_ ?_ h3)
 ·obtain⟨g1,g2,g3⟩|⟨g,g1,g2,g3,g4,g5⟩:=h1
  ·have:zs'=[]:=by simpa using g3
   subst this;exact .inl ⟨g1,g2,rfl⟩
  ·exact .inr ⟨g,by rw[g1];simp,g2,⟨g3,e2⟩,by simpa using g4,by simpa using g5⟩
 ·rw[hb,<- List.map_take,<- List.map_take,<- DL]at h2;exact ZM h2
end Go.Proofs.YtoppdmlmhigogaaGreatDoor
namespace Go.Proofs.YtoppdmlmhigogaaGreatDoor
open Go.ChangeShapes Go.WideShapes Go.ChangeAt Go.RowKit Go.Sort
theorem XF(c:Int)(l:List Int):∀p∈De c l,p.length<=l.length:=by
 induction l with
 |nil=>intro p hp;simp[De]at hp;subst hp;simp
 |cons x l ih=>
  intro p hp;simp only[De]at hp;split at hp
  ·obtain rfl|hp:=Ax.1 hp
   ·simp
   ·have:=ih p hp;simp;omega
  ·split at hp
   ·simp at hp;subst hp;simp
   ·next q qs hq=>
    obtain rfl|hp:=Ax.1 hp
    ·have:=ih q (by rw[hq];simp);simp;omega
    ·have:=ih p (by rw[hq];simp[hp]);simp;omega
theorem Mf(c:Int)(l:List Int):(De c l).length<=l.length+1/\1<=(De c l).length:=by
 induction l with
 |nil=>simp[De]
 |cons x l ih=>
  simp only[De];split
  ·simp;omega
  ·split
   ·simp
   ·next q qs hq=>rw[hq]at ih;simp at ih ⊢;omega
def bR(c:UInt8)(s:ByteArray)(w:Ab)(e:Ending)(w':Ab):Prop:=
 ∃ps,e=.returned (.slice (some ⟨w.heap.size,0,none⟩) ps.length ps.length)/\ps.length<=s.size+1/\Hid (ps.map Ai=De c.toNat (Ai s))/\Hid (RdT w' (some ⟨w.heap.size,0,none⟩) ps)/\Hid (Blw w w')/\Hid (∀p∈ps,p.size<=s.size)
theorem Sz(c:UInt8)(s:ByteArray)(w:Ab)(hs:s.size<4294967281)(hE:Cc w):Ag Aa 281 #[.string s,.string ⟨#[c]⟩] w (bR c s w):=by
 obtain⟨_,_,_,m,hm⟩:=hE;refine(Tryz.strings_Split s ⟨#[c]⟩ m w hs hm (show 1<=1 from Ad _)).mono ?_;rintro e w' ⟨rfl,rfl⟩;have hx:(Lib.splitB ⟨#[c]⟩ 0 (Lib.countB s ⟨#[c]⟩) s).map Ai=De c.toNat (Ai s):=oN c s;have hl:=Xl c s;generalize Lib.splitB ⟨#[c]⟩ 0 (Lib.countB s ⟨#[c]⟩) s=ps at*;refine⟨ps,by rw[hl],?_,hx,?_,(Ae _ _).alloc (Ad _) _,?_⟩
 ·have:=(Mf c.toNat (Ai s)).1;rw[<- hx,AS,Av]at this;exact this
 ·have:=(show Co (w.alloc (.cells (tv ps).toArray 9)) w.heap.size 9 (tv ps) from Au _ _).rd (tv ps).length;rw[List.take_length]at this;exact this
 ·intro p hp;have:=XF c.toNat (Ai s) (Ai p) (by rw[<- hx];exact List.mem_map_of_mem hp);rw[Av,Av]at this;exact this
theorem SP{α β:Type}(f:α->Option β)(l:List α)(ns:List β)(x:α)(h:l.mapM f=some ns):(l++[x]).mapM f=(f x).map (fun y=>ns++[y]):=by
 induction l generalizing ns with
 |nil=>
  simp at h;subst h;simp[Dz];cases f x <;> rfl
 |cons a l ih=>
  rw[Dz]at h;rw[Ay,Dz];cases ha:f a with
  |none=>rw[ha]at h;cases h
  |some b=>
   rw[ha]at h;cases hl:l.mapM f with
   |none=>rw[hl]at h;cases h
   |some bs=>
    rw[hl]at h;injection h with h
    subst h;rw[ih bs hl];cases f x <;> rfl
theorem Sb{α β:Type}(f:α->Option β)(l:List α)(x:α)(r:List α)(h:f x=none):(l++x::r).mapM f=none:=by
 induction l with
 |nil=>rw[AQ,Dz,h];rfl
 |cons a l ih=>
  rw[Ay,Dz,ih];cases f a <;> rfl
theorem Tc(l:List ByteArray)(k:Nat)(h:k<l.length):l=l.take k++l[k]::l.drop (k+1):=by
 rw[<- El h,BE]
def XT(o:Option (List Int))(w:Ab)(e:Ending)(w':Ab):Prop:=
 (∀out,o=some out->∃v ys,e=.returned (.tuple #[v,.bool true])/\Hid (Own w.heap.size w' v out.length ys/\ys.take out.length=out/\Blw w w'))/\
 (o=none->e=.returned (.tuple #[.slice none 0 0,.bool false])/\Hid (Blw w w'))
theorem oT(w:Ab)(a b:Int)(ha:0<=a/\a<=255)(hb:0<=b/\b<=255):Rd (w.alloc (.cells #[.int .u8 a,.int .u8 b] 5)) (some ⟨w.heap.size,0,none⟩) [a,b]:=by
 refine⟨.inr ⟨w.heap.size,0,rfl,by simp,fun i hi=>?_⟩,?_⟩
 ·unfold Az;rw[Au];match i,hi with
  |0,_=>rfl
  |1,_=>rfl
 ·intro z hz;simp at hz;obtain rfl|rfl:=hz
  ·exact ha
  ·exact hb
theorem Own.mono{B B':Nat}{w:Ab}{v:Ao}{n:Nat}{zs:List Int}(h:Own B w v n zs)(hB:B'<=B):Own B' w v n zs:=by
 obtain h|⟨g,h1,h2,h3⟩:=h
 ·exact .inl h
 ·exact .inr ⟨g,h1,Aj hB h2,h3⟩
theorem OT(s:ByteArray)(w:Ab)(hs:s.size<4294967281)(hE:Cc w):Ag Aa 283 #[.string s] w (XT (FD (Ai s)) w):=by
 have HE:Hid (Cc w):=hE;clear hE;by_cases h0:s.size=0
 ·have e:=OV (s:=s) (Aq.1 h0);subst e;clear HE;go_enter Tryz.func283,Tryz.ntmps283;go_wp2_with fail;go_ret2;refine⟨fun out h=>⟨_,[],rfl,?_⟩,fun h=>?_⟩
  ·have e:out=[]:=by
    have:FD (Ai ⟨#[]⟩)=some []:=rfl;rw[this]at h;injection h with h;exact h.symm
   subst e;exact⟨.inl ⟨rfl,rfl,rfl⟩,rfl,Ae _ _⟩
  ·have:FD (Ai ⟨#[]⟩)=some []:=rfl;rw[this]at h;cases h
 ·have hne:(s.toList == [])=false:=by
   rw[Ip];cases h:s.data.toList with
   |nil=>exact absurd (show s.size=0 by have:s.data.toList.length=s.size:=rfl;rw[h]at this;exact this.symm) h0
   |cons a l=>rfl
  have HG:Hid (FD (Ai s)=((De 58 (Ai s)).mapM LZ).map fun ns=>ns.flatMap xby):=by
   show _=_;unfold FD;rw[if_neg];intro e;have:=Av s;rw[e]at this;exact h0 this.symm
  go_enter Tryz.func283,Tryz.ntmps283;go_wp2_with fail;refine(Sz 58 s w hs HE.out).mono ?_;rintro e w1 ⟨ps,rfl,hpl,HX,HR,HB,HZ⟩;have HG2:Hid (FD (Ai s)=((ps.map Ai).mapM LZ).map fun ns=>ns.flatMap xby):=by rw[HX.out];exact HG.out
  clear HG HX;go_wp2_with fail;go_loopw [4,14] (fun v x wr=>∃(k:Nat) (ns:List Nat),k<=ps.length/\x=.int .i64 k/\Hid (((ps.take k).map Ai).mapM LZ=some ns/\ns.length=k)/\Hid (∃ys,Own w1.heap.size wr v (2*k) ys/\ys.take (2*k)=ns.flatMap xby)/\Hid (Blw w1 wr)) (fun _ x _=>ps.length - (intOf x).toNat)
  case atStart=>exact⟨0,[],Aw _,rfl,⟨rfl,rfl⟩,⟨[],.inl ⟨rfl,rfl,rfl⟩,rfl⟩,Ae _ _⟩
  case round=>
   obtain⟨k,ns,hk,rfl,HN,HW,HB2⟩:=hrel;by_cases hlt:k<ps.length
   ·have hlt':(k:Int)<(ps.length:Int):=by omega
    obtain⟨b,o,hbo,hb,hc⟩:=(HR.out.below HB2.out).at k hlt;injection hbo with hbo
    injection hbo with hb1 ho1
    subst hb1;subst ho1;rw[Fg]at hc;have hpz:=HZ.out ps[k] (AU hlt);have HE2:=Ac (HE.out.below (HB.out.trans (HB2.out.mono HB.out.size)));have HP:Hid (∀u,LZ (Ai ps[k])=some u->((ps.take (k+1)).map Ai).mapM LZ=some (ns++[u])):=by
     intro u hu;rw[IR ps k hlt,DL];have:=SP LZ _ ns (Ai ps[k]) HN.out.1;rw[hu]at this;exact this
    have HQ:Hid (LZ (Ai ps[k])=none->FD (Ai s)=none):=by
     intro hu;rw[HG2.out];have e:=congrArg (List.map Ai) (Tc ps k hlt);rw[DL,Bh]at e;rw[e,Sb LZ _ _ _ hu]
     rfl
    generalize ps[k]=p at*;by_cases hok:∃u,puH p.data.toList=.ok u
    ·obtain⟨u,hu⟩:=hok;have K:=Ac (fun W=>oH p (by omega) u hu W);have hu2:u<=65535:=by
      unfold puH at hu;split at hu
      ·cases hu
      ·exact sO _ 0 u (by omega) hu
     by_cases h4:p.size<=4
     ·have h4':¬ (4:Int)<(p.size:Int):=by omega
      have hg:=(Up p.data.toList u).1 ⟨hu,h4⟩;have HNS:=Ac (HP.out u hg);clear hu hg HP HQ;have hw1:IntKind.u8.wrap (u:Int)=((u % 256:Nat):Int):=by rw[IntKind.wrap_u8];omega
      have hw2:IntKind.u8.wrap ((u:Int) / 256)=((u / 256:Nat):Int):=by rw[IntKind.wrap_u8];omega
      go_wp2_with fail;refine(K.out _).mono ?_;rintro e w2 ⟨rfl,H2⟩;obtain⟨ys,hO,hT⟩:=HW.out;have hnb:Blw w2 (w2.alloc (.cells #[.int .u8 ((u:Int) / 256),.int .u8 ((u:Int) % 256)] 5)):=(Ae _ _).alloc (Ad _) _;have HO2:Hid (Own w1.heap.size (w2.alloc (.cells #[.int .u8 ((u:Int) / 256),.int .u8 ((u:Int) % 256)] 5)) u4 (2*k) ys/\ys.take (2*k)=ns.flatMap xby):=⟨(hO.below H2.out).below hnb,hT⟩;have HR2:Hid (Rd (w2.alloc (.cells #[.int .u8 ((u:Int) / 256),.int .u8 ((u:Int) % 256)] 5)) (some ⟨w2.heap.size,0,none⟩) [(u:Int) / 256,(u:Int) % 256]):=oT w2 _ _ (by omega) (by omega);have HNB:Hid (Blw w2 (w2.alloc (.cells #[.int .u8 ((u:Int) / 256),.int .u8 ((u:Int) % 256)] 5))):=hnb;have HB3:Hid (Blw w1 w2):=HB2.out.trans (H2.out.mono HB2.out.size);clear hO hT hnb HW H2 HB2;go_wp2_with (at_builtin;refine Cz _ rfl _ _ rfl w1.heap.size _ (2*k) ys rfl HO2.out.1 (some ⟨w2.heap.size,0,none⟩) 2 2 [(u:Int) / 256,(u:Int) % 256] rfl HR2.out rfl (by simp) (by omega) (Aj HB3.out.size HNB.out.size) ?_;intro v' w' ys' hO' hT' hG');have hrow:=HO2.out.1.lt;refine⟨⟨k+1,ns++[u],by omega,by go_num,⟨HNS.out,by rw[Af,HN.out.2];rfl⟩,⟨ys',?_,?_⟩,?_⟩,by simp[intOf];omega⟩
      ·exact hO'.out
      ·rw[show 2*(k+1)=2*k+2 by omega,hT'.out,HO2.out.2,Dm];simp[xby]
      ·exact(HB3.out.trans (HNB.out.mono HB3.out.size)).grown hG' (Aj HB3.out.size HNB.out.size) hrow
     ·have h4':(4:Int)<(p.size:Int):=by omega
      have HQ2:=Ac (HQ.out (by
       cases hx:LZ (Ai p) with
       |none=>rfl
       |some v=>exact absurd ((Up p.data.toList v).2 hx).2 h4))
      clear hu HP HQ;go_wp2_with fail;refine(K.out _).mono ?_;rintro e w2 ⟨rfl,H2⟩;have HB3:Hid (Blw w w2):=HB.out.trans ((HB2.out.trans (H2.out.mono HB2.out.size)).mono HB.out.size);go_wp2_with fail;go_ret2;exact⟨fun out h=>(by rw[HQ2.out]at h;cases h),fun _=>⟨rfl,HB3.out⟩⟩
    ·have K:=Ac (nJ p (by omega) (fun u hu=>hok ⟨u,hu⟩) wr HE2.out);have HQ2:=Ac (HQ.out (by
      cases hx:LZ (Ai p) with
      |none=>rfl
      |some v=>exact absurd ⟨v,((Up p.data.toList v).2 hx).1⟩ hok))
     clear hok HP HQ;go_wp2_with fail;refine K.out.mono ?_;rintro e w2 ⟨x,N,rfl,H2⟩;have HB3:Hid (Blw w w2):=HB.out.trans ((HB2.out.trans (H2.out.mono HB2.out.size)).mono HB.out.size);go_wp2_with fail;go_ret2;exact⟨fun out h=>(by rw[HQ2.out]at h;cases h),fun _=>⟨rfl,HB3.out⟩⟩
   ·have hge:¬ (k:Int)<(ps.length:Int):=by omega
    have HF:Hid (FD (Ai s)=some (ns.flatMap xby)):=by
     show _=_;have:=HN.out.1;rw[Al (by omega)]at this;rw[HG2.out,this];rfl
    have HB3:Hid (Blw w wr):=HB.out.trans (HB2.out.mono HB.out.size);go_wp2_with fail;go_ret2;refine⟨fun out h=>?_,fun h=>(by rw[HF.out]at h;cases h)⟩;rw[HF.out]at h;injection h with h
    subst h;obtain⟨ys,hO,hT⟩:=HW.out;have hl:(ns.flatMap xby).length=2*k:=by rw[JB,HN.out.2]
    rw[hl];exact⟨_,ys,rfl,hO.mono HB.out.size,hT,HB3.out⟩
theorem bA(s:ByteArray)(w:Ab)(hs:s.size<4294967281)(hE:Cc w):Ag Aa 266 #[.string s] w (XT (It (Ai s)) w):=by
 have HE:Hid (Cc w):=hE;clear hE;go_enter Tryz.func266,Tryz.ntmps266;go_wp2_with fail;refine(Sz 46 s w hs HE.out).mono ?_;rintro e w1 ⟨ps,rfl,hpl,HX,HR,HB,HZ⟩;have HG2:Hid (It (Ai s)=((ps.map Ai).mapM fun p=>FN p 256).bind fun a=>if a.length=4 then some (a.map Int.ofNat) else none):=by show _=_;rw[HX.out];rfl
 clear HX;by_cases h4:ps.length=4
 ·have h4b:((ps.length:Int) != 4)=false:=by simp;omega
  have H4:Hid (ps.length=4):=h4;clear h4;go_wp2_with fail;go_loopw [5,17] (fun v x wr=>∃(k:Nat) (ns:List Nat),k<=ps.length/\x=.int .i64 k/\Hid (((ps.take k).map Ai).mapM (fun p=>FN p 256)=some ns/\ns.length=k)/\Hid (∃ys,Own w1.heap.size wr v k ys/\ys.take k=ns.map Int.ofNat)/\Hid (Blw w1 wr)) (fun _ x _=>ps.length - (intOf x).toNat)
  case atStart=>exact⟨0,[],Aw _,rfl,⟨rfl,rfl⟩,⟨[],.inl ⟨rfl,rfl,rfl⟩,rfl⟩,Ae _ _⟩
  case round=>
   obtain⟨k,ns,hk,rfl,HN,HW,HB2⟩:=hrel;by_cases hlt:k<ps.length
   ·have hlt':(k:Int)<(ps.length:Int):=by omega
    obtain⟨b,o,hbo,hb,hc⟩:=(HR.out.below HB2.out).at k hlt;injection hbo with hbo
    injection hbo with hb1 ho1
    subst hb1;subst ho1;rw[Fg]at hc;have hpz:=HZ.out ps[k] (AU hlt);have HE2:=Ac (HE.out.below (HB.out.trans (HB2.out.mono HB.out.size)));have HP:Hid (∀u,FN (Ai ps[k]) 256=some u->((ps.take (k+1)).map Ai).mapM (fun p=>FN p 256)=some (ns++[u])):=by
     intro u hu;rw[IR ps k hlt,DL];have:=SP (fun p=>FN p 256) _ ns (Ai ps[k]) HN.out.1;rw[hu]at this;exact this
    have HQ:Hid (FN (Ai ps[k]) 256=none->It (Ai s)=none):=by
     intro hu;rw[HG2.out];have e:=congrArg (List.map Ai) (Tc ps k hlt);rw[DL,Bh]at e;rw[e,Sb (fun p=>FN p 256) _ _ _ hu]
     rfl
    generalize ps[k]=p at*;cases hx:FN (Ai p) 256 with
    |some u=>
     have K:=Ac (fun W=>YX 8 (.inl rfl) p (by omega) u hx W);have hu2:u<=255:=by have:=(Fy hx).2;omega
     have HNS:=Ac (HP.out u hx);clear hx HP HQ;have hw1:IntKind.u8.wrap (u:Int)=(u:Int):=by rw[IntKind.wrap_u8];omega
     go_wp2_with fail;refine(K.out _).mono ?_;rintro e w2 ⟨rfl,H2⟩;obtain⟨ys,hO,hT⟩:=HW.out;have hnb:Blw w2 (w2.alloc (.cells #[.int .u8 (u:Int)] 5)):=(Ae _ _).alloc (Ad _) _;have HO2:Hid (Own w1.heap.size (w2.alloc (.cells #[.int .u8 (u:Int)] 5)) u5 k ys/\ys.take k=ns.map Int.ofNat):=⟨(hO.below H2.out).below hnb,hT⟩;have HR2:Hid (Rd (w2.alloc (.cells #[.int .u8 (u:Int)] 5)) (some ⟨w2.heap.size,0,none⟩) [(u:Int)]):=Uj w2 _ (by omega);have HNB:Hid (Blw w2 (w2.alloc (.cells #[.int .u8 (u:Int)] 5))):=hnb;have HB3:Hid (Blw w1 w2):=HB2.out.trans (H2.out.mono HB2.out.size);clear hO hT hnb HW H2 HB2;go_wp2_with (at_builtin;refine Cz _ rfl _ _ rfl w1.heap.size _ k ys rfl HO2.out.1 (some ⟨w2.heap.size,0,none⟩) 1 1 [(u:Int)] rfl HR2.out rfl (by simp) (by omega) (Aj HB3.out.size HNB.out.size) ?_;intro v' w' ys' hO' hT' hG');have hrow:=HO2.out.1.lt;refine⟨⟨k+1,ns++[u],by omega,by go_num,⟨HNS.out,by rw[Af,HN.out.2];rfl⟩,⟨ys',?_,?_⟩,?_⟩,by simp[intOf];omega⟩
     ·exact hO'.out
     ·rw[hT'.out,HO2.out.2,DL];rfl
     ·exact(HB3.out.trans (HNB.out.mono HB3.out.size)).grown hG' (Aj HB3.out.size HNB.out.size) hrow
    |none=>
     have K:=Ac (uP 8 (.inl rfl) p (by omega) hx wr HE2.out);have HQ2:=Ac (HQ.out hx);clear hx HP HQ;go_wp2_with fail;refine K.out.mono ?_;rintro e w2 ⟨x,rfl,H2⟩;have HB3:Hid (Blw w w2):=HB.out.trans ((HB2.out.trans (H2.out.mono HB2.out.size)).mono HB.out.size);go_wp2_with fail;go_ret2;exact⟨fun out h=>(by rw[HQ2.out]at h;cases h),fun _=>⟨rfl,HB3.out⟩⟩
   ·have hge:¬ (k:Int)<(ps.length:Int):=by omega
    have HF:Hid (It (Ai s)=some (ns.map Int.ofNat)):=by
     show _=_;have h1:=HN.out.1;rw[Al (by omega)]at h1;rw[HG2.out,h1,BL,if_pos (by rw[HN.out.2];have:=H4.out;omega)]
    have HB3:Hid (Blw w wr):=HB.out.trans (HB2.out.mono HB.out.size);go_wp2_with fail;go_ret2;refine⟨fun out h=>?_,fun h=>(by rw[HF.out]at h;cases h)⟩;rw[HF.out]at h;injection h with h
    subst h;obtain⟨ys,hO,hT⟩:=HW.out;have hl:(ns.map Int.ofNat).length=k:=by rw[AS,HN.out.2]
    rw[hl];exact⟨_,ys,rfl,hO.mono HB.out.size,hT,HB3.out⟩
 ·have h4b:((ps.length:Int) != 4)=true:=by simp;omega
  have HQ:Hid (It (Ai s)=none):=by
   show _=_;rw[HG2.out];cases hm:(ps.map Ai).mapM (fun p=>FN p 256) with
   |none=>rfl
   |some a=>
    rw[BL,if_neg];have:∀(l:List (List Int)) (a:List Nat),l.mapM (fun p=>FN p 256)=some a->a.length=l.length:=by
     intro l;induction l with
     |nil=>intro a h;simp at h;subst h;rfl
     |cons x l ih=>
      intro a h;rw[Dz]at h;cases hx:FN x 256 with
      |none=>rw[hx]at h;cases h
      |some u=>
       rw[hx]at h;cases hl:l.mapM (fun p=>FN p 256) with
       |none=>rw[hl]at h;cases h
       |some b=>rw[hl]at h;injection h with h;subst h;simp[ih b hl]
    rw[this _ _ hm,AS];exact h4
  go_wp2_with fail;go_ret2;exact⟨fun out h=>(by rw[HQ.out]at h;cases h),fun _=>⟨rfl,HB.out⟩⟩
theorem Ru{l out:List Int}(h:FD l=some out):∃k,out.length=2*k:=by
 unfold FD at h;split at h
 ·injection h with h;subst h;exact⟨0,rfl⟩
 ·rw[Ju]at h;obtain⟨ns,_,rfl⟩:=h;exact⟨ns.length,JB ns⟩
theorem lE{α β:Type}(f:α->Option β):∀(l:List α) (a:List β),l.mapM f=some a->a.length=l.length:=by
 intro l;induction l with
 |nil=>intro a h;simp at h;subst h;rfl
 |cons x l ih=>
  intro a h;rw[Dz]at h;cases hx:f x with
  |none=>rw[hx]at h;cases h
  |some u=>
   rw[hx]at h;cases hl:l.mapM f with
   |none=>rw[hl]at h;cases h
   |some b=>rw[hl]at h;injection h with h;subst h;simp[ih b hl]
theorem Wl{l out:List Int}(h:FD l=some out):out.length<=2*(l.length+1):=by
 unfold FD at h;split at h
 ·injection h with h;subst h;simp
 ·rw[Ju]at h;obtain⟨ns,h1,rfl⟩:=h;have h2:=lE _ _ _ h1;have h3:=(Mf 58 l).1;rw[JB];omega
def yH(s f b:ByteArray)(g:Bool):Prop:=(g=true/\xdc (Ai s)=some (Ai f,Ai b))∨(g=false/\xdc (Ai s)=none/\f=s/\b=⟨#[]⟩)
theorem pU(s:ByteArray)(w:Ab)(hs:s.size<4294967281)(hE:Cc w) :
  Ag Aa 282 #[.string s,.string ⟨#[58,58]⟩] w fun e w'=>∃f b g,e=.returned (.tuple #[.string f,.string b,.bool g])/\Hid (yH s f b g)/\f.size<=s.size/\b.size<=s.size/\Hid (Blw w w'):=by
 obtain⟨_,_,_,m,hm⟩:=hE;refine(Tryz.strings_Cut s ⟨#[58,58]⟩ m w hs hm).mono ?_;rintro e w' ⟨rfl,n,rfl⟩;have hb:Blw w (w.drewN n):=⟨rfl,rfl,rfl,Ad _,fun _ _=>rfl⟩;have hmk:∀l:List UInt8,(⟨l.toArray⟩:ByteArray).data.toList=l:=fun l=>by simp
 have hsz:∀l:List UInt8,(⟨l.toArray⟩:ByteArray).size=l.length:=fun l=>by show l.toArray.size=_;simp
 have hself:(⟨s.data.toList.toArray⟩:ByteArray)=s:=by apply ByteArray.ext;simp
 have h58:(⟨#[58,58]⟩:ByteArray).data.toList=[58,58]:=rfl;rw[h58];cases hx:xdc (bi s.data.toList) with
 |none=>
  rw[fH _ hx];refine⟨_,_,_,rfl,.inr ⟨rfl,hx,hself,rfl⟩,by rw[hself];exact Ad _,by rw[hsz];exact Aw _,hb⟩
 |some p=>
  obtain⟨p,r⟩:=p;obtain⟨a,b,e,h1,h2⟩:=eY _ p r hx;obtain⟨a',b',e',_,_,_⟩:=(RN s.data.toList).2 p r hx;have hl:a.length<=s.size/\b.length<=s.size:=by
   unfold Lib.cut at e;split at e
   ·have e1:=congrArg (fun x=>x.1.length) e;have e2:=congrArg (fun x=>x.2.1.length) e;simp only[CC,Bg]at e1 e2;have:s.data.toList.length=s.size:=rfl;omega
   ·exact absurd (congrArg (fun x=>x.2.2) e) (by simp)
  rw[e];refine⟨_,_,_,rfl,.inl ⟨rfl,?_⟩,by rw[hsz];exact hl.1,by rw[hsz];exact hl.2,hb⟩;rw[CR,hx,CR,CR,hmk,hmk,h1,h2]
theorem YC{B:Nat}{w w':Ab}{bo:Option Addr}{n:Nat}{zs ob:List Int}{v:Ao}(h:Own B w (.slice bo n zs.length) n zs)(ht:zs.take n=ob)(hg:w.grownBy w' v.ownBlock)(hr:∀g,v.ownBlock=some g->g<B):Rd w' bo ob:=by
 obtain⟨bo',e,hA⟩:=h.addr;injection e with e _ _
 subst e;have hk:=hA.keep (w':=w') (fun g h1 h2=>hg.block g h2 (fun e=>by
  have h3:=(hA.lt g h1).1;have h4:=hr g e.symm;omega))
 have:=hk.rdTake n;rw[ht]at this;exact this
theorem jE(s:ByteArray)(w:Ab)(hs:s.size<4294967281)(hE:Cc w):Ag Aa 268 #[.string s] w (XT (JJ (Ai s)) w):=by
 have HE:Hid (Cc w):=hE;clear hE;go_enter Tryz.func268,Tryz.ntmps268;go_wp2_with fail;refine(pU s w hs HE.out).mono ?_;rintro e w1 ⟨f,b,g,rfl,HC,hf,hb,H1⟩;have K1:=Ac (OT f w1 (by omega) (HE.out.below H1.out));go_wp2_with fail;refine K1.out.mono ?_;intro e w2 HP1;have HP1:=Ac HP1;clear K1;cases ha:FD (Ai f) with
 |none=>
  obtain⟨rfl,H2⟩:=HP1.out.2 ha;have HB2:Hid (Blw w w2):=H1.out.trans (H2.out.mono H1.out.size);have K2:=Ac (OT b w2 (by omega) (HE.out.below HB2.out));have HX:Hid (JJ (Ai s)=none):=by
   show _=_;unfold JJ;obtain⟨_,h⟩|⟨_,h,rfl,_⟩:=HC.out
   ·rw[h];simp only;rw[ha];rfl
   ·rw[h];simp only;rw[ha];rfl
  clear HP1 H2;go_wp2_with fail;refine K2.out.mono ?_;intro e w3 HP2;have HP2:=Ac HP2;clear K2;cases hb2:FD (Ai b) with
  |none=>
   obtain⟨rfl,H3⟩:=HP2.out.2 hb2;have HB3:Hid (Blw w w3):=HB2.out.trans (H3.out.mono HB2.out.size);clear HP2;go_wp2_with fail;go_ret2;exact⟨fun out h=>(by rw[HX.out]at h;cases h),fun _=>⟨rfl,HB3.out⟩⟩
  |some ob=>
   obtain⟨v,ys,rfl,H3⟩:=HP2.out.1 ob hb2;have HB3:Hid (Blw w w3):=HB2.out.trans (H3.out.2.2.mono HB2.out.size);obtain⟨ao,rfl,hA⟩:=H3.out.1.addr;clear HP2 hA;go_wp2_with fail;go_ret2;exact⟨fun out h=>(by rw[HX.out]at h;cases h),fun _=>⟨rfl,HB3.out⟩⟩
 |some oa=>
  obtain⟨va,za,rfl,H2⟩:=HP1.out.1 oa ha;have HB2:Hid (Blw w w2):=H1.out.trans (H2.out.2.2.mono H1.out.size);have K2:=Ac (OT b w2 (by omega) (HE.out.below HB2.out));obtain⟨ao,rfl,hA⟩:=H2.out.1.addr;clear HP1 hA;go_wp2_with fail;refine K2.out.mono ?_;intro e w3 HP2;have HP2:=Ac HP2;clear K2;cases hb2:FD (Ai b) with
  |none=>
   obtain⟨rfl,H3⟩:=HP2.out.2 hb2;have HX:Hid (JJ (Ai s)=none):=by
    show _=_;unfold JJ;obtain⟨_,h⟩|⟨_,h,rfl,rfl⟩:=HC.out
    ·rw[h];simp only;rw[ha,hb2];rfl
    ·exact absurd hb2 (by decide)
   have HB3:Hid (Blw w w3):=HB2.out.trans (H3.out.mono HB2.out.size);clear HP2;go_wp2_with fail;go_ret2;exact⟨fun out h=>(by rw[HX.out]at h;cases h),fun _=>⟨rfl,HB3.out⟩⟩
  |some ob=>
   obtain⟨vb,zb,rfl,H3⟩:=HP2.out.1 ob hb2;have HB3:Hid (Blw w w3):=HB2.out.trans (H3.out.2.2.mono HB2.out.size);obtain⟨bo,rfl,hA⟩:=H3.out.1.addr;clear HP2 hA;obtain⟨ka,hka⟩:=Ru ha;obtain⟨kb,hkb⟩:=Ru hb2;have HX:Hid (JJ (Ai s)=if (g=true/\ka+kb<=7)∨(g=false/\ka+kb=8) then some (oa++AM (16 - 2*ka - 2*kb) 0++ob) else none):=by
    show _=_;unfold JJ;obtain⟨hg,h⟩|⟨hg,h,rfl,rfl⟩:=HC.out
    ·rw[h];simp only;rw[ha,hb2,BL,BL,hka,hkb];by_cases hc:ka+kb<=7
     ·rw[if_pos (by omega),if_pos (.inl ⟨hg,hc⟩)]
     ·rw[if_neg (by omega),if_neg];rintro(⟨_,h⟩|⟨h,_⟩)
      ·exact hc h
      ·rw[hg]at h;cases h
    ·rw[h];simp only;rw[ha,BL,hka];have e0:ob=[]:=by
      have h0:FD (Ai ⟨#[]⟩)=some []:=rfl;rw[h0]at hb2;injection hb2 with hb2;exact hb2.symm
     subst e0;simp only[CZ]at hkb;by_cases hc:2*ka=16
     ·rw[if_pos hc,if_pos (.inr ⟨hg,by omega⟩)];have:16 - 2*ka - 2*kb=0:=by omega
      rw[this];simp
     ·rw[if_neg hc,if_neg];rintro(⟨h,_⟩|⟨_,h⟩)
      ·rw[hg]at h;cases h
      ·omega
   have HA:Hid (Own w1.heap.size w3 (.slice ao oa.length za.length) oa.length za/\za.take oa.length=oa/\(∀g,blk ao=some g->g<w2.heap.size)):=by
    refine⟨H2.out.1.below H3.out.2.2,H2.out.2.1,fun g hg=>?_⟩;obtain⟨ao',e,hA⟩:=H2.out.1.addr;injection e with e _ _
    subst e;exact(hA.lt g hg).2
   have HBb:Hid (Own w2.heap.size w3 (.slice bo ob.length zb.length) ob.length zb/\zb.take ob.length=ob):=⟨H3.out.1,H3.out.2.1⟩;have hs21:w1.heap.size<=w2.heap.size:=H2.out.2.2.size;have hs32:w2.heap.size<=w3.heap.size:=H3.out.2.2.size;have HSZ:Hid (Blw w w1/\w.heap.size<=w1.heap.size):=⟨H1.out,H1.out.size⟩;have hba:=Wl ha;have hbb:=Wl hb2;rw[Av]at hba hbb;have hba:oa.length<=10000000000:=by omega
   have hbb:ob.length<=10000000000:=by omega
   clear H2 H3 ha hb2 HC HP1 HP2 HB2 H1;have HKA:Hid (oa.length=2*ka/\ob.length=2*kb):=⟨hka,hkb⟩;clear hka hkb;obtain⟨la,hla⟩:∃la,oa.length=la:=⟨_,rfl⟩;obtain⟨lb',hlb⟩:∃lb',ob.length=lb':=⟨_,rfl⟩;have HLN:Hid (oa.length=la/\ob.length=lb'):=⟨hla,hlb⟩;rw[hla,hlb]at HKA;rw[hla]at HA;rw[hlb]at HBb;rw[hla]at hba;rw[hlb]at hbb;rw[hla,hlb];clear hla hlb;by_cases c1:16<la+lb'
   ·have c1':(16:Int) - (la:Int)<(lb':Int):=by omega
    have HX2:Hid (JJ (Ai s)=none):=by
     show _=_;have h1:=HKA.out.1;have h2:=HKA.out.2;rw[HX.out,if_neg (by rintro(⟨_,h⟩|⟨_,h⟩) <;> omega)]
    clear HX;go_wp2_with fail;go_ret2;exact⟨fun out h=>(by rw[HX2.out]at h;cases h),fun _=>⟨rfl,HB3.out⟩⟩
   ·have c1':¬ (16:Int) - (la:Int)<(lb':Int):=by omega
    cases g with
    |true=>
     by_cases c2:la+lb'=16
     ·have c2':¬ (lb':Int)<(16:Int) - (la:Int):=by omega
      have hd:decide ((lb':Int)<(16:Int) - (la:Int))=false:=decide_eq_false c2';have HX2:Hid (JJ (Ai s)=none):=by
       show _=_;have h1:=HKA.out.1;have h2:=HKA.out.2;rw[HX.out,if_neg (by rintro(⟨_,h⟩|⟨h,_⟩);omega;cases h)]
      clear HX;go_wp2_with fail;go_ret2;exact⟨fun out h=>(by rw[HX2.out]at h;cases h),fun _=>⟨rfl,HB3.out⟩⟩
     ·have c2':(lb':Int)<(16:Int) - (la:Int):=by omega
      have hd:decide ((lb':Int)<(16:Int) - (la:Int))=true:=decide_eq_true c2';have HX2:Hid (JJ (Ai s)=some (oa++AM (16 - la - lb') 0++ob)):=by
       show _=_;have h1:=HKA.out.1;have h2:=HKA.out.2;rw[HX.out,if_pos (.inl ⟨rfl,by omega⟩),h1,h2]
      clear HX;have HNil:Hid (bo=none->zb.length=0):=by
       obtain⟨bo',e,hA⟩:=HBb.out.1.addr;injection e with e _ _
       subst e;exact hA.nil
      have HRow:Hid (∀g,(Ce ao la za.length).ownBlock=some g->w1.heap.size<=g/\g<w2.heap.size):=by
       intro g hg;refine⟨HA.out.1.lt g hg,HA.out.2.2 g ?_⟩;rw[<- hg];cases ao <;> rfl
      go_wp2_with (first
       |(at_builtin;refine Iu _ rfl _ _ rfl w1.heap.size _ la za rfl HA.out.1 (16 - la - lb') _ rfl (by omega) (by omega) (by omega) (Aj hs21 hs32) ?_;intro v4 w4 z4 hO4 hT4 hG4;have HG4:Hid (w3.grownBy w4 (Ce ao la za.length).ownBlock):=hG4;clear hG4;have HR4:=Ac (YC HBb.out.1 HBb.out.2 HG4.out (fun g hg=>(HRow.out g hg).2));have HS4:Hid (w3.heap.size<=w4.heap.size):=HG4.out.size)
       |(at_builtin;refine Cz _ rfl _ _ rfl w1.heap.size _ (la+(16 - la - lb')) z4 rfl hO4.out bo lb' zb.length ob rfl HR4.out HLN.out.2 HNil.out (by omega) (Aj (Aj hs21 hs32) HS4.out) ?_;intro v5 w5 z5 hO5 hT5 hG5;have HG5:Hid (w4.grownBy w5 v4.ownBlock):=hG5;clear hG5))
      go_ret2;refine⟨fun out h=>?_,fun h=>(by rw[HX2.out]at h;cases h)⟩;rw[HX2.out]at h;injection h with h
      subst h;have hlen:(oa++AM (16 - la - lb') 0++ob).length=la+(16 - la - lb')+lb':=by
       simp only[Af,LI,HLN.out.1,HLN.out.2]
      rw[hlen];have hb4:Blw w w4:=HB3.out.grown HG4.out HB3.out.size (fun g hg=>Aj HSZ.out.2 (HRow.out g hg).1);refine⟨_,z5,rfl,hO5.out.mono HSZ.out.2,?_,hb4.grown HG5.out hb4.size (fun g hg=>Aj HSZ.out.2 (hO4.out.lt g hg))⟩;rw[hT5.out,hT4.out,HA.out.2.1]
    |false=>
     by_cases c2:la+lb'=16
     ·have c2':¬ (lb':Int)<(16:Int) - (la:Int):=by omega
      have hd:decide ((lb':Int)<(16:Int) - (la:Int))=false:=decide_eq_false c2';have HX2:Hid (JJ (Ai s)=some (oa++AM (16 - la - lb') 0++ob)):=by
       show _=_;have h1:=HKA.out.1;have h2:=HKA.out.2;rw[HX.out,if_pos (.inr ⟨rfl,by omega⟩),h1,h2]
      clear HX;have HNil:Hid (bo=none->zb.length=0):=by
       obtain⟨bo',e,hA⟩:=HBb.out.1.addr;injection e with e _ _
       subst e;exact hA.nil
      have HRow:Hid (∀g,(Ce ao la za.length).ownBlock=some g->w1.heap.size<=g/\g<w2.heap.size):=by
       intro g hg;refine⟨HA.out.1.lt g hg,HA.out.2.2 g ?_⟩;rw[<- hg];cases ao <;> rfl
      go_wp2_with (first
       |(at_builtin;refine Iu _ rfl _ _ rfl w1.heap.size _ la za rfl HA.out.1 (16 - la - lb') _ rfl (by omega) (by omega) (by omega) (Aj hs21 hs32) ?_;intro v4 w4 z4 hO4 hT4 hG4;have HG4:Hid (w3.grownBy w4 (Ce ao la za.length).ownBlock):=hG4;clear hG4;have HR4:=Ac (YC HBb.out.1 HBb.out.2 HG4.out (fun g hg=>(HRow.out g hg).2));have HS4:Hid (w3.heap.size<=w4.heap.size):=HG4.out.size)
       |(at_builtin;refine Cz _ rfl _ _ rfl w1.heap.size _ (la+(16 - la - lb')) z4 rfl hO4.out bo lb' zb.length ob rfl HR4.out HLN.out.2 HNil.out (by omega) (Aj (Aj hs21 hs32) HS4.out) ?_;intro v5 w5 z5 hO5 hT5 hG5;have HG5:Hid (w4.grownBy w5 v4.ownBlock):=hG5;clear hG5))
      go_ret2;refine⟨fun out h=>?_,fun h=>(by rw[HX2.out]at h;cases h)⟩;rw[HX2.out]at h;injection h with h
      subst h;have hlen:(oa++AM (16 - la - lb') 0++ob).length=la+(16 - la - lb')+lb':=by
       simp only[Af,LI,HLN.out.1,HLN.out.2]
      rw[hlen];have hb4:Blw w w4:=HB3.out.grown HG4.out HB3.out.size (fun g hg=>Aj HSZ.out.2 (HRow.out g hg).1);refine⟨_,z5,rfl,hO5.out.mono HSZ.out.2,?_,hb4.grown HG5.out hb4.size (fun g hg=>Aj HSZ.out.2 (hO4.out.lt g hg))⟩;rw[hT5.out,hT4.out,HA.out.2.1]
     ·have c2':(lb':Int)<(16:Int) - (la:Int):=by omega
      have hd:decide ((lb':Int)<(16:Int) - (la:Int))=true:=decide_eq_true c2';have HX2:Hid (JJ (Ai s)=none):=by
       show _=_;have h1:=HKA.out.1;have h2:=HKA.out.2;rw[HX.out,if_neg (by rintro(⟨h,_⟩|⟨_,h⟩);cases h;omega)]
      clear HX;go_wp2_with fail;go_ret2;exact⟨fun out h=>(by rw[HX2.out]at h;cases h),fun _=>⟨rfl,HB3.out⟩⟩
end Go.Proofs.YtoppdmlmhigogaaGreatDoor
