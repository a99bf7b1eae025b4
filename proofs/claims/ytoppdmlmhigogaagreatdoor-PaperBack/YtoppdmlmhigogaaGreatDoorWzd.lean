/- Texts laid together, in parts: Pe Dor Kb Dm Lg Ha Hb Hc Hd He Nsw Hf Ff Oca Ocb Occ Ocd. -/
import Derived.Test.YtoppdmlmhigogaaGreatDoorWzc
import Derived.Deep.QuietTactic
import Derived.BigQuiet
import Derived.Deep.RegionHeld3
import Derived.WalkSpells
import Derived.WalkKit
import Derived.ProofKit
import Derived.OpenShut
import Derived.ShutString
import Derived.ChangeOld
import Derived.Below
import Derived.JoinedCond
import Derived.Deep.Strs
import Derived.Deep.Slices
import Derived.Lib.SmallJoins
import Derived.Deep.CutBlock
import Derived.Lib.Bytealg
import Derived.LaidEqlPtr
set_option maxRecDepth 100000
set_option maxHeartbeats 8000000
set_option linter.unusedVariables false
set_option linter.unusedSimpArgs false
open Array renaming getElem?_eq_some_iff → As
open Bool renaming and_eq_true → AA, or_eq_true → Ct
open Go renaming World → Ab, Calls → Ag, bodyPost_ret → An, Value → Ao, heap_alloc_new → Au, results → AJ, TypeId → BH, run_underlying → Cb, maxLen → Gi, DataW → Lo, MemPlace → NT
open Go.Addr renaming add_lit → Js, add → Kk
open Go.DataW renaming trod → CJ
open Go.IntKind renaming wrap_i64 → BZ, i64 → CV
open Go.Lib renaming hid → Ac, indexByte → Bu, run_eql_slice_nil → Nk
open Go.Proofs.Tryz renaming prog → Aa, underlying39 → AI, underlying9 → AK, underlying5 → Ba, underlying23 → BV, underlying36 → CX, results100 → DI, ntmps100 → EB, func100 → EZ, results280 → Jl, ntmps280 → Lp, func280 → Mt
open Go.RowKit.Below renaming refl → Ae, heap_setCell → Ar, heap_alloc → EP
open Go.Value renaming int → AL, slice → Ce
open Go.World renaming cell? → Az, cell?_of_block → AE, setCell → Dq, frozen? → Dv, block_lt_of_cell? → Hd, cell?_spot → MP
open Int renaming eq_ofNat_of_zero_le → DS
open List renaming take_of_length_le → Al, getD_eq_getElem?_getD → Am, mem_cons → Ax, eq_nil_of_length_eq_zero → AC, mem_append → AG, take_succ_eq_append_getElem → AH, all_eq_true → AO, length_cons → AP, length_map → AS, getElem_mem → AU, mem_map → AY, mem_singleton → Bc, mem_of_mem_take → Be, length_take → CC, mem_of_mem_drop → CT, mem_cons_of_mem → Dw, mapM_cons → Dz, drop_eq_getElem_cons → El, length → FH, mem_cons_self → Lw
open Nat renaming le_refl → Ad, le_trans → Aj, lt_of_lt_of_le → Ap, zero_le → Aw, zero_add → Fg
open Option renaming isSome_iff_exists → Lt
open Option.some renaming inj → Bf
namespace Go.Proofs.YtoppdmlmhigogaaGreatDoor
open Go.ChangeShapes Go.WideShapes Go.ChangeAt Go.RowKit Go.Sort
theorem XN(c x:Int)(l:List Int)(hx:x≠c)(h:x∈l):∃p∈De c l,x∈p:=by
 induction l with
 |nil=>cases h
 |cons y l ih=>
  simp only[De];by_cases hy:y=c
  ·rw[if_pos hy];obtain rfl|h:=Ax.1 h
   ·exact absurd hy hx
   ·obtain⟨p,hp,hxp⟩:=ih h;exact⟨p,Dw _ hp,hxp⟩
  ·rw[if_neg hy];cases hq:De c l with
   |nil=>
    have:=(Mf c l).2;rw[hq]at this;simp at this
   |cons q qs=>
    simp only;obtain rfl|h:=Ax.1 h
    ·exact⟨_,Lw ..,Lw ..⟩
    ·obtain⟨p,hp,hxp⟩:=ih h;rw[hq]at hp;obtain rfl|hp:=Ax.1 hp
     ·exact⟨_,Lw ..,Dw _ hxp⟩
     ·exact⟨p,Dw _ hp,hxp⟩
theorem ZZ{α β:Type}(f:α->Option β)(l:List α)(x:α)(hx:x∈l)(h:f x=none):l.mapM f=none:=by
 obtain⟨a,b,rfl⟩:=List.append_of_mem hx;exact Sb f a x b h
theorem jK(l:List Int)(h:(58:Int)∈l):Ez l=JJ l:=by
 unfold Ez;have:It l=none:=by
  obtain⟨p,hp,hc⟩:=XN 46 58 l (by decide) h;unfold It;rw[ZZ _ _ p hp]
  ·rfl
  ·cases hx:FN p 256 with
   |none=>rfl
   |some n=>
    have h1:=(Fy hx).1;rw[h1]at hc;have:=Fk n 58 hc;omega
 rw[this]
theorem gY(l:List Int)(h:(58:Int) ∉ l):Ez l=It l:=by
 unfold Ez;cases hf:It l with
 |some b=>rfl
 |none=>
  simp only;unfold JJ;have hd:xdc l=none:=by
   have:=OC l [] h;rw[List.append_nil]at this;rw[this];rfl
  rw[hd];simp only;unfold FD;by_cases h0:l=[]
  ·rw[if_pos h0];rfl
  ·rw[if_neg h0,JA 58 l h];cases hg:LZ l with
   |none=>simp[Dz,hg]
   |some n=>simp[Dz,hg,xby]
def lK(o:Option (List Int))(w:Ab)(e:Ending)(w':Ab):Prop:=
 (∀out,o=some out->∃v ys,e=.returned (.tuple #[v,.int .i64 0])/\Hid (Own w.heap.size w' v out.length ys/\ys.take out.length=out/\Blw w w'))/\
 (o=none->e=.returned (.tuple #[.slice none 0 0,.int .i64 7])/\Hid (Blw w w'))
theorem bZ(s:ByteArray)(w:Ab)(hs:s.size<4294967281)(hE:Cc w):Ag Aa 245 #[.string s] w (lK (Ez (Ai s)) w):=by
 have KS:=Ac (bA s w hs hE);have KL:=Ac (jE s w hs hE);clear hE;by_cases hc:(58:UInt8)∈s.data.toList
 focus
  have hp:Ez (Ai s)=JJ (Ai s):=jK _ ((Uk 58 _).2 hc);have K1:=Ac (Tryz.strings_Contains_one s 58 w);rw[(rU 58 s.data.toList).2 hc]at K1;rw[hp];clear hc hp KS;generalize JJ (Ai s)=o at*;go_enter Tryz.func245,Tryz.ntmps245;go_wp2_with fail;refine K1.out.mono ?_;rintro e w' ⟨rfl,hw⟩;subst w';go_wp2_with fail;refine KL.out.mono ?_;intro e w1 HP;have HP:=Ac HP;clear KL K1
 rotate_left
 focus
  have hp:Ez (Ai s)=It (Ai s):=gY _ (fun h=>hc ((Uk 58 _).1 h));have K1:=Ac (Tryz.strings_Contains_one s 58 w);have hf:decide (0<=Bu s.data.toList 58)=false:=by
   cases h:decide (0<=Bu s.data.toList 58) with
   |false=>rfl
   |true=>exact absurd ((rU 58 s.data.toList).1 h) hc
  rw[hf]at K1;rw[hp];clear hc hp KL hf;generalize It (Ai s)=o at*;go_enter Tryz.func245,Tryz.ntmps245;go_wp2_with fail;refine K1.out.mono ?_;rintro e w' ⟨rfl,hw⟩;subst w';go_wp2_with fail;refine KS.out.mono ?_;intro e w1 HP;have HP:=Ac HP;clear KS K1
 rotate_left
 all_goals
  cases o with
  |none=>
   obtain⟨rfl,H⟩:=HP.out.2 rfl;clear HP;go_wp2_with fail;go_ret2;exact⟨fun out h=>(by cases h),fun _=>⟨rfl,H.out⟩⟩
  |some out=>
   obtain⟨v,ys,rfl,H⟩:=HP.out.1 out rfl;clear HP;go_wp2_with fail;go_ret2;exact⟨fun out' h=>(by injection h with h;subst h;exact⟨v,ys,rfl,H.out⟩),fun h=>(by cases h)⟩
end Go.Proofs.YtoppdmlmhigogaaGreatDoor
namespace Go.Proofs.YtoppdmlmhigogaaGreatDoor
open Go.ChangeShapes Go.WideShapes Go.ChangeAt Go.RowKit
def EK(s:ByteArray):ByteArray:=⟨(txt ((Ai s).map fz)).toArray⟩
theorem RJ(s:ByteArray):(EK s).size=s.size:=by
 show(txt ((Ai s).map fz)).toArray.size=s.size;rw[List.size_toArray,II,AS,Av]
theorem Se(s:ByteArray):Ai (EK s)=(Ai s).map fz:=by
 unfold EK;refine kG _ fun z hz=>?_
 obtain⟨y,hy,rfl⟩:=AY.1 hz;exact wN y (VK s y hy)
theorem lT(a b:Option Addr)(n c d:Nat)(zs:List Int)(w:Ab)(hr:Rd w a zs)(hr':Rd w b zs)(hl:zs.length=n) :
  Ag Aa 88 #[.slice a n c,.slice b n d] w fun e w'=>e=.returned (.bool true)/\w'=w:=by
 have h1:=Hk a n c zs w hr hl;have h2:=Hk b n d zs w hr' hl;clear hr hr';generalize txt zs=t at*;go_enter Tryz.func88,Tryz.ntmps88;go_wp2;go_ret;exact⟨rfl,rfl⟩
theorem bH(w:Ab):Own w.heap.size (w.alloc (.cells #[] 5)) (.slice (some ⟨w.heap.size,0,none⟩) 0 0) 0 []:=
 .inr ⟨w.heap.size,rfl,Ad _,⟨by rw[Au];rfl,by simp⟩,Ad _,Aw _⟩
theorem Sw(x:Addr)(cap:Nat)(zs:List Int)(w:Ab)(hr:Rd w (some x) zs)(hm:zs.length<=140737488355328) :
  Ag Aa 274 #[.slice (some x) zs.length cap] w fun e w'=>∃v ys,e=.returned v/\Own w.heap.size w' v zs.length ys/\ys.take zs.length=zs/\Blw w w':=by
 have HR:Hid (Rd w (some x) zs):=hr;clear hr;obtain⟨len,hlen⟩:∃len,len=zs.length:=⟨_,rfl⟩;rw[<- hlen]at hm ⊢;have HL:Hid (len=zs.length):=hlen;clear hlen;have hb1:Blw w (w.alloc (.cells #[] 5)):=(Ae _ _).alloc (Ad _) _;have hnil:∀W:Ab,(binOp .eql 39 (.slice (some x) len cap) (.slice none 0 0)).run Aa W=.ok (.bool false) W:=fun W=>Nk W _ _ _ _ _ _ _ AI
 go_enter Tryz.func274,Tryz.ntmps274;go_wp2_with (at_builtin;refine Cz _ rfl _ _ rfl w.heap.size _ 0 [] rfl (bH w) (some x) len cap zs rfl (HR.out.below hb1) HL.out.symm (by simp) (by omega) (by simp) ?_;intro v' w' zs' hO hT hG);go_ret;refine⟨v',zs',rfl,?_,?_,?_⟩
 ·have h:=hO.out;rw[Fg]at h;exact h
 ·have h:=hT.out;rw[Fg]at h;simpa using h
 ·refine hb1.grown hG (by simp) ?_;intro k hk;have e:w.heap.size=k:=Bf hk;omega
theorem QK(w:Ab) :
  Ag Aa 274 #[.slice none 0 0] w fun e w'=>e=.returned (.slice none 0 0)/\w'=w:=by
 have hnil:∀W:Ab,(binOp .eql 39 (.slice none 0 0) (.slice none 0 0)).run Aa W=.ok (.bool true) W:=fun W=>Nk W _ _ _ _ _ _ _ AI
 go_enter Tryz.func274,Tryz.ntmps274;go_wp2;go_ret;exact⟨rfl,rfl⟩
end Go.Proofs.YtoppdmlmhigogaaGreatDoor
namespace Go.Proofs.YtoppdmlmhigogaaGreatDoor
open Go.ChangeShapes Go.WideShapes Go.ChangeAt Go.RowKit Go.Deep
structure Sl where
 a:Option Addr
 n:Nat
 c:Nat
def uv(us:List Nat):List Ao:=us.map fun(n:Nat)=>AL .u32 (n:Int)
theorem gO(us:List Nat):(uv us).length=us.length:=by simp[uv]
structure TRd(w:Ab)(s:Sl)(ss:List ByteArray):Prop where
 rd:RdT w s.a ss
 len:ss.length=s.n
 cap:s.n<=s.c/\s.c<=9223372036854775807
 nil:s.a=none->s.c=0
 z63:∀x∈ss,x.size<=9223372036854775807
theorem TRd.below{w w':Ab}{s:Sl}{ss:List ByteArray}(h:TRd w s ss)(hb:Blw w w'):TRd w' s ss:=⟨h.rd.below hb,h.len,h.cap,h.nil,h.z63⟩
structure NRd(w:Ab)(s:Sl)(nss:List (List ByteArray)):Prop where
 rd:nss=[]∨∃b o,s.a=some ⟨b,o,none⟩/\b<w.heap.size/\∀i (h:i<nss.length),∃x:Sl,w.cell? ⟨b,o+i,none⟩=some (.slice x.a x.n x.c)/\TRd w x nss[i]
 len:nss.length=s.n
 cap:s.n<=s.c/\s.c<=9223372036854775807
 nil:s.a=none->s.c=0
theorem NRd.below{w w':Ab}{s:Sl}{nss:List (List ByteArray)}(h:NRd w s nss)(hb:Blw w w'):NRd w' s nss:=by
 refine⟨?_,h.len,h.cap,h.nil⟩;obtain h1|⟨b,o,h1,h2,h3⟩:=h.rd
 ·exact .inl h1
 ·refine .inr ⟨b,o,h1,Ap h2 hb.size,fun i hi=>?_⟩;obtain⟨x,h4,h5⟩:=h3 i hi;exact⟨x,(hb.cell (p:=⟨b,o+i,none⟩) h2).trans h4,h5.below hb⟩
theorem NRd.at{w:Ab}{s:Sl}{nss:List (List ByteArray)}(h:NRd w s nss)(i:Nat)(hi:i<nss.length):∃b o,s.a=some ⟨b,o,none⟩/\b<w.heap.size/\∃x:Sl,w.cell? ⟨b,o+i,none⟩=some (.slice x.a x.n x.c)/\TRd w x nss[i]:=by
 obtain h1|⟨b,o,h1,h2,h3⟩:=h.rd
 ·subst h1;simp at hi
 ·exact⟨b,o,h1,h2,h3 i hi⟩
structure URd(w:Ab)(s:Sl)(us:List Nat):Prop where
 rd:RdV w s.a (uv us)
 len:us.length=s.n
 cap:s.n<=s.c/\s.c<=9223372036854775807
 nil:s.a=none->s.c=0
 bd:∀x∈us,x<=4294967295
theorem URd.below{w w':Ab}{s:Sl}{us:List Nat}(h:URd w s us)(hb:Blw w w'):URd w' s us:=⟨h.rd.below hb,h.len,h.cap,h.nil,h.bd⟩
theorem URd.at{w:Ab}{s:Sl}{us:List Nat}(h:URd w s us)(i:Nat)(hi:i<us.length):∃b o,s.a=some ⟨b,o,none⟩/\b<w.heap.size/\w.cell? ⟨b,o+i,none⟩=some (.int .u32 (us[i]:Int)):=by
 obtain h1|⟨b,o,h1,h2,h3⟩:=h.rd
 ·have:=congrArg FH h1;rw[gO]at this;simp at this;subst this;simp at hi
 ·refine⟨b,o,h1,h2,?_⟩;rw[h3 i (by rw[gO];exact hi)];simp[uv]
structure BRd(w:Ab)(s:Sl)(zs:List Int):Prop where
 rd:Rd w s.a zs
 len:zs.length=s.n
 cap:s.n<=s.c/\s.c<=9223372036854775807
 nil:s.a=none->s.c=0
theorem BRd.below{w w':Ab}{s:Sl}{zs:List Int}(h:BRd w s zs)(hb:Blw w w'):BRd w' s zs:=⟨h.rd.below hb,h.len,h.cap,h.nil⟩
structure DA where
 p1:Sl
 p2:Sl
 p3:Sl
 p4:Sl
structure DRd(w:Ab)(x:DA)(d:Dat):Prop where
 h1:NRd w x.p1 d.ns
 h2:URd w x.p2 d.us
 h3:TRd w x.p3 d.ts
 h4:BRd w x.p4 d.raw
theorem DRd.below{w w':Ab}{x:DA}{d:Dat}(h:DRd w x d)(hb:Blw w w'):DRd w' x d:=⟨h.h1.below hb,h.h2.below hb,h.h3.below hb,h.h4.below hb⟩
variable {H:Type} {enc:BH × Ao->H} {W:Ab}
theorem IY{t:BH}(ht:Aa.underlying t=some (.slice 9)){a:Option Addr}{len cap fuel:Nat}{x:Lo H × List NT}(hf:CJ enc Aa W 0 (fun _=>true) true fuel t [Ce a len cap]=some x):∃ss,TRd W ⟨a,len,cap⟩ ss:=by
 obtain⟨hcs,hx⟩|⟨x,l,c,m,S,hcs,_,hl,hm,hmm,hx,hcell⟩:=open_strs ht AK (by kernel_rfl) hf
 ·simp at hcs;obtain⟨rfl,rfl,rfl⟩:=hcs;exact⟨[],.inl rfl,rfl,⟨Ad _,Aw _⟩,fun _=>rfl,by simp⟩
 ·simp at hcs;obtain⟨rfl,rfl,rfl⟩:=hcs;have hmc:m=cap:=by simpa using hmm
  refine⟨(List.range len).map S,?_,by simp,⟨hl,by simp only[Gi]at hm;exact hm⟩,by simp,?_⟩
  ·by_cases h0:len=0
   ·left;rw[h0];rfl
   ·right
    obtain⟨b,off,spot⟩:=x;have hc0:=(hcell 0 (by omega)).1;have hspot:spot=none:=by simpa[Kk] using MP hc0
    subst hspot;have hlt:b<W.heap.size:=by
     have:=Hd W _ hc0;simpa[Kk] using this
    refine⟨b,off,rfl,hlt,fun i hi=>?_⟩;have hi':i<len:=by simpa[tv] using hi
    have:=(hcell i (by omega)).1;rw[Js]at this;rw[this];simp[tv]
  ·intro s hs;simp only[AY,List.mem_range]at hs;obtain⟨i,hi,rfl⟩:=hs;have:=(hcell i (by omega)).2;simp only[Gi]at this;exact this
theorem JX{t e:BH}(ht:Aa.underlying t=some (.slice e)){v:Ao}{fuel:Nat}{x:Lo H × List NT}(hf:CJ enc Aa W 0 (fun _=>true) true fuel t [v]=some x):∃a n c,v=.slice a n c:=by
 obtain⟨hcs,_⟩|⟨a,len,cap,elems,rest,n,_,hcs,_⟩:=DataW.trod_slice ht hf
 ·simp at hcs;exact⟨_,_,_,hcs⟩
 ·simp at hcs;exact⟨_,_,_,hcs⟩
theorem Vh{a:Option Addr}{len cap fuel:Nat}{x:Lo H × List NT}(hf:CJ enc Aa W 0 (fun _=>true) true fuel 39 [Ce a len cap]=some x):∃zs,BRd W ⟨a,len,cap⟩ zs:=by
 obtain⟨hcs,_⟩|⟨x,l,c,zs,hcs,_,hl,hm,hz,hx,hcell,hwz⟩:=open_ints AI Ba (by kernel_rfl) hf
 ·simp at hcs;obtain⟨rfl,rfl,rfl⟩:=hcs;exact⟨[],⟨.inl rfl,by simp⟩,rfl,⟨Ad _,Aw _⟩,fun _=>rfl⟩
 ·simp at hcs;obtain⟨rfl,rfl,rfl⟩:=hcs;have hz':zs.length=cap:=by simpa using hz
  refine⟨zs.take len,⟨?_,?_⟩,by simp;omega,⟨hl,by simp only[Gi]at hm;exact hm⟩,by simp⟩
  ·by_cases h0:cap=0
   ·left
    have:zs=[]:=AC (by omega);rw[this];simp
   ·right
    obtain⟨b,off,spot⟩:=x;have hspot:spot=none:=by simpa[Kk] using MP (hcell 0 (by omega))
    subst hspot;have hlt:b<W.heap.size:=by
     have:=Hd W _ (hcell 0 (by omega));simpa[Kk] using this
    refine⟨b,off,rfl,hlt,fun i hi=>?_⟩;have hi':i<len:=by simp at hi;omega
    have:=hcell i (by simp at hi;omega);rw[Js]at this;rw[this];simp[Am,hi']
  ·intro z hz2;have:=hwz z (Be hz2);simp[Lit.wf,IntKind.min,IntKind.max,IntKind.bits,IntKind.signed]at this;omega
theorem XZ{a:Option Addr}{len cap fuel:Nat}{x:Lo H × List NT}(hf:CJ enc Aa W 0 (fun _=>true) true fuel 38 [Ce a len cap]=some x):∃us,URd W ⟨a,len,cap⟩ us:=by
 obtain⟨hcs,_⟩|⟨x,l,c,zs,hcs,_,hl,hm,hz,hx,hcell,hwz⟩:=open_ints Tryz.underlying38 CX (by kernel_rfl) hf
 ·simp at hcs;obtain⟨rfl,rfl,rfl⟩:=hcs;exact⟨[],.inl rfl,rfl,⟨Ad _,Aw _⟩,fun _=>rfl,by simp⟩
 ·simp at hcs;obtain⟨rfl,rfl,rfl⟩:=hcs;have hz':zs.length=cap:=by simpa using hz
  have hbd:∀z∈zs,0<=z/\z<=4294967295:=by
   intro z hz2;have:=hwz z hz2;simp[Lit.wf,IntKind.min,IntKind.max,IntKind.bits,IntKind.signed]at this;omega
  refine⟨(zs.take len).map Int.toNat,?_,by simp;omega,⟨hl,by simp only[Gi]at hm;exact hm⟩,by simp,?_⟩
  ·by_cases h0:len=0
   ·left;rw[h0];rfl
   ·right
    obtain⟨b,off,spot⟩:=x;have hspot:spot=none:=by simpa[Kk] using MP (hcell 0 (by omega))
    subst hspot;have hlt:b<W.heap.size:=by
     have:=Hd W _ (hcell 0 (by omega));simpa[Kk] using this
    refine⟨b,off,rfl,hlt,fun i hi=>?_⟩;have hi':i<len:=by simp[uv]at hi;omega
    have hiz:i<zs.length:=by omega
    have:=hcell i (by omega);rw[Js]at this;rw[this];have hb:=hbd zs[i] (AU hiz);simp[uv,Am,hiz];omega
  ·intro y hy;obtain⟨z,hz2,rfl⟩:=AY.1 hy;have:=hbd z (Be hz2);omega
theorem ZK{α:Type}(n:Nat)(p:Nat->α->Prop)(h:∀i,i<n->∃x,p i x):∃l:List α,l.length=n/\∀i (hi:i<l.length),p i l[i]:=by
 induction n with
 |zero=>exact⟨[],rfl,fun i hi=>absurd hi (Nat.not_lt_zero _)⟩
 |succ n ih=>
  obtain⟨l,hl,hp⟩:=ih fun i hi=>h i (by omega)
  obtain⟨x,hx⟩:=h n (by omega);refine⟨l++[x],by simp[hl],fun i hi=>?_⟩;by_cases hi':i<l.length
  ·rw[List.getElem_append_left hi'];exact hp i hi'
  ·have:i=n:=by simp at hi;omega
   subst this;rw[List.getElem_append_right (by omega)];simp[hl,hx]
theorem Wr{a:Option Addr}{len cap fuel:Nat}{x:Lo H × List NT}(hf:CJ enc Aa W 0 (fun _=>true) true fuel 37 [Ce a len cap]=some x):∃nss,NRd W ⟨a,len,cap⟩ nss:=by
 obtain⟨hcs,_⟩|⟨x,l,c,m,n,V,D,Pl,hcs,_,hl,hm,hmm,hx,hcell⟩:=open_slice1 Tryz.underlying37 (by kernel_rfl) hf
 ·simp at hcs;obtain⟨rfl,rfl,rfl⟩:=hcs;exact⟨[],.inl rfl,rfl,⟨Ad _,Aw _⟩,fun _=>rfl⟩
 ·simp at hcs;obtain⟨rfl,rfl,rfl⟩:=hcs;have hmc:m=cap:=by simpa using hmm
  have hex:∀i,i<len->∃ss,∃s:Sl,V i=.slice s.a s.n s.c/\TRd W s ss:=by
   intro i hi;obtain⟨a',n',c',e⟩:=JX (t:=23) (e:=9) BV (hcell i (by omega)).2;have h2:=(hcell i (by omega)).2;rw[e]at h2;obtain⟨ss,hss⟩:=IY BV h2;exact⟨ss,⟨a',n',c'⟩,e,hss⟩
  obtain⟨nss,hlen,hnss⟩:=ZK len _ hex;refine⟨nss,?_,hlen,⟨hl,by simp only[Gi]at hm;exact hm⟩,by simp⟩;by_cases h0:len=0
  ·left;exact AC (by omega)
  ·right
   obtain⟨b,off,spot⟩:=x;have hc0:=(hcell 0 (by omega)).1;have hspot:spot=none:=by simpa[Kk] using MP hc0
   subst hspot;have hlt:b<W.heap.size:=by
    have:=Hd W _ hc0;simpa[Kk] using this
   refine⟨b,off,rfl,hlt,fun i hi=>?_⟩;obtain⟨s,e,hs⟩:=hnss i hi;have:=(hcell i (by omega)).1;rw[Js,e]at this;exact⟨s,this,hs⟩
variable {H:Type} {enc:BH × Ao->H} {W:Ab}
end Go.Proofs.YtoppdmlmhigogaaGreatDoor
namespace Go.Proofs.YtoppdmlmhigogaaGreatDoor
open Go.ChangeShapes Go.WideShapes Go.ChangeAt Go.RowKit
abbrev DA.val(x:DA):Ao:=.agg #[.slice x.p1.a x.p1.n x.p1.c,.slice x.p2.a x.p2.n x.p2.c,.slice x.p3.a x.p3.n x.p3.c,.slice x.p4.a x.p4.n x.p4.c]
def Eh(w:Ab)(b:Nat)(x:DA):Prop:=
 w.cell? ⟨b,0,none⟩=some (.slice x.p1.a x.p1.n x.p1.c)/\w.cell? ⟨b,1,none⟩=some (.slice x.p2.a x.p2.n x.p2.c)/\w.cell? ⟨b,2,none⟩=some (.slice x.p3.a x.p3.n x.p3.c)/\w.cell? ⟨b,3,none⟩=some (.slice x.p4.a x.p4.n x.p4.c)/\b<w.heap.size
abbrev cDx(x:DA):=Obj.cells #[.slice x.p1.a x.p1.n x.p1.c,.slice x.p2.a x.p2.n x.p2.c,.slice x.p3.a x.p3.n x.p3.c,.slice x.p4.a x.p4.n x.p4.c] 41
theorem Eh.new(w:Ab)(x:DA):Eh (w.alloc (cDx x)) w.heap.size x:=by
 refine⟨?_,?_,?_,?_,by simp⟩ <;> (unfold Az;rw[Au];rfl)
theorem Eh.below{w w':Ab}{b:Nat}{x:DA}(h:Eh w b x)(hb:Blw w w'):Eh w' b x:=
 ⟨(hb.cell (p:=⟨b,0,none⟩) h.2.2.2.2).trans h.1,(hb.cell (p:=⟨b,1,none⟩) h.2.2.2.2).trans h.2.1,(hb.cell (p:=⟨b,2,none⟩) h.2.2.2.2).trans h.2.2.1,(hb.cell (p:=⟨b,3,none⟩) h.2.2.2.2).trans h.2.2.2.1,Ap h.2.2.2.2 hb.size⟩
structure Sy(d:Dat):Prop where
 n:d.ns.length<=6
 u:d.us.length<=12
 t:d.ts.length<=300
 r:d.raw.length<=65540
 nl:∀x∈d.ns,x.length<=130
 tl:∀x∈d.ts,x.size<=300
def Xj(d:Dat)(w:Ab)(e:Ending)(w':Ab):Prop:=∃b,e=.returned (.bool b)/\(b=false->Sy d)/\Blw w w'
theorem Nu{d:Dat}{w w':Ab}{e:Ending}(he:e=.returned (.bool true))(hb:Blw w w'):Xj d w e w':=⟨true,he,fun h=>(by cases h),hb⟩
theorem xD{d:Dat}{w w':Ab}{e:Ending}(he:e=.returned (.bool false))(hs:Sy d)(hb:Blw w w'):Xj d w e w':=⟨false,he,fun _=>hs,hb⟩
theorem aR(x:DA)(d:Dat)(w:Ab)(h:DRd w x d) :
  Ag Aa 26 #[.agg #[.slice x.p1.a x.p1.n x.p1.c,.slice x.p2.a x.p2.n x.p2.c,.slice x.p3.a x.p3.n x.p3.c,.slice x.p4.a x.p4.n x.p4.c]] w (Xj d w):=by
 have HB:Hid (Blw w (w.alloc (cDx x))):=(Ae _ _).alloc (Ad _) _;have HX:Hid (Eh (w.alloc (cDx x)) w.heap.size x):=Eh.new w x;have HD:Hid (DRd (w.alloc (cDx x)) x d):=h.below HB.out;clear h;obtain⟨⟨a1,n1,k1⟩,⟨a2,n2,k2⟩,⟨a3,n3,k3⟩,⟨a4,n4,k4⟩⟩:=x;simp only at HB HX HD ⊢;go_enter Tryz.func26,Tryz.ntmps26
 go_upto_region 1 with fail
 generalize (w.alloc (.cells #[.slice a1 n1 k1,.slice a2 n2 k2,.slice a3 n3 k3,.slice a4 n4 k4] 41))=W1 at*;have c0:=HX.out.1;have c1:=HX.out.2.1;have c2:=HX.out.2.2.1;have c3:=HX.out.2.2.2.1;simp only at c0 c1 c2 c3;by_cases h1:(6:Int)<(n1:Int)
 ·go_wp2_with fail;go_ret;exact Nu rfl HB.out
 by_cases h2:(12:Int)<(n2:Int)
 ·go_wp2_with fail;go_ret;exact Nu rfl HB.out
 by_cases h3:(300:Int)<(n3:Int)
 ·go_wp2_with fail;go_ret;exact Nu rfl HB.out
 by_cases h4:(2000:Int)<(n4:Int)/\(n4:Int)<=65535
 ·obtain⟨h4a,h4b⟩:=h4;go_wp2_with fail;go_ret;exact Nu rfl HB.out
 by_cases h5:(65540:Int)<(n4:Int)
 ·have h4a:(2000:Int)<(n4:Int):=by omega
  have h4b:¬ (n4:Int)<=65535:=by omega
  go_wp2_with fail;go_ret;exact Nu rfl HB.out
 have hor:¬ (2000:Int)<(n4:Int)∨((2000:Int)<(n4:Int)/\¬ (n4:Int)<=65535):=by omega
 clear h4
 go_cut [38] from 5 to 38 (fun s38 wx=>wx=W1/\s38=.bool false)
 case first=>
  obtain h|⟨h,h'⟩:=hor
  all_goals
   go_wp2_with fail
   go_meet
   exact⟨rfl,rfl⟩
 case rest=>
  obtain⟨hwc,rfl⟩:=hcut;subst hwc;clear hor;go_wp2_with fail;go_loopw [3] (fun v wr=>wr=wc/\∃k:Nat,k<=n1/\v=.int .i64 (k:Int)/\Hid (∀y∈d.ns.take k,y.length<=130)) (fun v _=>n1 - (intOf v).toNat)
  case atStart=>exact⟨rfl,0,Aw _,rfl,by intro y hy;simp at hy⟩
  case round=>
   obtain⟨hwr,k,hk,rfl,HF⟩:=hrel;subst hwr;by_cases hlt:k<n1
   ·have hlt':(k:Int)<(n1:Int):=by omega
    have hki:k<d.ns.length:=by rw[HD.out.h1.len];exact hlt
    obtain⟨b,o,ha,hbl,y,hy,hyr⟩:=HD.out.h1.at k hki;simp only at ha;subst ha;have hyl:=hyr.len;by_cases hy2:(130:Int)<(y.n:Int)
    ·clear hyr;go_wp2_with fail;go_ret;exact Nu rfl HB.out
    ·have HF2:Hid (∀y∈d.ns.take (k+1),y.length<=130):=by
      intro z hz;rw[AH hki]at hz;simp only[AG,Bc]at hz;obtain hz|hz:=hz
      ·exact HF.out z hz
      ·subst hz;omega
     clear hyr HF hyl;go_wp2_with fail;exact⟨⟨by first|rfl|trivial,k+1,by omega,by go_num,HF2⟩,by simp[intOf];omega⟩
   ·have hge:¬ (k:Int)<(n1:Int):=by omega
    have HF1:Hid (∀y∈d.ns,y.length<=130):=by
     have:=HF.out;rwa [Al (by rw[HD.out.h1.len];show n1<=k;omega)]at this
    clear HF;go_wp2_with fail;obtain⟨wz,hz⟩:∃z,z=wr:=⟨_,rfl⟩;subst hz;go_loopw [4] (fun v wr=>wr=wz/\∃k:Nat,k<=n3/\v=.int .i64 (k:Int)/\Hid (∀y∈d.ts.take k,y.size<=300)) (fun v _=>n3 - (intOf v).toNat)
    case atStart=>exact⟨rfl,0,Aw _,rfl,by intro y hy;simp at hy⟩
    case round=>
     obtain⟨hwr,j,hj,rfl,HF⟩:=hrel;subst hwr;by_cases hjt:j<n3
     ·have hjt':(j:Int)<(n3:Int):=by omega
      have hji:j<d.ts.length:=by rw[HD.out.h3.len];exact hjt
      obtain⟨b,o,ha,hbl,hy⟩:=HD.out.h3.rd.at j hji;simp only at ha;subst ha;have hz63:=HD.out.h3.z63 _ (AU hji);obtain⟨s,hs⟩:∃s,d.ts[j]=s:=⟨_,rfl⟩;rw[hs]at hy hz63;have HS:Hid (d.ts[j]=s):=hs;clear hs;by_cases hy2:(300:Int)<(s.size:Int)
      ·go_wp2_with fail;go_ret;exact Nu rfl HB.out
      ·have HF2:Hid (∀y∈d.ts.take (j+1),y.size<=300):=by
        intro z hz;rw[AH hji]at hz;simp only[AG,Bc]at hz;obtain hz|hz:=hz
        ·exact HF.out z hz
        ·subst hz;rw[HS.out];omega
       clear HF;go_wp2_with fail;exact⟨⟨by first|rfl|trivial,j+1,by omega,by go_num,HF2⟩,by simp[intOf];omega⟩
     ·have hjge:¬ (j:Int)<(n3:Int):=by omega
      have HF3:Hid (∀y∈d.ts,y.size<=300):=by
       have:=HF.out;rwa [Al (by rw[HD.out.h3.len];show n3<=j;omega)]at this
      clear HF;go_wp2_with fail;go_ret;refine xD rfl ⟨?_,?_,?_,?_,HF1.out,HF3.out⟩ HB.out
      ·rw[HD.out.h1.len];show n1<=6;omega
      ·rw[HD.out.h2.len];show n2<=12;omega
      ·rw[HD.out.h3.len];show n3<=300;omega
      ·rw[HD.out.h4.len];show n4<=65540;omega
structure Fs where
 nn:Nat
 nf:Nat
 nu:Nat
 wd:Nat
 nt:Int
 tg:Nat
 tl:Nat
 nr:Int
def fs(t:Nat):Fs:=
 if t=1 then⟨0,0,0,0,0,0,0,4⟩ else if t=28 then⟨0,0,0,0,0,0,0,16⟩ else if t=2∨t=5∨t=12 then⟨1,0,0,0,0,0,0,0⟩ else if t=6 then⟨2,2,5,4,0,0,0,0⟩ else
 if t=15 then⟨1,0,1,2,0,0,0,0⟩ else if t=33 then⟨1,0,3,2,0,0,0,0⟩ else if t=16 then⟨0,0,0,0,-1,0,0,0⟩ else if t=257 then⟨0,0,1,1,2,1,1,0⟩ else⟨0,0,0,0,0,0,0,-2⟩
theorem Ew(t:Nat):(t=1/\fs t=⟨0,0,0,0,0,0,0,4⟩)∨(t=28/\fs t=⟨0,0,0,0,0,0,0,16⟩)∨((t=2∨t=5∨t=12)/\fs t=⟨1,0,0,0,0,0,0,0⟩)∨(t=6/\fs t=⟨2,2,5,4,0,0,0,0⟩) ∨
  (t=15/\fs t=⟨1,0,1,2,0,0,0,0⟩)∨(t=33/\fs t=⟨1,0,3,2,0,0,0,0⟩)∨(t=16/\fs t=⟨0,0,0,0,-1,0,0,0⟩)∨(t=257/\fs t=⟨0,0,1,1,2,1,1,0⟩) ∨
  ((t≠1/\t≠28/\t≠2/\t≠5/\t≠12/\t≠6/\t≠15/\t≠33/\t≠16/\t≠257)/\fs t=⟨0,0,0,0,0,0,0,-2⟩):=by
 unfold fs;by_cases h1:t=1
 ·simp[h1]
 by_cases h2:t=28
 ·simp[h2]
 by_cases h3:t=2∨t=5∨t=12
 ·obtain h|h|h:=h3 <;> simp[h]
 by_cases h4:t=6
 ·simp[h4]
 by_cases h5:t=15
 ·simp[h5]
 by_cases h6:t=33
 ·simp[h6]
 by_cases h7:t=16
 ·simp[h7]
 by_cases h8:t=257
 ·simp[h8]
 ·rw[if_neg h1,if_neg h2,if_neg h3,if_neg h4,if_neg h5,if_neg h6,if_neg h7,if_neg h8];simp only[not_or]at h3;exact .inr (.inr (.inr (.inr (.inr (.inr (.inr (.inr ⟨⟨h1,h2,h3.1,h3.2.1,h3.2.2,h4,h5,h6,h7,h8⟩,rfl⟩)))))))
theorem Oa(t:Nat)(w:Ab):Ag Aa 100 #[.int .u16 t] w fun e w'=>e=.returned (.agg #[.int .i64 (fs t).nn,.int .i64 (fs t).nf,.int .i64 (fs t).nu,.int .i64 (fs t).wd,.int .i64 (fs t).nt,.int .i64 (fs t).tg,.int .i64 (fs t).tl,.int .i64 (fs t).nr])/\Hid (Blw w w'):=by
 obtain⟨ht,e⟩|⟨ht,e⟩|⟨ht,e⟩|⟨ht,e⟩|⟨ht,e⟩|⟨ht,e⟩|⟨ht,e⟩|⟨ht,e⟩|⟨ht,e⟩:=Ew t
 ·subst ht;rw[e];clear e;go_enter EZ,EB;go_wp2_with fail;exact An (v:=.agg #[.int .i64 0,.int .i64 0,.int .i64 0,.int .i64 0,.int .i64 0,.int .i64 0,.int .i64 0,.int .i64 4]) (by simp[AJ,DI,go_sem]) rfl ⟨rfl,(Ae _ _).alloc (Ad _) _⟩
 ·subst ht;rw[e];clear e;go_enter EZ,EB;go_wp2_with fail;exact An (v:=.agg #[.int .i64 0,.int .i64 0,.int .i64 0,.int .i64 0,.int .i64 0,.int .i64 0,.int .i64 0,.int .i64 16]) (by simp[AJ,DI,go_sem]) rfl ⟨rfl,(Ae _ _).alloc (Ad _) _⟩
 ·rw[e];clear e;obtain rfl|rfl|rfl:=ht
  all_goals
   go_enter EZ,EB;go_wp2_with fail;exact An (v:=.agg #[.int .i64 1,.int .i64 0,.int .i64 0,.int .i64 0,.int .i64 0,.int .i64 0,.int .i64 0,.int .i64 0]) (by simp[AJ,DI,go_sem]) rfl ⟨rfl,(Ae _ _).alloc (Ad _) _⟩
 ·subst ht;rw[e];clear e;go_enter EZ,EB;go_wp2_with fail;exact An (v:=.agg #[.int .i64 2,.int .i64 2,.int .i64 5,.int .i64 4,.int .i64 0,.int .i64 0,.int .i64 0,.int .i64 0]) (by simp[AJ,DI,go_sem]) rfl ⟨rfl,(Ae _ _).alloc (Ad _) _⟩
 ·subst ht;rw[e];clear e;go_enter EZ,EB;go_wp2_with fail;exact An (v:=.agg #[.int .i64 1,.int .i64 0,.int .i64 1,.int .i64 2,.int .i64 0,.int .i64 0,.int .i64 0,.int .i64 0]) (by simp[AJ,DI,go_sem]) rfl ⟨rfl,(Ae _ _).alloc (Ad _) _⟩
 ·subst ht;rw[e];clear e;go_enter EZ,EB;go_wp2_with fail;exact An (v:=.agg #[.int .i64 1,.int .i64 0,.int .i64 3,.int .i64 2,.int .i64 0,.int .i64 0,.int .i64 0,.int .i64 0]) (by simp[AJ,DI,go_sem]) rfl ⟨rfl,(Ae _ _).alloc (Ad _) _⟩
 ·subst ht;rw[e];clear e;go_enter EZ,EB;go_wp2_with fail;exact An (v:=.agg #[.int .i64 0,.int .i64 0,.int .i64 0,.int .i64 0,.int .i64 (-1),.int .i64 0,.int .i64 0,.int .i64 0]) (by simp[AJ,DI,go_sem]) rfl ⟨rfl,(Ae _ _).alloc (Ad _) _⟩
 ·subst ht;rw[e];clear e;go_enter EZ,EB;go_wp2_with fail;exact An (v:=.agg #[.int .i64 0,.int .i64 0,.int .i64 1,.int .i64 1,.int .i64 2,.int .i64 1,.int .i64 1,.int .i64 0]) (by simp[AJ,DI,go_sem]) rfl ⟨rfl,(Ae _ _).alloc (Ad _) _⟩
 ·rw[e];clear e;obtain⟨h1,h2,h3,h4,h5,h6,h7,h8,h9,h10⟩:=ht;have q1:((t:Int) == 1)=false:=by simp;omega
  have q2:((t:Int) == 28)=false:=by simp;omega
  have q3:((t:Int) == 2)=false:=by simp;omega
  have q4:((t:Int) == 5)=false:=by simp;omega
  have q5:((t:Int) == 12)=false:=by simp;omega
  have q6:((t:Int) == 6)=false:=by simp;omega
  have q7:((t:Int) == 15)=false:=by simp;omega
  have q8:((t:Int) == 33)=false:=by simp;omega
  have q9:((t:Int) == 16)=false:=by simp;omega
  have q10:((t:Int) == 257)=false:=by simp;omega
  clear h1 h2 h3 h4 h5 h6 h7 h8 h9 h10;go_enter EZ,EB;go_wp2_with fail;exact An (v:=.agg #[.int .i64 0,.int .i64 0,.int .i64 0,.int .i64 0,.int .i64 0,.int .i64 0,.int .i64 0,.int .i64 (-2)]) (by simp[AJ,DI,go_sem]) rfl ⟨rfl,(Ae _ _).alloc (Ad _) _⟩
theorem Pc(t:Int)(w:Ab):Ag Aa 98 #[.int .u16 t] w fun e w'=>e=.returned (.bool (decide (128<=t) && decide (t<=255)))/\w'=w:=by
 go_enter Tryz.func98,Tryz.ntmps98;go_wp2
 all_goals
  go_ret;refine⟨Cl ?_,rfl⟩;simp_all;try omega
theorem LQ(t:Nat)(w:Ab):Ag Aa 99 #[.int .u16 t] w fun e w'=>e=.returned (.bool (Gz t))/\w'=w:=by
 have HS:Hid (∀W,Ag Aa 62 #[.int .u16 t] W fun e w'=>e=.returned (.bool (decide (t≠0) && decide (t≠41) && (decide (t<128) || decide (255<t))))/\w'=W):=by
  intro W;go_enter Tryz.func62,Tryz.ntmps62;by_cases h0:t=0
  ·subst h0;go_wp2_with fail;go_ret;exact⟨Cl (by decide),rfl⟩
  ·by_cases h1:t=41
   ·subst h1;go_wp2_with fail;go_ret;exact⟨Cl (by decide),rfl⟩
   ·have q0:((t:Int) == 0)=false:=by simp;omega
    have q1:((t:Int) == 41)=false:=by simp;omega
    go_wp2_with fail;refine(Pc t _).mono ?_;rintro e W ⟨rfl,rfl⟩;go_wp2_with fail;go_ret;refine⟨Cl ?_,rfl⟩;simp[h0,h1];by_cases h2:t<128
    ·simp[h2];omega
    ·by_cases h3:255<t
     ·simp[h3];omega
     ·simp[h2,h3];omega
 go_enter Tryz.func99,Tryz.ntmps99;by_cases h1:t=41
 ·subst h1;go_wp2_with fail;refine(HS.out _).mono ?_;rintro e W ⟨rfl,rfl⟩;go_wp2_with fail;go_ret;exact⟨rfl,rfl⟩
 ·have q1:((t:Int) == 41)=false:=by simp;omega
  go_wp2_with fail;refine(HS.out _).mono ?_;rintro e W ⟨rfl,rfl⟩;have hm:(decide (t≠0) && decide (t≠41) && (decide (t<128) || decide (255<t)))=Gz t:=by simp[Gz,h1]
  rw[hm];cases hmt:Gz t
  all_goals
   go_wp2_with fail;go_ret;exact⟨Cl (by rw[hmt]),rfl⟩
def Ny(n:Nat)(c:Int):Bool:=if c = -1 then decide (0<n) else if c = -2 then true else decide ((n:Int)=c)
theorem MB(n:Nat)(c:Int)(w:Ab):Ag Aa 137 #[.int .i64 n,.int .i64 c] w fun e w'=>e=.returned (.bool (Ny n c))/\w'=w:=by
 unfold Ny;by_cases h1:c = -1
 ·subst h1;rw[if_pos rfl];go_enter Tryz.func137,Tryz.ntmps137;go_wp2_with fail;go_ret;exact⟨Cl (by simp),rfl⟩
 rw[if_neg h1];have q1:(c == -1)=false:=by simp[h1]
 by_cases h2:c = -2
 ·subst h2;rw[if_pos rfl];go_enter Tryz.func137,Tryz.ntmps137;go_wp2_with fail;go_ret;exact⟨rfl,rfl⟩
 rw[if_neg h2];have q2:(c == -2)=false:=by simp[h2]
 go_enter Tryz.func137,Tryz.ntmps137;go_wp2_with fail;go_ret;exact⟨Cl (by by_cases h:(n:Int)=c <;> simp[h]),rfl⟩
def Em(w:Ab)(b:Nat)(f:Fs):Prop:=
 w.cell? ⟨b,0,none⟩=some (.int .i64 f.nn)/\w.cell? ⟨b,1,none⟩=some (.int .i64 f.nf)/\w.cell? ⟨b,2,none⟩=some (.int .i64 f.nu)/\w.cell? ⟨b,3,none⟩=some (.int .i64 f.wd)/\w.cell? ⟨b,4,none⟩=some (.int .i64 f.nt)/\w.cell? ⟨b,5,none⟩=some (.int .i64 f.tg)/\w.cell? ⟨b,6,none⟩=some (.int .i64 f.tl)/\w.cell? ⟨b,7,none⟩=some (.int .i64 f.nr)/\b<w.heap.size
theorem Em.new(w:Ab)(f:Fs):Em (w.alloc (.cells #[.int .i64 f.nn,.int .i64 f.nf,.int .i64 f.nu,.int .i64 f.wd,.int .i64 f.nt,.int .i64 f.tg,.int .i64 f.tl,.int .i64 f.nr] 146)) w.heap.size f:=by
 refine⟨?_,?_,?_,?_,?_,?_,?_,?_,by simp⟩ <;> (unfold Az;rw[Au];rfl)
theorem Em.below{w w':Ab}{b:Nat}{f:Fs}(h:Em w b f)(hb:Blw w w'):Em w' b f:=by
 obtain⟨h0,h1,h2,h3,h4,h5,h6,h7,hl⟩:=h;exact⟨(hb.cell (p:=⟨b,0,none⟩) hl).trans h0,(hb.cell (p:=⟨b,1,none⟩) hl).trans h1,(hb.cell (p:=⟨b,2,none⟩) hl).trans h2,(hb.cell (p:=⟨b,3,none⟩) hl).trans h3,(hb.cell (p:=⟨b,4,none⟩) hl).trans h4,(hb.cell (p:=⟨b,5,none⟩) hl).trans h5,(hb.cell (p:=⟨b,6,none⟩) hl).trans h6,(hb.cell (p:=⟨b,7,none⟩) hl).trans h7,Ap hl hb.size⟩
def Wf(w W:Ab)(b:Nat)(f:Fs)(x:DA)(d:Dat):Prop:=Em W b f/\Eh W (b+1) x/\DRd W x d/\Blw w W
theorem Wf.new(w:Ab)(f:Fs)(x:DA)(d:Dat)(h:DRd w x d):Wf w ((w.alloc (.cells #[.int .i64 f.nn,.int .i64 f.nf,.int .i64 f.nu,.int .i64 f.wd,.int .i64 f.nt,.int .i64 f.tg,.int .i64 f.tl,.int .i64 f.nr] 146)).alloc (cDx x)) w.heap.size f x d:=by
 have hb1:Blw w (w.alloc (.cells #[.int .i64 f.nn,.int .i64 f.nf,.int .i64 f.nu,.int .i64 f.wd,.int .i64 f.nt,.int .i64 f.tg,.int .i64 f.tl,.int .i64 f.nr] 146)):=(Ae _ _).alloc (Ad _) _;have HX:=Em.new w f;have hx1:=h.below hb1;obtain⟨W0,hW0⟩:∃W,W=w.alloc (.cells #[.int .i64 f.nn,.int .i64 f.nf,.int .i64 f.nu,.int .i64 f.wd,.int .i64 f.nt,.int .i64 f.tg,.int .i64 f.tl,.int .i64 f.nr] 146):=⟨_,rfl⟩;have hs0:W0.heap.size=w.heap.size+1:=by rw[hW0];simp
 rw[<- hW0]at hb1 HX hx1 ⊢;have hb2:Blw W0 (W0.alloc (cDx x)):=(Ae _ _).alloc (Ad _) _;have HY:=Eh.new W0 x;rw[hs0]at HY;exact⟨HX.below hb2,HY,hx1.below hb2,hb1.trans (hb2.mono hb1.size)⟩
def Qc(f:Fs)(d:Dat):Bool:=Ny d.ns.length f.nn && Ny d.us.length f.nu && Ny d.ts.length f.nt && Ny d.raw.length f.nr
theorem VW(f:Fs)(x:DA)(d:Dat)(w:Ab)(h:DRd w x d) :
  Ag Aa 101 #[.agg #[.int .i64 f.nn,.int .i64 f.nf,.int .i64 f.nu,.int .i64 f.wd,.int .i64 f.nt,.int .i64 f.tg,.int .i64 f.tl,.int .i64 f.nr],.agg #[.slice x.p1.a x.p1.n x.p1.c,.slice x.p2.a x.p2.n x.p2.c,.slice x.p3.a x.p3.n x.p3.c,.slice x.p4.a x.p4.n x.p4.c]] w fun e w'=>e=.returned (.bool (Qc f d))/\Hid (Blw w w'):=by
 have H:Hid (Wf w ((w.alloc (.cells #[.int .i64 f.nn,.int .i64 f.nf,.int .i64 f.nu,.int .i64 f.wd,.int .i64 f.nt,.int .i64 f.tg,.int .i64 f.tl,.int .i64 f.nr] 146)).alloc (cDx x)) w.heap.size f x d):=Wf.new w f x d h;have l1:=h.h1.len;have l2:=h.h2.len;have l3:=h.h3.len;have l4:=h.h4.len;clear h;unfold Qc;rw[l1,l2,l3,l4];clear l1 l2 l3 l4;obtain⟨nn,nf,nu,wd,nt,tg,tl,nr⟩:=f;obtain⟨⟨a1,n1,k1⟩,⟨a2,n2,k2⟩,⟨a3,n3,k3⟩,⟨a4,n4,k4⟩⟩:=x;simp only at H ⊢;go_enter Tryz.func101,Tryz.ntmps101
 go_upto_region 1 with fail
 generalize ((w.alloc (.cells #[.int .i64 nn,.int .i64 nf,.int .i64 nu,.int .i64 wd,.int .i64 nt,.int .i64 tg,.int .i64 tl,.int .i64 nr] 146)).alloc (.cells #[.slice a1 n1 k1,.slice a2 n2 k2,.slice a3 n3 k3,.slice a4 n4 k4] 41))=W1 at*;have s0:=H.out.1.1;have s2:=H.out.1.2.2.1;have s4:=H.out.1.2.2.2.2.1;have s7:=H.out.1.2.2.2.2.2.2.2.1;have c0:=H.out.2.1.1;have c1:=H.out.2.1.2.1;have c2:=H.out.2.1.2.2.1;have c3:=H.out.2.1.2.2.2.1;simp only at s0 s2 s4 s7 c0 c1 c2 c3;go_wp2_with fail;refine(MB n1 nn _).mono ?_;rintro e W ⟨rfl,rfl⟩;cases hfn1:Ny n1 nn with
 |false=>
  go_wp2_with fail;go_ret;exact⟨Cl (by simp[*]),H.out.2.2.2⟩
 |true=>
  go_wp2_with fail;refine(MB n2 nu _).mono ?_;rintro e W ⟨rfl,rfl⟩;cases hfn2:Ny n2 nu with
  |false=>
   go_wp2_with fail;go_ret;exact⟨Cl (by simp[*]),H.out.2.2.2⟩
  |true=>
   go_wp2_with fail;refine(MB n3 nt _).mono ?_;rintro e W ⟨rfl,rfl⟩;cases hfn3:Ny n3 nt with
   |false=>
    go_wp2_with fail;go_ret;exact⟨Cl (by simp[*]),H.out.2.2.2⟩
   |true=>
    go_wp2_with fail;refine(MB n4 nr _).mono ?_;rintro e W ⟨rfl,rfl⟩;go_wp2_with fail;go_ret;exact⟨Cl (by simp[*]),H.out.2.2.2⟩
theorem ZA(s:ByteArray)(c:Int)(w:Ab):(callFunc 166 #[.string s,.int .u8 c]).run Aa w=.ok (.value (.int .i64 (Bu s.data.toList c.toNat.toUInt8))) w:=by
 rw[run_callFunc_extern Tryz.func166 (by kernel_rfl) (by kernel_rfl) (by kernel_rfl) (by kernel_rfl) _ w];show((Extern.BytealgIndexByte.indexByte #[.string s,.int .u8 c]).run Aa w).andThen _=_;rw[Lib.run_indexByteString]
 rfl
theorem dS(s:ByteArray)(c:Int)(w:Ab):Ag Aa 129 #[.string s,.int .u8 c] w fun e w'=>e=.returned (.int .i64 (Bu s.data.toList c.toNat.toUInt8))/\w'=w:=by
 have h:=ZA s c;go_enter Tryz.func129,Tryz.ntmps129;go_wp2;go_ret;exact⟨rfl,rfl⟩
theorem mG(s:ByteArray)(c:Int)(w:Ab):Ag Aa 172 #[.string s,.int .u8 c] w fun e w'=>e=.returned (.int .i64 (Bu s.data.toList c.toNat.toUInt8))/\w'=w:=by
 go_enter Tryz.func172,Tryz.ntmps172;go_wp2_with fail;refine(dS s c _).mono ?_;rintro e w1 ⟨rfl,rfl⟩;go_wp2;go_ret;exact⟨rfl,rfl⟩
def uY:List UInt8:=[97,98,99,100,101,102,103,104,105,106,107,108,109,110,111,112,113,114,115,116,117,118,119,120,121,122,65,66,67,68,69,70,71,72,73,74,75,76,77,78,79,80,81,82,83,84,85,86,87,88,89,90,48,49,50,51,52,53,54,55,56,57]
theorem Xk:∀n:Fin 256,decide (Bu uY n.val.toUInt8<0)=!Oi (n.val:Int):=by decide +kernel
theorem qB(c:Int)(h0:0<=c)(h1:c<=255)(w:Ab):Ag Aa 172 #[.string { data:=#[97,98,99,100,101,102,103,104,105,106,107,108,109,110,111,112,113,114,115,116,117,118,119,120,121,122,65,66,67,68,69,70,71,72,73,74,75,76,77,78,79,80,81,82,83,84,85,86,87,88,89,90,48,49,50,51,52,53,54,55,56,57] },.int .u8 c] w fun e w'=>∃k,e=.returned (.int .i64 k)/\Hid (decide (k<0)=!Oi c)/\w'=w:=by
 refine(mG _ c w).mono ?_;rintro e w1 ⟨rfl,rfl⟩;refine⟨_,rfl,?_,rfl⟩;have:=Xk ⟨c.toNat,by omega⟩;simp only at this;rw[Int.toNat_of_nonneg h0]at this;exact this
theorem cQ(s:ByteArray)(hs:s.size<=9223372036854775807)(w:Ab):Ag Aa 138 #[.string s] w fun e w'=>e=.returned (.bool (tagB s))/\w'=w:=by
 by_cases h1:s.size=0
 ·have HE:Hid (tagB s=false):=by show _=_;simp[tagB];omega
  have h1':((s.size:Int) == 0)=true:=by rw[beq_iff_eq];omega
  go_enter Tryz.func138,Tryz.ntmps138;go_wp2_with fail;go_ret;exact⟨by rw[HE.out];rfl,rfl⟩
 ·have h1':((s.size:Int) == 0)=false:=by rw[beq_eq_false_iff_ne];omega
  by_cases h2:15<s.size
  ·have HE:Hid (tagB s=false):=by show _=_;simp[tagB];omega
   have h2':(15:Int)<(s.size:Int):=by omega
   go_enter Tryz.func138,Tryz.ntmps138;go_wp2_with fail;go_ret;exact⟨by rw[HE.out];rfl,rfl⟩
  ·have h2':¬ (15:Int)<(s.size:Int):=by omega
   have HT:Hid (tagB s=(Ai s).all Oi):=by show _=_;simp[tagB];intro _;omega
   go_enter Tryz.func138,Tryz.ntmps138;go_wp2_with fail;go_loopw [14] (fun v wr=>wr=w/\∃k:Nat,k<=s.size/\v=.int .i64 (k:Int)/\Hid (∀z∈(Ai s).take k,Oi z=true)) (fun v _=>s.size - (intOf v).toNat)
   case atStart=>exact⟨rfl,0,Aw _,rfl,by intro y hy;simp at hy⟩
   case round=>
    obtain⟨hwr,k,hk,rfl,HF⟩:=hrel;subst hwr;by_cases hlt:k<s.size
    ·have hlt':(k:Int)<(s.size:Int):=by omega
     have hbd:=Lf s k;have hki:k<(Ai s).length:=by rw[Av];exact hlt
     have hat:=Ef s k hlt;rw[hat]at hbd;have HA:Hid (∃h:k<(Ai s).length,(Ai s)[k]=(s[k].toNat:Int)):=by
      refine⟨hki,?_⟩;have:(Ai s).getD k 0=(Ai s)[k]:=by simp[Am,hki]
      rw[<- this,hat]
     clear hat hki;obtain⟨c,hc⟩:∃c:Int,(s[k].toNat:Int)=c:=⟨_,rfl⟩;rw[hc]at hbd HA;go_wp2_with fail;first|simp only[hc]|skip
     refine(qB c hbd.1 hbd.2 _).mono ?_;rintro e w1 ⟨j,rfl,HJ,rfl⟩;cases hal:Oi c with
     |true=>
      have HF2:Hid (∀z∈(Ai s).take (k+1),Oi z=true):=by
       intro z hz;obtain⟨hin,hav⟩:=HA.out;rw[AH hin]at hz;simp only[AG,Bc]at hz;obtain hz|hz:=hz
       ·exact HF.out z hz
       ·subst hz;rw[hav];exact hal
      have hj:¬ j<0:=by have:=HJ.out;rw[hal]at this;simpa using this
      clear HF hal HJ;go_wp2_with fail;exact⟨⟨by first|rfl|trivial,k+1,by omega,by go_num,HF2⟩,by simp[intOf];omega⟩
     |false=>
      have HE:Hid (tagB s=false):=by
       show _=_;rw[HT.out,<- Bool.not_eq_true];intro hall;obtain⟨hin,hav⟩:=HA.out;have:=AO.1 hall (Ai s)[k] (AU hin);rw[hav,hal]at this;cases this
      have hj:j<0:=by have:=HJ.out;rw[hal]at this;simpa using this
      clear HF hal HT HJ;go_wp2_with fail;go_ret;exact⟨by rw[HE.out];rfl,rfl⟩
    ·have hge:¬ (k:Int)<(s.size:Int):=by omega
     have HE:Hid (tagB s=true):=by
      have:=HF.out;rw[Al (by rw[Av];omega)]at this;show _=_;rw[HT.out];exact AO.2 this
     clear HF HT;go_wp2_with fail;go_ret;exact⟨by rw[HE.out];rfl,rfl⟩
def Sm(f:Fs)(d:Dat):Bool:=d.us.all (fun n=>decide (n / 2 ^ (8*f.wd)=0)) && (d.ts.take f.tg).all tagB && (d.ts.take (d.ts.length - f.tl)).all (fun s=>decide (s.size<=255))
theorem TW{α:Type}(l:List α)(p:α->Bool)(k:Nat)(hk:k<l.length)(h:p l[k]=false):l.all p=false:=by
 rw[<- Bool.not_eq_true];intro hall;have:=AO.1 hall l[k] (AU hk);rw[h]at this;cases this
theorem RH{α:Type}(l:List α)(p:α->Bool)(k:Nat)(hk:k<l.length)(h:p l[k]=true)(hf:∀z∈l.take k,p z=true):∀z∈l.take (k+1),p z=true:=by
 intro z hz;rw[AH hk]at hz;simp only[AG,Bc]at hz;obtain hz|hz:=hz
 ·exact hf z hz
 ·subst hz;exact h
theorem WL (f : Fs) (x : DA) (d : Dat) (w : Ab) (h : DRd w x d) (hwd : f.wd = 0 ∨ f.wd = 1 ∨ f.wd = 2 ∨ f.wd = 4) (htg : f.tg <= d.ts.length) (htl : f.tl <= d.ts.length) :
    Ag Aa 102 #[.agg #[.int .i64 f.nn, .int .i64 f.nf, .int .i64 f.nu, .int .i64 f.wd, .int .i64 f.nt, .int .i64 f.tg, .int .i64 f.tl, .int .i64 f.nr], .agg #[.slice x.p1.a x.p1.n x.p1.c, .slice x.p2.a x.p2.n x.p2.c, .slice x.p3.a x.p3.n x.p3.c, .slice x.p4.a x.p4.n x.p4.c]] w fun e w' => e = .returned (.bool (Sm f d)) /\ Hid (Blw w w') := by
  have H : Hid (Wf w ((w.alloc (.cells #[.int .i64 f.nn, .int .i64 f.nf, .int .i64 f.nu, .int .i64 f.wd, .int .i64 f.nt, .int .i64 f.tg, .int .i64 f.tl, .int .i64 f.nr] 146)).alloc (.cells #[.slice x.p1.a x.p1.n x.p1.c, .slice x.p2.a x.p2.n x.p2.c, .slice x.p3.a x.p3.n x.p3.c, .slice x.p4.a x.p4.n x.p4.c] 41)) w.heap.size f x d) := Wf.new w f x d h;have l2 := h.h2.len;have l3 := h.h3.len;have HC : Hid (x.p2.n <= 9223372036854775807 /\ x.p3.n <= x.p3.c /\ x.p3.c <= 9223372036854775807) := ⟨Aj h.h2.cap.1 h.h2.cap.2, h.h3.cap.1, h.h3.cap.2⟩;clear h;obtain⟨nn, nf, nu, wd, nt, tg, tl, nr⟩ := f;obtain⟨⟨a1, n1, k1⟩, ⟨a2, n2, k2⟩, ⟨a3, n3, k3⟩, ⟨a4, n4, k4⟩⟩ := x;simp only at H l2 l3 HC hwd htg htl ⊢;have hk3 := HC.out.2;have hn2 := HC.out.1;have htg' : tg <= n3 := by omega
  have htl' : tl <= n3 := by omega
  have HW : Hid (Sm ⟨nn, nf, nu, wd, nt, tg, tl, nr⟩ d = (d.us.all (fun n => decide (n / 2 ^ (8 * wd) = 0)) && (d.ts.take tg).all tagB && (d.ts.take (n3 - tl)).all (fun s => decide (s.size <= 255)))) := by
    show _ = _;unfold Sm;rw [l3]
  have HL : Hid (d.us.length = n2 /\ d.ts.length = n3) := ⟨l2, l3⟩;obtain⟨R, hR⟩ : ∃ R, Sm ⟨nn, nf, nu, wd, nt, tg, tl, nr⟩ d = R := ⟨_, rfl⟩;rw [hR]at HW ⊢;clear hR l2 l3 htg htl HC;go_enter Tryz.func102, Tryz.ntmps102
  go_upto_region 1 with fail
  generalize ((w.alloc (.cells #[.int .i64 nn, .int .i64 nf, .int .i64 nu, .int .i64 wd, .int .i64 nt, .int .i64 tg, .int .i64 tl, .int .i64 nr] 146)).alloc (.cells #[.slice a1 n1 k1, .slice a2 n2 k2, .slice a3 n3 k3, .slice a4 n4 k4] 41)) = W1 at *;obtain⟨b, hb⟩ : ∃ b, b = w.heap.size := ⟨_, rfl⟩;rw [<- hb]at H ⊢;have Hb : Hid (b = w.heap.size) := hb;clear hb;have s3 := H.out.1.2.2.2.1;have c1 := H.out.2.1.2.1;simp only at s3 c1;go_wp2_with fail;go_loopw [14] (fun v wr => wr = W1 /\ ∃ k : Nat, k <= n2 /\ v = .int .i64 (k : Int) /\ Hid (∀ z ∈ d.us.take k, decide (z / 2 ^ (8 * wd) = 0) = true)) (fun v _ => n2 - (intOf v).toNat)
  case atStart => exact⟨rfl, 0, Aw _, rfl, by intro y hy; simp at hy⟩
  case round =>
    obtain⟨hwr, k, hk, rfl, HF⟩ := hrel;subst hwr;by_cases hlt : k < n2
    · have hlt' : (k : Int) < (n2 : Int) := by omega
      have hki : k < d.us.length := by rw [HL.out.1]; exact hlt
      obtain⟨B2, o2, ha2, hl2, hz2⟩ := H.out.2.2.1.h2.at k hki;have hub := H.out.2.2.1.h2.bd _ (AU hki);simp only at ha2;subst ha2;have HN : Hid (decide (d.us[k] / 2 ^ (8 * wd) = 0) = true -> ∀ z ∈ d.us.take (k + 1), decide (z / 2 ^ (8 * wd) = 0) = true) := fun hh => RH d.us _ k hki hh HF.out
      have HX : Hid (decide (d.us[k] / 2 ^ (8 * wd) = 0) = false -> R = false) := by
        intro hh;have := HW.out;rw [TW d.us (fun n => decide (n / 2 ^ (8 * wd) = 0)) k hki hh]at this;simpa using this
      clear HF;generalize d.us[k] = u at *;have hq : ∀ m : Nat, ((u : Int) / ((2 ^ m : Nat) : Int)) = ((u / 2 ^ m : Nat) : Int) := by intro m; simp
      by_cases hu : u / 2 ^ (8 * wd) = 0
      · have HF2 := HN.out (decide_eq_true hu);have HF3 : Hid (∀ z ∈ d.us.take (k + 1), decide (z / 2 ^ (8 * wd) = 0) = true) := HF2;clear HF2 HN HX;obtain e | e | e | e:=hwd
        all_goals
          subst e;simp at hu;go_wp2_with fail;exact⟨⟨by first | rfl | trivial, k + 1, by omega, by go_num, HF3⟩, by simp [intOf]; omega⟩
      · have HE : Hid (R = false) := HX.out (decide_eq_false hu);clear HN HX HW;obtain e | e | e | e:=hwd
        all_goals
          subst e;simp at hu;first
          | omega
          | (go_wp2_with fail
             go_ret;exact⟨by rw [HE.out]; rfl, H.out.2.2.2⟩)
    · have hge : ¬ (k : Int) < (n2 : Int) := by omega
      have HU : Hid (d.us.all (fun n => decide (n / 2 ^ (8 * wd) = 0)) = true) := by
        have := HF.out;rw [Al (by rw [HL.out.1]; omega)]at this;exact AO.2 this
      clear HF;have s5 := H.out.1.2.2.2.2.2.1;have c2 := H.out.2.1.2.2.1;simp only at s5 c2;clear s3 c1 hwd;go_wp2_with fail;obtain⟨wz, hz⟩ : ∃ z, z = wr := ⟨_, rfl⟩;subst hz;go_loopw [31] (fun v wr => wr = wz /\ ∃ k : Nat, k <= tg /\ v = .int .i64 (k : Int) /\ Hid (∀ z ∈ (d.ts.take tg).take k, tagB z = true)) (fun v _ => tg - (intOf v).toNat)
      case atStart => exact⟨rfl, 0, Aw _, rfl, by intro y hy; simp at hy⟩
      case round =>
        obtain⟨hwr, j, hj, rfl, HF⟩ := hrel;subst hwr;by_cases hjt : j < tg
        · have hjt' : (j : Int) < (tg : Int) := by omega
          have hji : j < d.ts.length := by rw [HL.out.2]; omega
          have hjj : j < (d.ts.take tg).length := by rw [CC]; omega
          obtain⟨B3, o3, ha3, hl3, hy3⟩ := H.out.2.2.1.h3.rd.at j hji;have hsz := H.out.2.2.1.h3.z63 _ (AU hji);simp only at ha3;subst ha3;have hjs : (d.ts.take tg)[j] = d.ts[j] := by simp
          have HN : Hid (tagB d.ts[j] = true -> ∀ z ∈ (d.ts.take tg).take (j + 1), tagB z = true) := fun hh => RH (d.ts.take tg) tagB j hjj (by rw [hjs]; exact hh) HF.out
          have HX : Hid (tagB d.ts[j] = false -> R = false) := by
            intro hh;have := HW.out;rw [TW (d.ts.take tg) tagB j hjj (by rw [hjs]; exact hh)]at this;simpa using this
          clear HF hjs hjj;generalize d.ts[j] = s at *;go_wp2_with fail;refine(cQ s hsz _).mono ?_;rintro e Wx ⟨rfl, rfl⟩;cases htb : tagB s with
          | true =>
            have HF2 : Hid (∀ z ∈ (d.ts.take tg).take (j + 1), tagB z = true) := HN.out htb;clear HN HX htb;go_wp2_with fail;exact⟨⟨by first | rfl | trivial, j + 1, by omega, by go_num, HF2⟩, by simp [intOf]; omega⟩
          | false =>
            have HE : Hid (R = false) := HX.out htb;clear HN HX htb;go_wp2_with fail;go_ret;exact⟨by rw [HE.out]; rfl, H.out.2.2.2⟩
        · have hge2 : ¬ (j : Int) < (tg : Int) := by omega
          have HT : Hid ((d.ts.take tg).all tagB = true) := by
            have := HF.out;rw [Al (by rw [CC]; omega)]at this;exact AO.2 this
          clear HF;have s6 := H.out.1.2.2.2.2.2.2.1;simp only at s6;obtain⟨m, hm⟩ : ∃ m : Nat, m = n3 - tl := ⟨_, rfl⟩;have hmi : (n3 : Int) - (tl : Int) = (m : Int) := by omega
          have hmw : CV.wrap ((n3 : Int) - (tl : Int)) = (m : Int) := by rw [hmi, BZ]; omega
          have HM : Hid (m = n3 - tl) := hm;have hmn : m <= n3 := by omega
          clear hm hmi s5;go_wp2_with fail;obtain⟨wy, hz⟩ : ∃ z, z = wr := ⟨_, rfl⟩;subst hz;go_loopw [49] (fun v wr => wr = wy /\ ∃ k : Nat, k <= m /\ v = .int .i64 (k : Int) /\ Hid (∀ z ∈ (d.ts.take m).take k, decide (z.size <= 255) = true)) (fun v _ => m - (intOf v).toNat)
          case atStart => exact⟨rfl, 0, Aw _, rfl, by intro y hy; simp at hy⟩
          case round =>
            obtain⟨hwr, i, hi, rfl, HF⟩ := hrel;subst hwr;by_cases hit : i < m
            · have hit' : (i : Int) < (m : Int) := by omega
              have hii : i < d.ts.length := by rw [HL.out.2]; omega
              have hij : i < (d.ts.take m).length := by rw [CC]; omega
              obtain⟨B3, o3, ha3, hl3, hy3⟩ := H.out.2.2.1.h3.rd.at i hii;simp only at ha3;subst ha3;have his : (d.ts.take m)[i] = d.ts[i] := by simp
              by_cases hz : (255 : Int) < (d.ts[i].size : Int)
              · have HE : Hid (R = false) := by
                  have := HW.out;show R = false;rw [<- HM.out, TW (d.ts.take m) (fun s => decide (s.size <= 255)) i hij (by rw [his]; exact decide_eq_false (by omega))]at this;simpa using this
                clear HF HW;generalize d.ts[i] = s at *;go_wp2_with fail;go_ret;exact⟨by rw [HE.out]; rfl, H.out.2.2.2⟩
              · have HF2 : Hid (∀ z ∈ (d.ts.take m).take (i + 1), decide (z.size <= 255) = true) := RH (d.ts.take m) (fun z => decide (z.size <= 255)) i hij (by rw [his]; exact decide_eq_true (by omega)) HF.out;clear HF his;generalize d.ts[i] = s at *;go_wp2_with fail;exact⟨⟨by first | rfl | trivial, i + 1, by omega, by go_num, HF2⟩, by simp [intOf]; omega⟩
            · have hge3 : ¬ (i : Int) < (m : Int) := by omega
              have HE : Hid (R = true) := by
                have h1 := HF.out;rw [Al (by rw [CC]; omega)]at h1;have h2 := HW.out;rw [HU.out, HT.out, <- HM.out, AO.2 h1]at h2;show R = true;simpa using h2
              clear HF HW;go_wp2_with fail;go_ret;exact⟨by rw [HE.out]; rfl, H.out.2.2.2⟩
theorem Tp(l:List Nat)(n:Nat):(l++[n]).sum=l.sum+n:=by simp
theorem TB(l:List Nat)(k:Nat):(l.take k).sum<=l.sum:=by
 induction l generalizing k with
 |nil=>simp
 |cons x l ih=>
  cases k with
  |zero=>simp
  |succ k=>simp;exact ih k
def UD(d:Dat):Nat:=(d.ns.map nsz).sum
def tz(s:ByteArray):Nat:=1+s.size
def Ro(d:Dat):Nat:=(d.ts.map tz).sum
def gU(f:Fs)(d:Dat):Int:=((f.wd*d.us.length:Nat):Int)+(d.raw.length:Int) - (f.tl:Int)+(UD d:Int)+(Ro d:Int)
theorem XU(f:Fs)(x:DA)(d:Dat)(w:Ab)(h:DRd w x d)(htl:f.tl<=1)(hB:f.wd*d.us.length+d.raw.length+UD d+Ro d<=1000000000000000) :
  Ag Aa 103 #[.agg #[.int .i64 f.nn,.int .i64 f.nf,.int .i64 f.nu,.int .i64 f.wd,.int .i64 f.nt,.int .i64 f.tg,.int .i64 f.tl,.int .i64 f.nr],.agg #[.slice x.p1.a x.p1.n x.p1.c,.slice x.p2.a x.p2.n x.p2.c,.slice x.p3.a x.p3.n x.p3.c,.slice x.p4.a x.p4.n x.p4.c]] w fun e w'=>e=.returned (.int .i64 (gU f d))/\Hid (Below w.heap.size w w'):=by
 have H:Hid (Wf w ((w.alloc (.cells #[.int .i64 f.nn,.int .i64 f.nf,.int .i64 f.nu,.int .i64 f.wd,.int .i64 f.nt,.int .i64 f.tg,.int .i64 f.tl,.int .i64 f.nr] 146)).alloc (cDx x)) w.heap.size f x d):=Wf.new w f x d h;have l1:=h.h1.len;have l2:=h.h2.len;have l3:=h.h3.len;have l4:=h.h4.len;have hc1:x.p1.n<=9223372036854775807:=Aj h.h1.cap.1 h.h1.cap.2;have hc3:x.p3.n<=9223372036854775807:=Aj h.h3.cap.1 h.h3.cap.2;clear h;obtain⟨nn,nf,nu,wd,nt,tg,tl,nr⟩:=f;obtain⟨⟨a1,n1,k1⟩,⟨a2,n2,k2⟩,⟨a3,n3,k3⟩,⟨a4,n4,k4⟩⟩:=x;simp only at H l1 l2 l3 l4 hc1 hc3 htl hB ⊢;obtain⟨Z,hZ⟩:∃Z,gU ⟨nn,nf,nu,wd,nt,tg,tl,nr⟩ d=Z:=⟨_,rfl⟩;rw[hZ];obtain⟨P,hP⟩:∃P,wd*n2=P:=⟨_,rfl⟩;have HZ:Hid (Z=(P:Int)+(n4:Int) - (tl:Int)+(UD d:Int)+(Ro d:Int)):=by
  show Z=_;rw[<- hZ];unfold gU;rw[l4,l2,hP]
 have hB':P+n4+UD d+Ro d<=1000000000000000:=by rw[<- hP,<- l2,<- l4];exact hB
 have HL:Hid (d.ns.length=n1/\d.ts.length=n3):=⟨l1,l3⟩;have hPi:(wd:Int)*(n2:Int)=(P:Int):=by rw[<- hP];simp
 clear hZ l1 l2 l3 l4 hP hB;have w1:CV.wrap ((wd:Int)*(n2:Int))=(P:Int):=by rw[hPi,BZ];omega
 have w2:CV.wrap ((P:Int)+(n4:Int))=(P:Int)+(n4:Int):=by rw[BZ];omega
 have w2':CV.wrap ((P:Int)+(n4:Int) - (tl:Int))=(P:Int)+(n4:Int) - (tl:Int):=by rw[BZ];omega
 clear hPi;go_enter Tryz.func103,Tryz.ntmps103
 go_upto_region 1 with fail
 generalize ((w.alloc (.cells #[.int .i64 nn,.int .i64 nf,.int .i64 nu,.int .i64 wd,.int .i64 nt,.int .i64 tg,.int .i64 tl,.int .i64 nr] 146)).alloc (.cells #[.slice a1 n1 k1,.slice a2 n2 k2,.slice a3 n3 k3,.slice a4 n4 k4] 41))=W1 at*;obtain⟨b,hb⟩:∃b,b=w.heap.size:=⟨_,rfl⟩;rw[<- hb]at H ⊢;have Hb:Hid (b=w.heap.size):=hb;clear hb;have s3:=H.out.1.2.2.2.1;have s6:=H.out.1.2.2.2.2.2.2.1;have c0:=H.out.2.1.1;have c1:=H.out.2.1.2.1;have c3:=H.out.2.1.2.2.2.1;simp only at s3 s6 c0 c1 c3;go_wp2_with fail;clear s3 s6 c1 c3 w1 w2 w2';go_loopw [5,26] (fun v i wr=>wr=W1/\∃(k:Nat) (A:Int),k<=n1/\i=.int .i64 (k:Int)/\v=.int .i64 A/\(-1<=A/\A<=1000000000000000)/\Hid (A=(P:Int)+(n4:Int) - (tl:Int)+((((d.ns.map nsz).take k).sum:Nat):Int))) (fun _ i _=>n1 - (intOf i).toNat)
 case atStart=>exact⟨rfl,0,(P:Int)+(n4:Int) - (tl:Int),Aw _,rfl,by first|rfl|simp,by omega,by show _=_;simp⟩
 case round=>
  obtain⟨hwr,k,A,hk,rfl,rfl,hA,HA⟩:=hrel;subst hwr;by_cases hlt:k<n1
  ·have hlt':(k:Int)<(n1:Int):=by omega
   have hki:k<d.ns.length:=by rw[HL.out.1];exact hlt
   obtain⟨B1,o1,ha1,hl1,z1,hz1,hr1⟩:=H.out.2.2.1.h1.at k hki;simp only at ha1;subst ha1;have hsum:((d.ns.map nsz).take (k+1)).sum=((d.ns.map nsz).take k).sum+nsz d.ns[k]:=by
    rw[AH (by simp;exact hki),Tp];simp
   have hle:((d.ns.map nsz).take (k+1)).sum<=UD d:=TB (d.ns.map nsz) (k+1);have hA2:=HA.out;have HA2:Hid (A+(nsz d.ns[k]:Int)=(P:Int)+(n4:Int) - (tl:Int)+((((d.ns.map nsz).take (k+1)).sum:Nat):Int)):=by show _=_;omega
   have hb2:A+(nsz d.ns[k]:Int)<=1000000000000000:=by have:=HA2.out;omega
   have KS:Hid (∀W,W=wr->Ag Aa 46 #[.slice z1.a z1.n z1.c] W fun e w'=>e=.returned (.int .i64 (nsz d.ns[k]))/\w'=W):=by
    intro W e;subst e;exact RV z1.a z1.n z1.c d.ns[k] W hr1.rd hr1.len (by omega)
   clear hsum hle hA2 hr1 HA;generalize nsz d.ns[k]=q at*;generalize z1.a=za at*;generalize z1.n=zn at*;generalize z1.c=zc at*;have w3:CV.wrap (A+(q:Int))=A+(q:Int):=by rw[BZ];omega
   go_wp2_with fail;refine(KS.out _ rfl).mono ?_;rintro e Wx ⟨rfl,rfl⟩;go_wp2_with fail;refine⟨⟨by first|rfl|trivial,k+1,A+(q:Int),by omega,by go_num,by first|rfl|go_num,by omega,HA2⟩,?_⟩;simp[intOf];omega
  ·have hge:¬ (k:Int)<(n1:Int):=by omega
   have HA1:Hid (A=(P:Int)+(n4:Int) - (tl:Int)+(UD d:Int)):=by
    have:=HA.out;rwa [Al (by simp;rw[HL.out.1];omega)]at this
   clear HA;have c2:=H.out.2.1.2.2.1;simp only at c2;clear c0;go_wp2_with fail;obtain⟨wz,hz⟩:∃z,z=wr:=⟨_,rfl⟩;subst hz;go_loopw [5,38] (fun v i wr=>wr=wz/\∃(j:Nat) (B:Int),j<=n3/\i=.int .i64 (j:Int)/\v=.int .i64 B/\(-1<=B/\B<=1000000000000000)/\Hid (B=A+((((d.ts.map tz).take j).sum:Nat):Int))) (fun _ i _=>n3 - (intOf i).toNat)
   case atStart=>exact⟨rfl,0,A,Aw _,rfl,rfl,hA,by show _=_;simp⟩
   case round=>
    obtain⟨hwr,j,B,hj,rfl,rfl,hB2,HBB⟩:=hrel;subst hwr;by_cases hjt:j<n3
    ·have hjt':(j:Int)<(n3:Int):=by omega
     have hji:j<d.ts.length:=by rw[HL.out.2];exact hjt
     obtain⟨B3,o3,ha3,hl3,hy3⟩:=H.out.2.2.1.h3.rd.at j hji;simp only at ha3;subst ha3;have hsum:((d.ts.map tz).take (j+1)).sum=((d.ts.map tz).take j).sum+(1+d.ts[j].size):=by
      rw[AH (by simp;exact hji),Tp];simp[tz]
     have hle:((d.ts.map tz).take (j+1)).sum<=Ro d:=TB _ (j+1);have hA2:=HBB.out;have hA3:=HA1.out;have HB3:Hid (B+(1+(d.ts[j].size:Int))=A+((((d.ts.map tz).take (j+1)).sum:Nat):Int)):=by show _=_;omega
     have hb3:B+(1+(d.ts[j].size:Int))<=1000000000000000:=by have:=HB3.out;omega
     clear hsum hle hA2 hA3 HBB;obtain⟨s,hs⟩:∃s,s=d.ts[j]:=⟨_,rfl⟩;rw[<- hs]at HB3 hb3 hy3;clear hs;have w4:CV.wrap (1+(s.size:Int))=1+(s.size:Int):=by rw[BZ];omega
     have w5:CV.wrap (B+(1+(s.size:Int)))=B+(1+(s.size:Int)):=by rw[BZ];omega
     go_wp2_with fail;refine⟨⟨by first|rfl|trivial,j+1,B+(1+(s.size:Int)),by omega,by go_num,by first|rfl|go_num,by omega,HB3⟩,?_⟩;simp[intOf];omega
    ·have hge2:¬ (j:Int)<(n3:Int):=by omega
     have HE:Hid (Z=B):=by
      have h1:=HBB.out;rw[Al (by simp;rw[HL.out.2];omega)]at h1;have h2:=HZ.out;have h3:=HA1.out;show Z=B;have h4:Ro d=(d.ts.map tz).sum:=rfl;omega
     clear HBB HA1;go_wp2_with fail;go_ret;exact⟨by rw[HE.out];rfl,H.out.2.2.2⟩
theorem UC(wd:Nat)(h:wd=1∨wd=2∨wd=4)(n:Nat):decide (n / 2 ^ (8*wd)=0)=decide (n<=Cg wd):=by
 apply decide_eq_decide.2
 obtain rfl|rfl|rfl:=h <;> simp[Cg] <;> omega
theorem Bb(n:Nat)(c:Int)(h:0<=c):Ny n c=decide ((n:Int)=c):=by
 unfold Ny;rw[if_neg (by omega),if_neg (by omega)]
theorem BJ{α:Type}{l:List α}(h:(l.length:Int)=0):l=[]:=AC (by omega)
theorem XC(t:Nat)(d:Dat):(Qc (fs t) d && Sm (fs t) d)=Ir t d:=by
 obtain⟨ns,us,ts,raw⟩:=d;rw[Bool.eq_iff_iff];unfold Qc Sm Ir;obtain⟨ht,e⟩|⟨ht,e⟩|⟨ht,e⟩|⟨ht,e⟩|⟨ht,e⟩|⟨ht,e⟩|⟨ht,e⟩|⟨ht,e⟩|⟨ht,e⟩:=Ew t
 ·have es':shp t=⟨0,0,0,4,0⟩:=by subst ht;rfl
  have q1:t≠16:=by omega
  have q2:t≠257:=by omega
  rw[e,es'];simp only[Bb _ ((0:Nat):Int) (by omega),Bb _ (0:Int) (by omega),Bb _ ((1:Nat):Int) (by omega),Bb _ (4:Int) (by omega),Bb _ (16:Int) (by omega),AA,Ct,decide_eq_true_eq,AO];constructor
  ·rintro⟨⟨⟨⟨h1,h2⟩,h3⟩,h4⟩,_⟩;obtain rfl:=BJ h2;obtain rfl:=BJ h3;exact⟨⟨⟨⟨⟨⟨⟨by omega,rfl⟩,.inr rfl⟩,.inl (by omega)⟩,.inr (by omega)⟩,by simp⟩,.inl q1⟩,.inl q2⟩
  ·rintro⟨⟨⟨⟨⟨⟨⟨h1,h2⟩,h3⟩,_⟩,h4⟩,_⟩,_⟩,_⟩;obtain rfl:=AC h2;obtain rfl:=BJ (l:=ts) (by omega);exact⟨⟨⟨⟨by omega,rfl⟩,rfl⟩,by omega⟩,⟨by simp,by simp⟩,by simp⟩
 ·have es':shp t=⟨0,0,0,16,0⟩:=by subst ht;rfl
  have q1:t≠16:=by omega
  have q2:t≠257:=by omega
  rw[e,es'];simp only[Bb _ ((0:Nat):Int) (by omega),Bb _ (0:Int) (by omega),Bb _ ((1:Nat):Int) (by omega),Bb _ (4:Int) (by omega),Bb _ (16:Int) (by omega),AA,Ct,decide_eq_true_eq,AO];constructor
  ·rintro⟨⟨⟨⟨h1,h2⟩,h3⟩,h4⟩,_⟩;obtain rfl:=BJ h2;obtain rfl:=BJ h3;exact⟨⟨⟨⟨⟨⟨⟨by omega,rfl⟩,.inr rfl⟩,.inl (by omega)⟩,.inr (by omega)⟩,by simp⟩,.inl q1⟩,.inl q2⟩
  ·rintro⟨⟨⟨⟨⟨⟨⟨h1,h2⟩,h3⟩,_⟩,h4⟩,_⟩,_⟩,_⟩;obtain rfl:=AC h2;obtain rfl:=BJ (l:=ts) (by omega);exact⟨⟨⟨⟨by omega,rfl⟩,rfl⟩,by omega⟩,⟨by simp,by simp⟩,by simp⟩
 ·have es':shp t=⟨1,0,0,0,0⟩:=by obtain rfl|rfl|rfl:=ht <;> rfl
  have q1:t≠16:=by omega
  have q2:t≠257:=by omega
  rw[e,es'];simp only[Bb _ ((0:Nat):Int) (by omega),Bb _ (0:Int) (by omega),Bb _ ((1:Nat):Int) (by omega),Bb _ (4:Int) (by omega),Bb _ (16:Int) (by omega),AA,Ct,decide_eq_true_eq,AO];constructor
  ·rintro⟨⟨⟨⟨h1,h2⟩,h3⟩,h4⟩,_⟩;obtain rfl:=BJ h2;obtain rfl:=BJ h3;exact⟨⟨⟨⟨⟨⟨⟨by omega,rfl⟩,.inr rfl⟩,.inl (by omega)⟩,.inr (by omega)⟩,by simp⟩,.inl q1⟩,.inl q2⟩
  ·rintro⟨⟨⟨⟨⟨⟨⟨h1,h2⟩,h3⟩,_⟩,h4⟩,_⟩,_⟩,_⟩;obtain rfl:=AC h2;obtain rfl:=BJ (l:=ts) (by omega);exact⟨⟨⟨⟨by omega,rfl⟩,rfl⟩,by omega⟩,⟨by simp,by simp⟩,by simp⟩
 ·have es':shp t=⟨2,5,0,0,4⟩:=by subst ht;rfl
  have q1:t≠16:=by omega
  have q2:t≠257:=by omega
  have hd:=UC 4 (by simp);rw[e,es'];simp only[hd,Bb _ ((0:Nat):Int) (by omega),Bb _ (0:Int) (by omega),Bb _ ((1:Nat):Int) (by omega),Bb _ ((2:Nat):Int) (by omega),Bb _ ((3:Nat):Int) (by omega),Bb _ ((5:Nat):Int) (by omega),AA,Ct,decide_eq_true_eq,AO];constructor
  ·rintro⟨⟨⟨⟨h1,h2⟩,h3⟩,h4⟩,⟨h5,_⟩,_⟩;obtain rfl:=BJ h3;obtain rfl:=BJ h4;exact⟨⟨⟨⟨⟨⟨⟨by omega,by omega⟩,.inr rfl⟩,.inl (by omega)⟩,.inr rfl⟩,h5⟩,.inl q1⟩,.inl q2⟩
  ·rintro⟨⟨⟨⟨⟨⟨⟨h1,h2⟩,h3⟩,_⟩,h4⟩,h5⟩,_⟩,_⟩;obtain rfl:=BJ (l:=ts) (by omega);obtain rfl:=BJ (l:=raw) (by omega);exact⟨⟨⟨⟨by omega,by omega⟩,rfl⟩,rfl⟩,⟨h5,by simp⟩,by simp⟩
 ·have es':shp t=⟨1,1,0,0,2⟩:=by subst ht;rfl
  have q1:t≠16:=by omega
  have q2:t≠257:=by omega
  have hd:=UC 2 (by simp);rw[e,es'];simp only[hd,Bb _ ((0:Nat):Int) (by omega),Bb _ (0:Int) (by omega),Bb _ ((1:Nat):Int) (by omega),Bb _ ((2:Nat):Int) (by omega),Bb _ ((3:Nat):Int) (by omega),Bb _ ((5:Nat):Int) (by omega),AA,Ct,decide_eq_true_eq,AO];constructor
  ·rintro⟨⟨⟨⟨h1,h2⟩,h3⟩,h4⟩,⟨h5,_⟩,_⟩;obtain rfl:=BJ h3;obtain rfl:=BJ h4;exact⟨⟨⟨⟨⟨⟨⟨by omega,by omega⟩,.inr rfl⟩,.inl (by omega)⟩,.inr rfl⟩,h5⟩,.inl q1⟩,.inl q2⟩
  ·rintro⟨⟨⟨⟨⟨⟨⟨h1,h2⟩,h3⟩,_⟩,h4⟩,h5⟩,_⟩,_⟩;obtain rfl:=BJ (l:=ts) (by omega);obtain rfl:=BJ (l:=raw) (by omega);exact⟨⟨⟨⟨by omega,by omega⟩,rfl⟩,rfl⟩,⟨h5,by simp⟩,by simp⟩
 ·have es':shp t=⟨1,3,0,0,2⟩:=by subst ht;rfl
  have q1:t≠16:=by omega
  have q2:t≠257:=by omega
  have hd:=UC 2 (by simp);rw[e,es'];simp only[hd,Bb _ ((0:Nat):Int) (by omega),Bb _ (0:Int) (by omega),Bb _ ((1:Nat):Int) (by omega),Bb _ ((2:Nat):Int) (by omega),Bb _ ((3:Nat):Int) (by omega),Bb _ ((5:Nat):Int) (by omega),AA,Ct,decide_eq_true_eq,AO];constructor
  ·rintro⟨⟨⟨⟨h1,h2⟩,h3⟩,h4⟩,⟨h5,_⟩,_⟩;obtain rfl:=BJ h3;obtain rfl:=BJ h4;exact⟨⟨⟨⟨⟨⟨⟨by omega,by omega⟩,.inr rfl⟩,.inl (by omega)⟩,.inr rfl⟩,h5⟩,.inl q1⟩,.inl q2⟩
  ·rintro⟨⟨⟨⟨⟨⟨⟨h1,h2⟩,h3⟩,_⟩,h4⟩,h5⟩,_⟩,_⟩;obtain rfl:=BJ (l:=ts) (by omega);obtain rfl:=BJ (l:=raw) (by omega);exact⟨⟨⟨⟨by omega,by omega⟩,rfl⟩,rfl⟩,⟨h5,by simp⟩,by simp⟩
 ·have es':shp t=⟨0,0,-1,0,0⟩:=by subst ht;rfl
  have q2:t≠257:=by omega
  rw[e,es'];have f1:Ny ts.length (-1)=decide (0<ts.length):=by simp[Ny]
  simp only[f1,Bb _ ((0:Nat):Int) (by omega),Bb _ (0:Int) (by omega),AA,Ct,decide_eq_true_eq,AO];constructor
  ·rintro⟨⟨⟨⟨h1,h2⟩,h3⟩,h4⟩,_,h5⟩;obtain rfl:=BJ h2;obtain rfl:=BJ h4;exact⟨⟨⟨⟨⟨⟨⟨by omega,rfl⟩,.inl (by omega)⟩,.inr (by omega)⟩,.inr rfl⟩,by simp⟩,.inr (by simpa using h5)⟩,.inl q2⟩
  ·rintro⟨⟨⟨⟨⟨⟨⟨h1,h2⟩,h3⟩,h6⟩,h4⟩,h5⟩,h7⟩,_⟩;obtain rfl:=AC h2;obtain rfl:=BJ (l:=raw) (by omega);exact⟨⟨⟨⟨by omega,rfl⟩,by omega⟩,rfl⟩,⟨by simp,by simp⟩,by have:=h7.resolve_left (fun hh=>hh ht);simpa using this⟩
 ·have es':shp t=⟨0,1,2,0,1⟩:=by subst ht;rfl
  have q1:t≠16:=by omega
  have hd:=UC 1 (by simp);rw[e,es'];simp only[hd,Bb _ ((0:Nat):Int) (by omega),Bb _ (0:Int) (by omega),Bb _ ((1:Nat):Int) (by omega),Bb _ (2:Int) (by omega),AA,Ct,decide_eq_true_eq,AO];constructor
  ·rintro⟨⟨⟨⟨h1,h2⟩,h3⟩,h4⟩,⟨h5,h6⟩,h7⟩;obtain _|⟨a,_|⟨b,_|⟨c,ts⟩⟩⟩:=ts
   ·simp at h3
   ·simp at h3
   ·obtain rfl:=BJ h4;exact⟨⟨⟨⟨⟨⟨⟨by omega,by omega⟩,.inr rfl⟩,.inl (by omega)⟩,.inr rfl⟩,h5⟩,.inl q1⟩,.inr (h6 a (by simp))⟩
   ·simp at h3;omega
  ·rintro⟨⟨⟨⟨⟨⟨⟨h1,h2⟩,h3⟩,_⟩,h4⟩,h5⟩,_⟩,h8⟩;obtain _|⟨a,_|⟨b,_|⟨c,ts⟩⟩⟩:=ts
   ·simp at h3
   ·simp at h3
   ·obtain rfl:=BJ (l:=raw) (by omega);have hta:tagB a=true:=by have:=h8.resolve_left (fun hh=>hh ht);simpa using this
    have ha:a.size<=255:=by simp[tagB]at hta;omega
    refine⟨⟨⟨⟨by omega,by omega⟩,by simp⟩,rfl⟩,⟨h5,by simp[hta]⟩,by simp[ha]⟩
   ·simp at h3;omega
 ·obtain⟨h1,h2,h3,h4,h5,h6,h7,h8,h9,h10⟩:=ht;have es':shp t=⟨0,0,0,-1,0⟩:=by unfold shp;simp[h1,h2,h3,h4,h5,h6,h7,h8,h9,h10]
  rw[e,es'];have f1:Ny raw.length (-2)=true:=by simp[Ny]
  simp only[f1,Bb _ ((0:Nat):Int) (by omega),Bb _ (0:Int) (by omega),AA,Ct,decide_eq_true_eq,AO];constructor
  ·rintro⟨⟨⟨⟨i1,i2⟩,i3⟩,i4⟩,_⟩;obtain rfl:=BJ i2;obtain rfl:=BJ i3;exact⟨⟨⟨⟨⟨⟨⟨by omega,rfl⟩,.inr rfl⟩,.inl (by omega)⟩,.inl (by omega)⟩,by simp⟩,.inl h9⟩,.inl h10⟩
  ·rintro⟨⟨⟨⟨⟨⟨⟨i1,i2⟩,i3⟩,_⟩,i4⟩,_⟩,_⟩,_⟩;obtain rfl:=AC i2;obtain rfl:=BJ (l:=ts) (by omega);exact⟨⟨⟨⟨by omega,rfl⟩,rfl⟩,trivial⟩,⟨by simp,by simp⟩,by simp⟩
theorem kK(l:List ByteArray):(l.map tz).sum=(nby l).length:=by
 induction l with
 |nil=>simp[nby]
 |cons a l ih=>
  have e:nby (a::l)=(a.size:Int)::(Ai a++nby l):=by simp[nby]
  rw[e];simp[ih,Av,tz];omega
theorem tI(t:Nat)(d:Dat)(h:Ir t d=true):gU (fs t) d=(Jf t d:Nat):=by
 obtain⟨ns,us,ts,raw⟩:=d;unfold Ir at h;unfold gU Jf UD Ro;simp only[AA,Ct,decide_eq_true_eq]at h ⊢;obtain⟨⟨⟨⟨⟨⟨⟨h1,h2⟩,h3⟩,h6⟩,h4⟩,h5⟩,h7⟩,h8⟩:=h;have key:(shp t).wd=(fs t).wd/\((((fs t).tl=0/\t≠257)/\(t=16∨((shp t).nt=0)))∨((fs t).tl=1/\t=257/\(shp t).nt=2)):=by
  obtain⟨ht,e⟩|⟨ht,e⟩|⟨ht,e⟩|⟨ht,e⟩|⟨ht,e⟩|⟨ht,e⟩|⟨ht,e⟩|⟨ht,e⟩|⟨ht,e⟩:=Ew t
  rotate_left
  rotate_left
  ·obtain rfl|rfl|rfl:=ht <;> exact⟨rfl,.inl ⟨⟨rfl,by omega⟩,.inr rfl⟩⟩
  rotate_left
  rotate_left
  rotate_left
  ·subst ht;exact⟨rfl,.inl ⟨⟨rfl,by omega⟩,.inl rfl⟩⟩
  ·subst ht;exact⟨rfl,.inr ⟨rfl,rfl,rfl⟩⟩
  ·obtain⟨i1,i2,i3,i4,i5,i6,i7,i8,i9,i10⟩:=ht;have es':shp t=⟨0,0,0,-1,0⟩:=by unfold shp;simp[i1,i2,i3,i4,i5,i6,i7,i8,i9,i10]
   rw[e,es'];exact⟨rfl,.inl ⟨⟨rfl,i10⟩,.inr rfl⟩⟩
  all_goals
   subst ht;exact⟨rfl,.inl ⟨⟨rfl,by omega⟩,.inr rfl⟩⟩
 obtain⟨kw,kt⟩:=key;rw[kw,kK,Nat.mul_comm us.length];obtain⟨⟨k1,k2⟩,k3⟩|⟨k1,k2,k3⟩:=kt
 ·rw[k1];obtain k3|k3:=k3
  ·have:tsz t ts=(nby ts).length:=by unfold tsz;rw[if_pos k3]
   rw[this];omega
  ·have hz:ts=[]:=BJ (by omega);subst hz;have:tsz t []=0:=by unfold tsz;split <;> simp[nby]
   rw[this];simp[nby];omega
 ·rw[k1];obtain _|⟨a,_|⟨b,_|⟨c,ts⟩⟩⟩:=ts
  ·simp at h3;omega
  ·simp at h3;omega
  ·have:tsz t [a,b]=a.size+1+b.size:=by unfold tsz;rw[if_neg (by omega)];simp[Av]
   rw[this];have:(nby [a,b]).length=a.size+1+(b.size+1):=by simp[nby,Av];omega
   rw[this];omega
  ·simp at h3;omega
theorem PM(a:Option Addr)(len cap:Nat)(ss:List ByteArray)(w:Ab)(hr:RdT w a ss)(hl:ss.length=len)(hm:Ex ss->nsz ss<=1000000000000000)(hlen:len<=9223372036854775807)(hz:∀s∈ss,s.size<=9223372036854775807) :
  Ag Aa 19 #[.slice a len cap] w fun e w'=>e=.returned (.int .i64 (nck ss))/\w'=w:=by
 have HR:Hid (RdT w a ss/\∀s∈ss,s.size<=9223372036854775807):=⟨hr,hz⟩;have HL:Hid (ss.length=len):=hl;have HS:Hid (Ex ss->∀W,RdT W a ss->Ag Aa 46 #[.slice a len cap] W fun e w'=>e=.returned (.int .i64 (nsz ss))/\w'=W):=fun ho W hW=>RV a len cap ss W hW hl (hm ho)
 obtain⟨T,hT⟩:∃T,nsz ss=T:=⟨_,rfl⟩;have HT:Hid (nsz ss=T):=hT;rw[hT]at HS;clear hr hl hT hz hm;go_enter Tryz.func19,Tryz.ntmps19;go_wp2_with fail;go_loopw [8] (fun x wr=>∃k:Nat,k<=len/\x=.int .i64 k/\wr=w/\Hid (∀i (h:i<ss.length),i<k->chk ss[i].size=0)) (fun x _=>len - (intOf x).toNat)
 case atStart=>exact⟨0,Aw _,rfl,rfl,fun i _ h=>absurd h (by omega)⟩
 case round=>
  obtain⟨k,hk,rfl,rfl,HK⟩:=hrel;by_cases hlt:k<len
  ·have hlt':(k:Int)<(len:Int):=by omega
   have hks:k<ss.length:=by rw[HL.out];exact hlt
   obtain⟨b,o,rfl,hb,hc⟩:=HR.out.1.at k hks;have HC:Hid (∀W,Ag Aa 45 #[.string ss[k]] W fun e w'=>e=.returned (.int .i64 (chk ss[k].size))/\w'=W):=fun W=>Ud ss[k] W (HR.out.2 _ (AU hks))
   obtain hk0|hk4:=SR ss[k].size
   ·have HN:Hid (∀i (h:i<ss.length),i<k+1->chk ss[i].size=0):=by
     intro i h hi;by_cases e:i=k
     ·subst e;exact hk0
     ·exact HK.out i h (by omega)
    rw[hk0]at HC;clear hk0 HK;generalize ss[k]=s at*;go_wp2_with fail;refine(HC.out _).mono ?_;rintro e w1 ⟨rfl,rfl⟩;go_wp2;exact⟨⟨k+1,by omega,by go_num,trivial,HN⟩,by simp[intOf];omega⟩
   ·have HE:Hid (nck ss=4):=by
     show nck ss=4;unfold nck;rw[if_neg (fun h=>by have:=h _ (AU hks);rw[hk4]at this;cases this)]
    rw[hk4]at HC;clear hk4 HK;generalize ss[k]=s at*;go_wp2_with fail;refine(HC.out _).mono ?_;rintro e w1 ⟨rfl,rfl⟩;go_wp2;go_ret;exact⟨by rw[HE.out];rfl,rfl⟩
  ·have hge:(len:Int)<=(k:Int):=by omega
   have HO:Hid (Ex ss):=by
    intro s hs;obtain⟨i,hi,rfl⟩:=List.getElem_of_mem hs;exact HK.out i hi (by have:=HL.out;omega)
   by_cases hb:255<T
   focus
    have HE:Hid (nck ss=5):=by show nck ss=5;unfold nck;rw[if_pos HO.out,HT.out,if_pos hb]
    have hb':(255:Int)<(T:Int):=by omega
   rotate_left
   focus
    have HE:Hid (nck ss=0):=by show nck ss=0;unfold nck;rw[if_pos HO.out,HT.out,if_neg hb]
    have hb':¬ (255:Int)<(T:Int):=by omega
   rotate_left
   all_goals
    clear HK;go_wp2_with fail;refine(HS.out HO.out _ HR.out.1).mono ?_;rintro e w1 ⟨rfl,rfl⟩;go_wp2;go_ret;exact⟨by rw[HE.out];rfl,rfl⟩
theorem PA(l:List (List ByteArray))(k:Nat)(h:∀n∈l.take k,nck n=0):Gu l=Gu (l.drop k):=by
 induction l generalizing k with
 |nil=>simp
 |cons x l ih=>
  cases k with
  |zero=>simp
  |succ k=>
   have h0:=h x (by simp);simp only[Gu,List.drop_succ_cons];rw[if_pos h0];exact ih k (fun n hn=>h n (by simp[hn]))
structure Bd(d:Dat):Prop where
 n:d.ns.length<=1000
 nl:∀x∈d.ns,x.length<=1000000
 u:d.us.length<=1000
 t:Ro d<=1000000000000
 r:d.raw.length<=1000000000000
theorem Ua(l:List Nat)(m:Nat)(h:∀x∈l,x<=m):l.sum<=l.length*m:=by
 induction l with
 |nil=>simp
 |cons a l ih=>
  have h1:=h a (by simp);have h2:=ih (fun x hx=>h x (by simp[hx]));simp only[List.sum_cons,AP,Nat.succ_mul];omega
theorem Sy.bd{d:Dat}(h:Sy d):Bd d:=by
 have h1:=h.n;have h2:=h.u;have h3:=h.r;refine⟨by omega,fun x hx=>by have:=h.nl x hx;omega,by omega,?_,by omega⟩;have h4:=Ua (d.ts.map tz) 301 (by
  intro x hx;obtain⟨s,hs,rfl⟩:=AY.1 hx;have:=h.tl s hs;simp only[tz];omega)
 have h5:=h.t;rw[AS]at h4;have h6:d.ts.length*301<=300*301:=Nat.mul_le_mul_right _ h5;unfold Ro;omega
theorem jS(ss:List ByteArray)(h:Ex ss):nsz ss<=64*ss.length+1:=by
 have h1:(nby ss).length<=64*ss.length:=by
  induction ss with
  |nil=>simp[nby]
  |cons a l ih=>
   have e:nby (a::l)=(a.size:Int)::(Ai a++nby l):=by simp[nby]
   have h0:=h a (by simp);have h2:=ih (fun x hx=>h x (by simp[hx]));have h3:a.size<=63:=by unfold chk at h0;split at h0 <;> simp_all <;> omega
   rw[e];simp[Av];omega
 have:=Ot ss;omega
theorem Xc{l:List (List ByteArray)}(h:Gu l=0):∀n∈l,nck n=0:=by
 induction l with
 |nil=>simp
 |cons a l ih=>
  simp only[Gu]at h;by_cases ha:nck a=0
  ·rw[if_pos ha]at h;intro n hn;obtain rfl|hn:=Ax.1 hn
   ·exact ha
   ·exact ih h n hn
  ·rw[if_neg ha]at h;exact absurd h ha
theorem rG(t:Nat):(fs t).wd=0∨(fs t).wd=1∨(fs t).wd=2∨(fs t).wd=4:=by
 obtain⟨_,e⟩|⟨_,e⟩|⟨_,e⟩|⟨_,e⟩|⟨_,e⟩|⟨_,e⟩|⟨_,e⟩|⟨_,e⟩|⟨_,e⟩:=Ew t <;> rw[e] <;> simp
theorem xG(t:Nat):(fs t).tl<=1:=by
 obtain⟨_,e⟩|⟨_,e⟩|⟨_,e⟩|⟨_,e⟩|⟨_,e⟩|⟨_,e⟩|⟨_,e⟩|⟨_,e⟩|⟨_,e⟩:=Ew t <;> rw[e] <;> simp
theorem Zl(t:Nat)(d:Dat)(h:Qc (fs t) d=true):(fs t).tg<=d.ts.length/\(fs t).tl<=d.ts.length:=by
 unfold Qc at h;simp only[AA]at h;obtain⟨⟨⟨_,_⟩,h⟩,_⟩:=h;obtain⟨_,e⟩|⟨_,e⟩|⟨_,e⟩|⟨_,e⟩|⟨_,e⟩|⟨_,e⟩|⟨_,e⟩|⟨_,e⟩|⟨_,e⟩:=Ew t <;> rw[e]at h ⊢ <;> simp;simp only at h;rw[Bb _ _ (by omega)]at h;simp at h;omega
def TO(w W:Ab)(b g:Nat)(f:Fs)(x:DA)(d:Dat):Prop:=Eh W b x/\Em W g f/\DRd W x d/\Blw w W
theorem TO.go{w W W':Ab}{b g:Nat}{f:Fs}{x:DA}{d:Dat}(h:TO w W b g f x d)(hb:Blw W W'):TO w W' b g f x d:=
 ⟨h.1.below hb,h.2.1.below hb,h.2.2.1.below hb,h.2.2.2.trans (hb.mono h.2.2.2.size)⟩
theorem TO.new{w W:Ab}{b:Nat}(f:Fs){x:DA}{d:Dat}(h1:Eh W b x)(h2:DRd W x d)(h3:Blw w W):TO w (W.alloc (.cells #[.int .i64 f.nn,.int .i64 f.nf,.int .i64 f.nu,.int .i64 f.wd,.int .i64 f.nt,.int .i64 f.tg,.int .i64 f.tl,.int .i64 f.nr] 146)) b W.heap.size f x d:=by
 have hb:Blw W (W.alloc (.cells #[.int .i64 f.nn,.int .i64 f.nf,.int .i64 f.nu,.int .i64 f.wd,.int .i64 f.nt,.int .i64 f.tg,.int .i64 f.tl,.int .i64 f.nr] 146)):=(Ae _ _).alloc (Ad _) _;exact⟨h1.below hb,Em.new W f,h2.below hb,h3.trans (hb.mono h3.size)⟩
theorem MG(t:Nat)(x:DA)(d:Dat)(w:Ab)(h:DRd w x d)(hB:Bd d) :
  Ag Aa 63 #[.int .u16 t,.agg #[.slice x.p1.a x.p1.n x.p1.c,.slice x.p2.a x.p2.n x.p2.c,.slice x.p3.a x.p3.n x.p3.c,.slice x.p4.a x.p4.n x.p4.c]] w fun e w'=>e=.returned (.int .i64 (Bw t d))/\Hid (Below w.heap.size w w'):=by
 have hb0:Below w.heap.size w (w.alloc (cDx x)):=(Ae _ _).alloc (Ad _) _;have H:Hid (Eh (w.alloc (cDx x)) w.heap.size x/\DRd (w.alloc (cDx x)) x d/\Below w.heap.size w (w.alloc (cDx x))):=⟨Eh.new w x,h.below hb0,hb0⟩;have KC:Hid (∀W,DRd W x d->Ag Aa 101 #[.agg #[.int .i64 (fs t).nn,.int .i64 (fs t).nf,.int .i64 (fs t).nu,.int .i64 (fs t).wd,.int .i64 (fs t).nt,.int .i64 (fs t).tg,.int .i64 (fs t).tl,.int .i64 (fs t).nr],.agg #[.slice x.p1.a x.p1.n x.p1.c,.slice x.p2.a x.p2.n x.p2.c,.slice x.p3.a x.p3.n x.p3.c,.slice x.p4.a x.p4.n x.p4.c]] W fun e w'=>e=.returned (.bool (Qc (fs t) d))/\Hid (Below W.heap.size W w')):=fun W hd=>VW (fs t) x d W hd
 have KW:Hid (Qc (fs t) d=true->∀W,DRd W x d->Ag Aa 102 #[.agg #[.int .i64 (fs t).nn,.int .i64 (fs t).nf,.int .i64 (fs t).nu,.int .i64 (fs t).wd,.int .i64 (fs t).nt,.int .i64 (fs t).tg,.int .i64 (fs t).tl,.int .i64 (fs t).nr],.agg #[.slice x.p1.a x.p1.n x.p1.c,.slice x.p2.a x.p2.n x.p2.c,.slice x.p3.a x.p3.n x.p3.c,.slice x.p4.a x.p4.n x.p4.c]] W fun e w'=>e=.returned (.bool (Sm (fs t) d))/\Hid (Below W.heap.size W w')):=fun hc W hd=>WL (fs t) x d W hd (rG t) (Zl t d hc).1 (Zl t d hc).2
 have KZ:Hid (Qc (fs t) d=true->Sm (fs t) d=true->Gu d.ns=0->∀W,DRd W x d->Ag Aa 103 #[.agg #[.int .i64 (fs t).nn,.int .i64 (fs t).nf,.int .i64 (fs t).nu,.int .i64 (fs t).wd,.int .i64 (fs t).nt,.int .i64 (fs t).tg,.int .i64 (fs t).tl,.int .i64 (fs t).nr],.agg #[.slice x.p1.a x.p1.n x.p1.c,.slice x.p2.a x.p2.n x.p2.c,.slice x.p3.a x.p3.n x.p3.c,.slice x.p4.a x.p4.n x.p4.c]] W fun e w'=>e=.returned (.int .i64 (Jf t d:Nat))/\Hid (Below W.heap.size W w')):=by
  intro h1 h2 h3 W hd;have h4:Ir t d=true:=by rw[<- XC,h1,h2];rfl
  rw[<- tI t d h4];refine XU (fs t) x d W hd (xG t) ?_;have h5:UD d<=1000*255:=by
   have:=Ua (d.ns.map nsz) 255 (by
    intro y hy;obtain⟨n,hn,rfl⟩:=AY.1 hy;exact(BI (Xc h3 n hn)).1)
   rw[AS]at this;have h6:d.ns.length*255<=1000*255:=Nat.mul_le_mul_right _ hB.n;unfold UD;omega
  have h7:(fs t).wd*d.us.length<=4*1000:=Nat.mul_le_mul (by have:=rG t;omega) hB.u;have h8:=hB.t;have h9:=hB.r;omega
 have KO:Hid (∀W,Ag Aa 100 #[.int .u16 t] W fun e w'=>e=.returned (.agg #[.int .i64 (fs t).nn,.int .i64 (fs t).nf,.int .i64 (fs t).nu,.int .i64 (fs t).wd,.int .i64 (fs t).nt,.int .i64 (fs t).tg,.int .i64 (fs t).tl,.int .i64 (fs t).nr])/\Hid (Below W.heap.size W w')):=fun W=>Oa t W
 have hc1:x.p1.n<=9223372036854775807:=Aj h.h1.cap.1 h.h1.cap.2;have HL:Hid (d.ns.length=x.p1.n):=h.h1.len;have HNB:Hid (∀n∈d.ns,Ex n->nsz n<=1000000000000000):=by
  intro n hn hl;have h1:=jS n hl;have h2:=hB.nl n hn;omega
 have HQ:Hid (Bw t d=if Gz t then(if (Qc (fs t) d && Sm (fs t) d) then(if Gu d.ns=0 then(if 65535<Jf t d then 3 else 0) else Gu d.ns) else 7) else 6):=by
  show _=_;rw[XC]
  rfl
 obtain⟨C,hC⟩:∃C,Bw t d=C:=⟨_,rfl⟩;rw[hC]at HQ ⊢;have KH:Hid (∀W,Ag Aa 99 #[.int .u16 t] W fun e w'=>e=.returned (.bool (Gz t))/\w'=W):=fun W=>LQ t W
 clear hC h hb0 hB;generalize hmay:Gz t=mt at*;generalize hcnt:Qc (fs t) d=ct at*;generalize hwth:Sm (fs t) d=wt at*;generalize (fs t)=f at*;generalize hsz:Jf t d=sz at*;clear hmay hcnt hwth hsz;obtain⟨nn,nf,nu,wd,nt,tg,tl,nr⟩:=f;obtain⟨⟨a1,n1,k1⟩,⟨a2,n2,k2⟩,⟨a3,n3,k3⟩,⟨a4,n4,k4⟩⟩:=x;simp only at H KC KW KZ KO hc1 HL ⊢;go_enter Tryz.func63,Tryz.ntmps63;go_wp2_with fail;generalize (w.alloc (.cells #[.slice a1 n1 k1,.slice a2 n2 k2,.slice a3 n3 k3,.slice a4 n4 k4] 41))=W1 at*;obtain⟨b,hb⟩:∃b,b=w.heap.size:=⟨_,rfl⟩;rw[<- hb]at H ⊢;have Hb:Hid (b=w.heap.size):=hb;clear hb;refine(KH.out W1).mono ?_;rintro e W1 ⟨rfl,rfl⟩;clear KH;cases mt with
 |false=>
  have HE:Hid (C=6):=by show C=6;have:=HQ.out;simpa using this
  clear HQ KC KW KZ KO;go_wp2_with fail;go_ret;exact⟨by rw[HE.out];rfl,by have:=H.out.2.2;rw[Hb.out]at this;exact this⟩
 |true=>
 go_wp2_with fail;refine(KO.out W1).mono ?_;rintro e W2 ⟨rfl,H2⟩;have H3:Hid (TO w (W2.alloc (.cells #[.int .i64 nn,.int .i64 nf,.int .i64 nu,.int .i64 wd,.int .i64 nt,.int .i64 tg,.int .i64 tl,.int .i64 nr] 146)) b W2.heap.size ⟨nn,nf,nu,wd,nt,tg,tl,nr⟩ ⟨⟨a1,n1,k1⟩,⟨a2,n2,k2⟩,⟨a3,n3,k3⟩,⟨a4,n4,k4⟩⟩ d):=TO.new ⟨nn,nf,nu,wd,nt,tg,tl,nr⟩ (H.out.1.below H2.out) (H.out.2.1.below H2.out) (by have:=H.out.2.2;rw[Hb.out]at this;exact this.trans (H2.out.mono this.size));clear H H2 KO
 go_upto_region 4 with fail
 generalize (W2.alloc (.cells #[.int .i64 nn,.int .i64 nf,.int .i64 nu,.int .i64 wd,.int .i64 nt,.int .i64 tg,.int .i64 tl,.int .i64 nr] 146))=W3 at*;generalize W2.heap.size=g at*;obtain⟨s0,s1,s2,s3,s4,s5,s6,s7,_⟩:=H3.out.2.1;have c0:=H3.out.1.1;have c1:=H3.out.1.2.1;have c2:=H3.out.1.2.2.1;have c3:=H3.out.1.2.2.2.1;simp only at s0 s1 s2 s3 s4 s5 s6 s7 c0 c1 c2 c3;go_wp2_with fail;refine(KC.out W3 H3.out.2.2.1).mono ?_;rintro e W4 ⟨rfl,H4⟩;have H5:Hid (TO w W4 b g ⟨nn,nf,nu,wd,nt,tg,tl,nr⟩ ⟨⟨a1,n1,k1⟩,⟨a2,n2,k2⟩,⟨a3,n3,k3⟩,⟨a4,n4,k4⟩⟩ d):=H3.out.go H4.out;clear H3 H4 KC s0 s1 s2 s3 s4 s5 s6 s7 c0 c1 c2 c3;cases ct with
 |false=>
  have HE:Hid (C=7):=by show C=7;have:=HQ.out;simpa using this
  clear HQ KZ KW;go_wp2_with fail;go_ret;exact⟨by rw[HE.out];rfl,H5.out.2.2.2⟩
 |true=>
 obtain⟨s0,s1,s2,s3,s4,s5,s6,s7,_⟩:=H5.out.2.1;have c0:=H5.out.1.1;have c1:=H5.out.1.2.1;have c2:=H5.out.1.2.2.1;have c3:=H5.out.1.2.2.2.1;simp only at s0 s1 s2 s3 s4 s5 s6 s7 c0 c1 c2 c3;go_wp2_with fail;refine(KW.out (by trivial) W4 H5.out.2.2.1).mono ?_;rintro e W5 ⟨rfl,H4⟩;have H6:Hid (TO w W5 b g ⟨nn,nf,nu,wd,nt,tg,tl,nr⟩ ⟨⟨a1,n1,k1⟩,⟨a2,n2,k2⟩,⟨a3,n3,k3⟩,⟨a4,n4,k4⟩⟩ d):=H5.out.go H4.out;clear H5 H4 KW s0 s1 s2 s3 s4 s5 s6 s7 c0 c1 c2 c3;cases wt with
 |false=>
  have HE:Hid (C=7):=by show C=7;have:=HQ.out;simpa using this
  clear HQ KZ;go_wp2_with fail;go_ret;exact⟨by rw[HE.out];rfl,H6.out.2.2.2⟩
 |true=>
 have HQ2:Hid (C=if Gu d.ns=0 then(if 65535<sz then 3 else 0) else Gu d.ns):=by show C=_;have:=HQ.out;simpa using this
 clear HQ;have c0:=H6.out.1.1;simp only at c0;go_wp2_with fail;go_loopw [27] (fun i wr=>wr=W5/\∃k:Nat,k<=n1/\i=.int .i64 (k:Int)/\Hid (∀n∈d.ns.take k,nck n=0)) (fun i _=>n1 - (intOf i).toNat)
 case atStart=>exact⟨rfl,0,Aw _,rfl,by intro n hn;simp at hn⟩
 case round=>
  obtain⟨hwr,k,hk,rfl,HA⟩:=hrel;subst hwr;by_cases hlt:k<n1
  ·have hlt':(k:Int)<(n1:Int):=by omega
   have hki:k<d.ns.length:=by rw[HL.out];exact hlt
   obtain⟨B1,o1,ha1,hl1,z1,hz1,hr1⟩:=H6.out.2.2.1.h1.at k hki;simp only at ha1;subst ha1;have HD:Hid (Gu d.ns=if nck d.ns[k]=0 then Gu (d.ns.drop (k+1)) else nck d.ns[k]):=by
    show _=_;rw[PA d.ns k HA.out,El hki]
    rfl
   have HA2:Hid (nck d.ns[k]=0->∀n∈d.ns.take (k+1),nck n=0):=by
    intro h0 n hn;rw[AH hki]at hn;simp only[AG,Bc]at hn;obtain hn|rfl:=hn
    ·exact HA.out n hn
    ·exact h0
   have KC:Hid (∀W,W=wr->Ag Aa 19 #[.slice z1.a z1.n z1.c] W fun e w'=>e=.returned (.int .i64 (nck d.ns[k]))/\w'=W):=by
    intro W e;subst e;exact PM z1.a z1.n z1.c d.ns[k] W hr1.rd hr1.len (HNB.out _ (AU _)) (Aj hr1.cap.1 hr1.cap.2) hr1.z63
   clear hr1 HA;generalize nck d.ns[k]=q at*;generalize z1.a=za at*;generalize z1.n=zn at*;generalize z1.c=zc at*;by_cases hq:q=0
   ·have hq':(q != 0)=false:=by simp[hq]
    have HA3:=HA2.out hq;have HA4:Hid (∀n∈d.ns.take (k+1),nck n=0):=HA3;clear HA3 HA2 HD hq;go_wp2_with fail;refine(KC.out _ rfl).mono ?_;rintro e Wx ⟨rfl,rfl⟩;go_wp2_with fail;refine⟨⟨by first|rfl|trivial,k+1,by omega,by go_num,HA4⟩,?_⟩;simp[intOf];omega
   ·have hq':(q != 0)=true:=by simp[hq]
    have HE:Hid (C=q):=by
     have h1:=HQ2.out;have h2:=HD.out;rw[if_neg hq]at h2;rw[h2,if_neg hq]at h1;exact h1
    clear HA2 HD hq HQ2;go_wp2_with fail;refine(KC.out _ rfl).mono ?_;rintro e Wx ⟨rfl,rfl⟩;go_wp2_with fail;go_ret;exact⟨by rw[HE.out];rfl,H6.out.2.2.2⟩
  ·have hge:¬ (k:Int)<(n1:Int):=by omega
   have HN:Hid (Gu d.ns=0):=by
    have h1:=HA.out;rw[Al (by rw[HL.out];show n1<=k;omega)]at h1;have:=PA d.ns d.ns.length (by rw[Al (Ad _)];exact h1);rw[List.drop_length]at this;exact this
   have HE:Hid (C=if 65535<sz then 3 else 0):=by
    have h1:=HQ2.out;rw[if_pos HN.out]at h1;exact h1
   have KZ2:Hid (∀W,DRd W ⟨⟨a1,n1,k1⟩,⟨a2,n2,k2⟩,⟨a3,n3,k3⟩,⟨a4,n4,k4⟩⟩ d->Ag Aa 103 #[.agg #[.int .i64 nn,.int .i64 nf,.int .i64 nu,.int .i64 wd,.int .i64 nt,.int .i64 tg,.int .i64 tl,.int .i64 nr],.agg #[.slice a1 n1 k1,.slice a2 n2 k2,.slice a3 n3 k3,.slice a4 n4 k4]] W fun e w'=>e=.returned (.int .i64 (sz:Nat))/\Hid (Below W.heap.size W w')):=KZ.out (by trivial) (by trivial) HN.out;clear HA HN KZ HQ2;obtain⟨s0,s1,s2,s3,s4,s5,s6,s7,_⟩:=H6.out.2.1;have c1:=H6.out.1.2.1;have c2:=H6.out.1.2.2.1;have c3:=H6.out.1.2.2.2.1;simp only at s0 s1 s2 s3 s4 s5 s6 s7 c1 c2 c3;go_wp2_with fail;refine(KZ2.out _ H6.out.2.2.1).mono ?_;rintro e W7 ⟨rfl,H7⟩;have HB:Hid (Below w.heap.size w W7):=H6.out.2.2.2.trans (H7.out.mono H6.out.2.2.2.size);clear H7 H6 s0 s1 s2 s3 s4 s5 s6 s7 c0 c1 c2 c3 KZ2;by_cases hs:65535<sz
   ·have hs':(65535:Int)<(sz:Int):=by omega
    have HE2:Hid (C=3):=by have:=HE.out;rw[if_pos hs]at this;exact this
    clear HE;go_wp2_with fail;go_ret;exact⟨by rw[HE2.out];rfl,HB.out⟩
   ·have hs':¬ (65535:Int)<(sz:Int):=by omega
    have HE2:Hid (C=0):=by have:=HE.out;rw[if_neg hs]at this;exact this
    clear HE;go_wp2_with fail;go_ret;exact⟨by rw[HE2.out];rfl,HB.out⟩
theorem Vw{B B':Nat}{w:Ab}{v:Ao}{n:Nat}{zs:List Int}(h:Own B w v n zs)(hB:B'<=B):Own B' w v n zs:=by
 obtain h|⟨g,h1,h2,h3⟩:=h
 ·exact .inl h
 ·exact .inr ⟨g,h1,Aj hB h2,h3⟩
theorem qH{w:Ab}{zs:List Int}(h:Rd w none zs):zs=[]:=by
 obtain h1|⟨b,o,e,_⟩:=h.1
 ·exact h1
 ·cases e
theorem Gq(a:Addr)(w:Ab):(binOp .neq 295 (.pointer (some a)) (.pointer (some a))).run Aa w=.ok (.bool false) w:=by
 obtain⟨j,hi⟩:∃j,Aa.info? 307=some j:=Lt.1 (by kernel_rfl);have h:∀d:Nat,(Op.equalIn (d+1) 295 (.pointer (some a)) (.pointer (some a))).run Aa w=.ok true w:=fun d=>by
  simp[Op.equalIn,Cb Tryz.underlying295,sizeOf,typeInfo,hi,run_sameAddr_same]
 simp only[binOp];simp[Op.equal,Op.maxDepth,h 9999]
theorem Nh(a b c d:Ao)(w:Ab):(Instr.field 312 (.agg #[a,b,c,d]) 0).run Aa w=.ok a w:=by kernel_rfl
theorem Nf(a b c d:Ao)(w:Ab):(Instr.field 312 (.agg #[a,b,c,d]) 1).run Aa w=.ok b w:=by kernel_rfl
theorem Na(a b c d:Ao)(w:Ab):(Instr.field 312 (.agg #[a,b,c,d]) 2).run Aa w=.ok c w:=by kernel_rfl
theorem MZ(a b c d:Ao)(w:Ab):(Instr.field 312 (.agg #[a,b,c,d]) 3).run Aa w=.ok d w:=by kernel_rfl
theorem FA(a:Option Addr)(n c:Nat)(w:Ab):(binOp .eql 39 (.slice a n c) (.slice none 0 0)).run Aa w=.ok (.bool a.isNone) w:=Nk w _ _ _ _ _ _ _ AI
attribute [local go_sem] Nh Nf Na MZ FA
theorem ND(a:Option Addr)(len cap:Nat)(zs:List Int)(w:Ab)(hr:Rd w a zs)(hl:zs.length=len)(hm:len<=4) :
  Ag Aa 290 #[.slice a len cap] w fun e w'=>e=.returned (.int .u32 (val zs))/\w'=w:=by
 have HL:Hid (zs.length=len):=hl;have HR:Hid (Rd w a zs):=hr;clear hl hr;go_enter Tryz.func290,Tryz.ntmps290;go_wp2
 go_loop [3,8] (fun n i=>∃k:Nat,k<=len/\i=.int .i64 k/\n=.int .u32 (val (zs.take k))) (fun _ i=>len - (intOf i).toNat)
 case atStart=>exact⟨0,Aw _,rfl,rfl⟩
 case round=>
  obtain⟨k,hk,rfl,rfl⟩:=hrel;by_cases hlt:k<len
  ·obtain h1|⟨b,o,rfl,h1,h2⟩:=HR.out.1
   ·have:=HL.out;subst h1;simp at this;omega
   ·have hc:=h2 k (by rw[HL.out];exact hlt);have hb:=HR.out.bd k;have hv:=dL zs HR.out.2 k (by omega);clear h2;have hlt':(k:Int)<(len:Int):=by omega
    go_wp2;go_round
    case rel=>
     refine⟨k+1,by omega,by go_num,?_⟩;rw[Kf zs k (by rw[HL.out];exact hlt),gH,<- Am,kN _ _ hv.1 hv.2 hb.1 hb.2]
    case measure=>simp[intOf];omega
  ·obtain rfl:k=len:=by omega
   go_wp2;go_ret;have:zs.take k=zs:=Al (by rw[HL.out];exact Ad _);rw[this];exact⟨rfl,rfl⟩
attribute [local go_sem] Nh Nf Na MZ FA
end Go.Proofs.YtoppdmlmhigogaaGreatDoor
namespace Go.Proofs.YtoppdmlmhigogaaGreatDoor
open Go.ChangeShapes Go.WideShapes Go.ChangeAt Go.RowKit
attribute [local go_sem] Nh Nf Na MZ FA
def DG(w:Ab)(g:Nat)(t:Ao)(k:Int)(bad:Bool):Prop:=
 w.heap[g]?=some (.cells #[.pointer (some ⟨g,0,none⟩),t,.int .i64 k,.bool bad] 307 (0,0))
theorem DG.lt{w:Ab}{g:Nat}{t:Ao}{k:Int}{bad:Bool}(h:DG w g t k bad):g<w.heap.size:=(As.1 h).1
theorem DG.c0{w:Ab}{g:Nat}{t:Ao}{k:Int}{bad:Bool}(h:DG w g t k bad):w.cell? ⟨g,0,none⟩=some (.pointer (some ⟨g,0,none⟩)):=by
 have h':w.heap[g]?=_:=h;simp[Az,h']
theorem DG.c1{w:Ab}{g:Nat}{t:Ao}{k:Int}{bad:Bool}(h:DG w g t k bad):w.cell? ⟨g,1,none⟩=some t:=by
 have h':w.heap[g]?=_:=h;simp[Az,h']
theorem DG.c2{w:Ab}{g:Nat}{t:Ao}{k:Int}{bad:Bool}(h:DG w g t k bad):w.cell? ⟨g,2,none⟩=some (.int .i64 k):=by
 have h':w.heap[g]?=_:=h;simp[Az,h']
theorem DG.c3{w:Ab}{g:Nat}{t:Ao}{k:Int}{bad:Bool}(h:DG w g t k bad):w.cell? ⟨g,3,none⟩=some (.bool bad):=by
 have h':w.heap[g]?=_:=h;simp[Az,h']
theorem DG.fz{w:Ab}{g:Nat}{t:Ao}{k:Int}{bad:Bool}(h:DG w g t k bad)(i:Nat):w.frozen? ⟨g,i,none⟩=false:=by
 have h':w.heap[g]?=_:=h;simp[Dv,h']
theorem DG.same{w w':Ab}{g:Nat}{t:Ao}{k:Int}{bad:Bool}(h:DG w g t k bad)(hb:w'.heap[g]?=w.heap[g]?):DG w' g t k bad:=hb.trans h
theorem DG.at{w:Ab}{g:Nat}{t:Ao}{k:Int}{bad:Bool}(h:DG w g t k bad)(k':Int):DG (w.setCell ⟨g,2,none⟩ (.int .i64 k')) g t k' bad:=AD h 2 _
theorem UY(a:Option Addr)(len cap at_ n:Nat)(zs:List Int)(w:Ab)(hr:Rd w a zs)(hl:zs.length=len)(hc:len<=cap)(hm:len<=140737488355328)(hn:at_+n<=len) :
  Ag Aa 291 #[.slice a len cap,.int .i64 at_,.int .i64 n] w fun e w'=>(∃a',e=.returned (.tuple #[.slice a' n (cap - at_),.bool true])/\Hid ((∀W,Rd W a zs->Rd W a' ((zs.drop at_).take n))/\(a'=none->a=none)))/\w'=w:=by
 have HL:Hid (zs.length=len):=hl;have HR:Hid (Rd w a zs):=hr;clear hl hr;have h1:¬ (at_:Int)<0:=by omega
 have h2:(at_:Int)<=(len:Int):=by omega
 have h3:¬ (n:Int)<0:=by omega
 have h4:(n:Int)<=(len:Int) - (at_:Int):=by omega
 go_enter Tryz.func291,Tryz.ntmps291;go_wp2
 ·go_ret2;exact⟨⟨_,rfl,fun W hW=>hW.cut at_ n (by rw[HL.out];exact hn) (fun h b o e=>absurd h (by omega)),fun e=>e⟩,rfl⟩
 ·go_ret2;exact⟨⟨_,rfl,fun W hW=>hW.cut at_ n (by rw[HL.out];exact hn) (fun h b o e=>by subst e;simp[Kk]),fun e=>Option.map_eq_none_iff.1 e⟩,rfl⟩
theorem Tt(a:Option Addr)(len cap:Nat)(at_ n:Int)(w:Ab)(hm:len<=140737488355328)
  (h:at_<0∨(0<=at_/\(len:Int)<at_)∨(0<=at_/\at_<=(len:Int)/\n<0)∨(0<=at_/\at_<=(len:Int)/\0<=n/\(len:Int) - at_<n)) :
  Ag Aa 291 #[.slice a len cap,.int .i64 at_,.int .i64 n] w fun e w'=>e=.returned (.tuple #[.slice none 0 0,.bool false])/\w'=w:=by
 obtain h|⟨h0,h⟩|⟨h0,h1,h⟩|⟨h0,h1,h2,h⟩:=h
 rotate_left
 rotate_left
 rotate_left
 rotate_left
 all_goals
  go_enter Tryz.func291,Tryz.ntmps291;go_wp2;go_ret2;exact⟨rfl,rfl⟩
def Off(a:Option Addr)(g:Nat):Prop:=∀b o,a=some ⟨b,o,none⟩->b≠g
theorem Rd.grown{w w':Ab}{a:Option Addr}{zs:List Int}{g:Nat}(h:Rd w a zs)(hg:w.grownBy w' (some g))(ho:Off a g):Rd w' a zs:=by
 refine⟨?_,h.2⟩;obtain h1|⟨b,o,rfl,h1,h2⟩:=h.1
 ·exact .inl h1
 ·refine .inr ⟨b,o,rfl,Ap h1 hg.size,fun i hi=>?_⟩;rw[<- h2 i hi];exact AE (w:=w) (a:=⟨b,o+i,none⟩) (hg.block b h1 (fun e=>ho b o rfl (Bf e)))
theorem sD(g:Nat)(t:Ao)(k k':Int)(w:Ab)(hb:DG w g t k false)(cs:Array Ao) :
  DG ((w.setCell ⟨g,2,none⟩ (.int .i64 k')).alloc (.cells cs 312)) g t k' false/\((w.setCell ⟨g,2,none⟩ (.int .i64 k')).alloc (.cells cs 312)).heap[w.heap.size]?=some (.cells cs 312 (0,0))/\
  w.grownBy ((w.setCell ⟨g,2,none⟩ (.int .i64 k')).alloc (.cells cs 312)) (some g)/\((w.setCell ⟨g,2,none⟩ (.int .i64 k')).alloc (.cells cs 312)).heap.size=w.heap.size+1:=by
 have hsz:(w.setCell ⟨g,2,none⟩ (.int .i64 k')).heap.size=w.heap.size:=by simp[Dq]
 have hold:∀j,j<w.heap.size->((w.setCell ⟨g,2,none⟩ (.int .i64 k')).alloc (.cells cs 312)).heap[j]?=(w.setCell ⟨g,2,none⟩ (.int .i64 k')).heap[j]?:=fun j hj=>EP _ _ j (by rw[hsz];exact hj)
 refine⟨(hb.at k').same (hold g hb.lt),?_,⟨rfl,rfl,rfl,by simp[hsz],fun j hj hne=>?_⟩,by simp[hsz]⟩
 ·have:=Au (w.setCell ⟨g,2,none⟩ (.int .i64 k')) (.cells cs 312);rw[hsz]at this;exact this
 ·rw[hold j hj];exact Ar _ _ _ j (fun e=>hne (by rw[e]))
theorem jW{w:Ab}{s:Nat}{a b c d:Ao}{t:BH}(h:w.heap[s]?=some (.cells #[a,b,c,d] t (0,0))) :
  w.cell? ⟨s,0,none⟩=some a/\w.cell? ⟨s,1,none⟩=some b/\w.cell? ⟨s,2,none⟩=some c/\w.cell? ⟨s,3,none⟩=some d/\∀i,w.frozen? ⟨s,i,none⟩=false:=by
 simp[Az,Dv,h]
abbrev WG3(w:Ab)(b:Nat)(v0 v1 v2:Ao):Ab:=((w.setCell ⟨b,0,none⟩ v0).setCell ⟨b,1,none⟩ v1).setCell ⟨b,2,none⟩ v2
theorem SA{w W1:Ab}{g s:Nat}{t:Ao}{k':Int}{bad:Bool}(h:DG W1 g t k' bad/\w.grownBy W1 (some g))(hs:w.heap.size=s)(hg:g<s)(x0 x1 x2 x3:Ao) :
  DG ((WG3 W1 s x0 x1 x2).setCell ⟨s,3,none⟩ x3) g t k' bad/\
  w.grownBy ((WG3 W1 s x0 x1 x2).setCell ⟨s,3,none⟩ x3) (some g):=by
 have hold:∀j,j<s->((WG3 W1 s x0 x1 x2).setCell ⟨s,3,none⟩ x3).heap[j]?=W1.heap[j]?:=by
  intro j hj;have hne:j≠s:=by omega
  rw[Ar _ _ _ j hne,Ar _ _ _ j hne,Ar _ _ _ j hne,Ar _ _ _ j hne]
 refine⟨h.1.same (hold g hg),h.2.os,h.2.tape,h.2.output,?_,fun j hj hne=>(hold j (by omega)).trans (h.2.block j hj hne)⟩;have:=h.2.size;simpa[Dq] using this
theorem dQ(g:Nat)(a:Option Addr)(len cap k n:Nat)(zs:List Int)(w:Ab)(hb:DG w g (.slice a len cap) k false)(hr:Rd w a zs)(hl:zs.length=len)(hc:len<=cap)(hm:len<=140737488355328)(hn:k+n<=len)(ho:Off a g) :
  Ag Aa 280 #[.pointer (some ⟨g,0,none⟩),.int .u8 0,.int .i64 n] w fun e w'=>∃ov,e=.returned (.agg #[.slice ov n (cap - k),.int .i64 ((k:Int)+(n:Int)),.int .i64 ((len:Int) - ((k:Int)+(n:Int))),.bool false])/\
   Hid (Rd w' ov ((zs.drop k).take n)/\(ov=none->a=none)/\DG w' g (.slice a len cap) ((k:Int)+(n:Int)) false/\w.grownBy w' (some g)):=by
 have HB:Hid (DG w g (.slice a len cap) k false):=hb;have HR:Hid (Rd w a zs):=hr;have HL:Hid (zs.length=len):=hl;have HO:Hid (Off a g):=ho;have hg:=hb.lt;have c0:=hb.c0;have c1:=hb.c1;have c2:=hb.c2;have c3:=hb.c3;have f2:=hb.fz 2;have hne:=Gq ⟨g,0,none⟩;clear hb hr hl ho;go_enter Mt,Lp;go_wp2_with fail;refine(UY a len cap k n zs _ (HR.out.below ((Ae _ _).alloc (Ad _) _)) HL.out hc hm hn).mono ?_;rintro e w' ⟨⟨ov,rfl,H1⟩,rfl⟩;go_wp2_with fail;have hkn:(k:Int)+(n:Int)<=(len:Int):=by omega
 have hw:CV.wrap ((len:Int) - ((k:Int)+(n:Int)))=(len:Int) - ((k:Int)+(n:Int)):=by rw[BZ];omega
 have hgw:¬ w.heap.size=g:=by omega
 obtain⟨m1,m2,m3,m4⟩:=sD g (.slice a len cap) k ((k:Int)+(n:Int)) w HB.out #[.slice none 0 0,.int .i64 0,.int .i64 0,.bool false];obtain⟨v0,v1,v2,v3,v4⟩:=jW m2;have d1:=m1.c1;have d2:=m1.c2;have HM:Hid (DG ((w.setCell ⟨g,2,none⟩ (.int .i64 ((k:Int)+(n:Int)))).alloc (.cells #[.slice none 0 0,.int .i64 0,.int .i64 0,.bool false] 312)) g (.slice a len cap) ((k:Int)+(n:Int)) false/\w.grownBy ((w.setCell ⟨g,2,none⟩ (.int .i64 ((k:Int)+(n:Int)))).alloc (.cells #[.slice none 0 0,.int .i64 0,.int .i64 0,.bool false] 312)) (some g)):=⟨m1,m3⟩;clear m1 m2 m3 c0 c1 c2 c3 f2 hne;generalize (w.setCell ⟨g,2,none⟩ (.int .i64 ((k:Int)+(n:Int)))).alloc (.cells #[.slice none 0 0,.int .i64 0,.int .i64 0,.bool false] 312)=W1 at*;generalize hs:w.heap.size=s at*;have HS:Hid (w.heap.size=s):=hs;clear hs;have v4a:=v4 0;have v4b:=v4 1;have v4c:=v4 2;have v4d:=v4 3;clear v4
 go_region_held3 (fun W=>W.cell? ⟨g,1,none⟩=some (.slice a len cap)/\W.cell? ⟨g,2,none⟩=some (.int .i64 ((k:Int)+(n:Int)))) (go_keep) (fail)
 go_wp2;obtain⟨h1,h2⟩:=H1.out;have hM:=SA HM.out HS.out (by omega) (.slice ov n (cap - k)) (.int .i64 ((k:Int)+(n:Int))) (.int .i64 ((len:Int) - ((k:Int)+(n:Int)))) (.bool false);have hR:=h1 _ (HR.out.grown hM.2 HO.out);clear h1;refine An (v:=.agg #[.slice ov n (cap - k),.int .i64 ((k:Int)+(n:Int)),.int .i64 ((len:Int) - ((k:Int)+(n:Int))),.bool false]) ?_ rfl ⟨ov,rfl,hR,h2,hM.1,hM.2.os,hM.2.tape,hM.2.output,hM.2.size,hM.2.block⟩;clear hM hR HM H1 HR HO;simp[AJ,Jl,go_sem, *]
theorem jB(g:Nat)(t:Ao)(k:Int)(w:Ab)(hb:DG w g t k false)(cs:Array Ao) :
  DG (((WG3 w g (.pointer (some ⟨g,0,none⟩)) (.slice none 0 0) (.int .i64 0)).setCell ⟨g,3,none⟩ (.bool true)).alloc (.cells cs 312)) g (.slice none 0 0) 0 true/\
  w.grownBy (((WG3 w g (.pointer (some ⟨g,0,none⟩)) (.slice none 0 0) (.int .i64 0)).setCell ⟨g,3,none⟩ (.bool true)).alloc (.cells cs 312)) (some g):=by
 have h4:=AD (AD (AD (AD hb 0 (.pointer (some ⟨g,0,none⟩))) 1 (.slice none 0 0)) 2 (.int .i64 0)) 3 (.bool true);have hsz:((WG3 w g (.pointer (some ⟨g,0,none⟩)) (.slice none 0 0) (.int .i64 0)).setCell ⟨g,3,none⟩ (.bool true)).heap.size=w.heap.size:=by simp[Dq]
 have hoth:∀j,j≠g->((WG3 w g (.pointer (some ⟨g,0,none⟩)) (.slice none 0 0) (.int .i64 0)).setCell ⟨g,3,none⟩ (.bool true)).heap[j]?=w.heap[j]?:=by
  intro j hj;rw[Ar _ _ _ j hj,Ar _ _ _ j hj,Ar _ _ _ j hj,Ar _ _ _ j hj]
 have hlt:=hb.lt;have hgr:w.grownBy ((WG3 w g (.pointer (some ⟨g,0,none⟩)) (.slice none 0 0) (.int .i64 0)).setCell ⟨g,3,none⟩ (.bool true)) (some g):=⟨rfl,rfl,rfl,by rw[hsz];exact Ad _,fun j _ hne=>hoth j (fun e=>hne (by rw[e]))⟩;revert h4 hsz hoth hgr
 generalize ((WG3 w g (.pointer (some ⟨g,0,none⟩)) (.slice none 0 0) (.int .i64 0)).setCell ⟨g,3,none⟩ (.bool true))=W;intro h4 hsz hoth hgr;refine⟨?_,?_⟩
 ·have:(W.alloc (.cells cs 312)).heap[g]?=W.heap[g]?:=EP _ _ g (by omega);exact this.trans (h4.trans (by simp))
 ·exact⟨hgr.os,hgr.tape,hgr.output,by simp;omega,fun j hj hne=>(EP _ _ j (by omega)).trans (hgr.block j hj hne)⟩
theorem Sn(g:Nat)(a:Option Addr)(len cap:Nat)(k n:Int)(w:Ab)(hb:DG w g (.slice a len cap) k false)(hc:len<=cap)(hm:len<=140737488355328)(hk:0<=k/\k<=len)(hn:n<0∨(len:Int)<k+n) :
  Ag Aa 280 #[.pointer (some ⟨g,0,none⟩),.int .u8 0,.int .i64 n] w fun e w'=>e=.returned (.agg #[.slice none 0 0,.int .i64 0,.int .i64 0,.bool true])/\
   Hid (DG w' g (.slice none 0 0) 0 true/\w.grownBy w' (some g)):=by
 have HB:Hid (DG w g (.slice a len cap) k false):=hb;have hg:=hb.lt;have c0:=hb.c0;have c1:=hb.c1;have c2:=hb.c2;have c3:=hb.c3;have f0:=hb.fz 0;have f1:=hb.fz 1;have f2:=hb.fz 2;have f3:=hb.fz 3;have hne:=Gq ⟨g,0,none⟩;clear hb;have HN:Hid (n<0∨(len:Int)<k+n):=hn;clear hn;go_enter Mt,Lp;go_wp2_with fail;refine(Tt a len cap k n _ hm (by have:=HN.out;omega)).mono ?_;rintro e w' ⟨rfl,rfl⟩;go_wp2_with fail;have hM:=jB g _ _ w HB.out #[.slice none 0 0,.int .i64 0,.int .i64 0,.bool true];exact An (v:=.agg #[.slice none 0 0,.int .i64 0,.int .i64 0,.bool true]) (by simp[AJ,Jl,go_sem]) rfl ⟨rfl,hM⟩
theorem QC(g:Nat)(f n:Int)(t:Ao)(k:Int)(w:Ab)(hb:DG w g t k true) :
  Ag Aa 280 #[.pointer (some ⟨g,0,none⟩),.int .u8 f,.int .i64 n] w fun e w'=>e=.returned (.agg #[.slice none 0 0,.int .i64 0,.int .i64 0,.bool true])/\Blw w w':=by
 have hg:=hb.lt;have c0:=hb.c0;have c3:=hb.c3;have hne:=Gq ⟨g,0,none⟩;clear hb;go_enter Mt,Lp;go_wp2;exact An (v:=.agg #[.slice none 0 0,.int .i64 0,.int .i64 0,.bool true]) (by simp[AJ,Jl,go_sem]) rfl ⟨rfl,((Ae _ _).alloc (Ad _) _)⟩
attribute [local go_sem] Nh Nf Na MZ FA
end Go.Proofs.YtoppdmlmhigogaaGreatDoor
namespace Go.Proofs.YtoppdmlmhigogaaGreatDoor
open Go.ChangeShapes Go.WideShapes Go.ChangeAt Go.RowKit
attribute [local go_sem] Nh Nf Na MZ FA
theorem Ah(w:Ab)(o:Obj):Blw w (w.alloc o):=(Ae _ _).alloc (Ad _) _
attribute [local go_sem] Nh Nf Na MZ
def RSt(w:Ab)(g:Nat)(a:Option Addr)(len cap:Nat):Option Nat->Prop
 |some k=>DG w g (.slice a len cap) k false/\k<=len
 |none=>DG w g (.slice none 0 0) 0 true
def mv(len:Nat)(st:Option Nat)(n:Int):Option Nat:=match st with
 |some k=>if 0<=n/\k+n<=len then some (k+n.toNat) else none
 |none=>none
def tk(zs:List Int)(st:Option Nat)(n:Int):List Int:=match st with
 |some k=>if 0<=n/\k+n<=zs.length then(zs.drop k).take n.toNat else[]
 |none=>[]
def pos:Option Nat->Int
 |some k=>k
 |none=>0
def lft(len:Nat):Option Nat->Int
 |some k=>(len:Int) - (k:Int)
 |none=>0
theorem UR(len:Nat)(st:Option Nat)(h:∀k,st=some k->k<=len):mv len st 0=st:=by
 cases st with
 |none=>rfl
 |some k=>have:=h k rfl;simp[mv];omega
theorem Rb(zs:List Int)(st:Option Nat)(n:Nat):(tk zs st n).length<=n:=by
 unfold tk;split
 ·split
  ·simp;omega
  ·simp
 ·simp
theorem Ja(zs:List Int)(st:Option Nat)(n:Int)(h:∀z∈zs,0<=z/\z<=255):∀z∈tk zs st n,0<=z/\z<=255:=by
 unfold tk;split
 ·split
  ·intro z hz;exact h z (CT (Be hz))
  ·simp
 ·simp
theorem RSt.le{w:Ab}{g:Nat}{a:Option Addr}{len cap:Nat}{st:Option Nat}(h:RSt w g a len cap st):∀k,st=some k->k<=len:=by
 rintro k rfl;exact h.2
theorem RSt.lt{w:Ab}{g:Nat}{a:Option Addr}{len cap:Nat}{st:Option Nat}(h:RSt w g a len cap st):g<w.heap.size:=by
 cases st with
 |none=>exact DG.lt h
 |some k=>exact DG.lt h.1
theorem RSt.same{w w':Ab}{g:Nat}{a:Option Addr}{len cap:Nat}{st:Option Nat}(h:RSt w g a len cap st)(hb:w'.heap[g]?=w.heap[g]?):RSt w' g a len cap st:=by
 cases st with
 |none=>exact DG.same h hb
 |some k=>exact⟨DG.same h.1 hb,h.2⟩
theorem Ee{w w':Ab}{row:Option Nat}(h:Blw w w'):w.grownBy w' row:=⟨h.os,h.tape,h.output,h.size,fun k hk _=>h.block k hk⟩
theorem IX(g:Nat)(a:Option Addr)(len cap:Nat)(zs:List Int)(st st':Option Nat)(n:Int)(c:Nat)(w:Ab)(hs:RSt w g a len cap st)(hr:Rd w a zs)(hl:zs.length=len)(hc:len<=cap)(hm:len<=140737488355328)(hd:a=none->cap=0)(ho:Off a g)
  (hst:mv len st n=st') (htk:(tk zs st n).length=c) :
  Ag Aa 280 #[.pointer (some ⟨g,0,none⟩),.int .u8 0,.int .i64 n] w fun e w'=>∃ov oc,e=.returned (.agg #[.slice ov c oc,.int .i64 (pos st'),.int .i64 (lft len st'),.bool st'.isNone])/\
   Hid (Rd w' ov (tk zs st n)/\(ov=none->oc=0)/\RSt w' g a len cap st'/\w.grownBy w' (some g)):=by
 subst hst;subst htk;cases st with
 |none=>
  refine(QC g 0 n _ _ w hs).mono ?_;rintro e w' ⟨rfl,hb⟩;exact⟨none,0,rfl,⟨.inl rfl,by simp[tk]⟩,fun _=>rfl,RSt.same (st:=none) hs (hb.block g (DG.lt hs)),Ee hb⟩
 |some k=>
  by_cases h:0<=n/\k+n<=len
  ·obtain⟨m,rfl⟩:=DS h.1;have hkm:k+m<=len:=by omega
   have e1:mv len (some k) m=some (k+m):=by simp only[mv];rw[if_pos h];rfl
   have e2:tk zs (some k) m=(zs.drop k).take m:=by simp only[tk];rw[if_pos (by rw[hl];exact h)];rfl
   have e3:((zs.drop k).take m).length=m:=by simp;omega
   rw[e1,e2,e3];refine(dQ g a len cap k m zs w hs.1 hr hl hc hm hkm ho).mono ?_;rintro e w' ⟨ov,rfl,H⟩;obtain⟨h1,h2,h3,h4⟩:=H.out;refine⟨ov,cap - k,by simp[pos,lft],h1,fun e=>by rw[hd (h2 e)];omega,⟨by simpa using h3,hkm⟩,h4⟩
  ·have e1:mv len (some k) n=none:=by simp only[mv];rw[if_neg h]
   have e2:tk zs (some k) n=[]:=by simp only[tk];rw[if_neg (by rw[hl];exact h)]
   rw[e1,e2];have hkl:=hs.2;refine(Sn g a len cap k n w hs.1 hc hm ⟨by omega,by omega⟩ (by omega)).mono ?_;rintro e w' ⟨rfl,H⟩;exact⟨none,0,rfl,⟨.inl rfl,by simp⟩,fun _=>rfl,H.out.1,H.out.2⟩
theorem MK(g:Nat)(a:Option Addr)(len cap:Nat)(zs:List Int)(st:Option Nat)(w:Ab)(hs:RSt w g a len cap st)(hr:Rd w a zs)(hl:zs.length=len)(hc:len<=cap)(hm:len<=140737488355328)(hd:a=none->cap=0)(ho:Off a g) :
  Ag Aa 279 #[.pointer (some ⟨g,0,none⟩)] w fun e w'=>e=.returned (.int .i64 (val (tk zs st 1)))/\Hid (RSt w' g a len cap (mv len st 1)/\w.grownBy w' (some g)):=by
 have H0:Hid (RSt w g a len cap st/\Rd w a zs/\zs.length=len/\(a=none->cap=0)/\Off a g):=⟨hs,hr,hl,hd,ho⟩;clear hs hr hl hd ho;obtain⟨st',hst⟩:∃x,mv len st 1=x:=⟨_,rfl⟩;obtain⟨c,htk⟩:∃x,(tk zs st 1).length=x:=⟨_,rfl⟩;have hc4:c<=1:=by have:(tk zs st (1:Int)).length<=1:=Rb zs st 1;omega
 have hv:=Le (tk zs st 1) (Ja zs st 1 H0.out.2.1.2) (by omega);have HT:Hid (mv len st 1=st'/\(tk zs st 1).length=c):=⟨hst,htk⟩;clear hst htk;rw[HT.out.1];go_enter Tryz.func279,Tryz.ntmps279;go_wp2_with fail;refine(IX g a len cap zs st st' 1 c _ H0.out.1 H0.out.2.1 H0.out.2.2.1 hc hm H0.out.2.2.2.1 H0.out.2.2.2.2 HT.out.1 HT.out.2).mono ?_;rintro e w1 ⟨ov,oc,rfl,H1⟩;go_wp2_with fail;refine(ND ov c oc (tk zs st 1) _ H1.out.1 HT.out.2 (by omega)).mono ?_;rintro e w2 ⟨rfl,rfl⟩;go_wp2;go_ret;exact⟨by simp,H1.out.2.2.1,H1.out.2.2.2⟩
theorem Ta(g:Nat)(a:Option Addr)(len cap:Nat)(zs:List Int)(st:Option Nat)(n:Int)(w:Ab)(hs:RSt w g a len cap st)(hr:Rd w a zs)(hl:zs.length=len)(hc:len<=cap)(hm:len<=140737488355328)(hd:a=none->cap=0)(ho:Off a g) :
  Ag Aa 263 #[.pointer (some ⟨g,0,none⟩),.int .i64 n] w fun e w'=>∃v ys,e=.returned v/\Hid (Own w.heap.size w' v (tk zs st n).length ys/\ys.take (tk zs st n).length=tk zs st n/\RSt w' g a len cap (mv len st n)/\w.grownBy w' (some g)):=by
 have H0:Hid (RSt w g a len cap st/\Rd w a zs/\zs.length=len/\(a=none->cap=0)/\Off a g):=⟨hs,hr,hl,hd,ho⟩;clear hs hr hl hd ho;obtain⟨st',hst⟩:∃x,mv len st n=x:=⟨_,rfl⟩;obtain⟨c,htk⟩:∃x,(tk zs st n).length=x:=⟨_,rfl⟩;have HT:Hid (mv len st n=st'/\(tk zs st n).length=c):=⟨hst,htk⟩;have hcl:c<=len:=by
  have h1:=H0.out.2.2.1;rw[<- htk];unfold tk;split
  ·split
   ·simp;omega
   ·simp
  ·simp
 clear hst htk;rw[HT.out.1,HT.out.2];go_enter Tryz.func263,Tryz.ntmps263;go_wp2_with fail;refine(IX g a len cap zs st st' n c _ H0.out.1 H0.out.2.1 H0.out.2.2.1 hc hm H0.out.2.2.2.1 H0.out.2.2.2.2 HT.out.1 HT.out.2).mono ?_;rintro e w1 ⟨ov,oc,rfl,H1⟩;cases ov with
 |none=>
  have ec:c=0:=by
   rw[<- HT.out.2];obtain h|⟨b,o,h,_⟩:=H1.out.1.1
   ·rw[h];rfl
   ·cases h
  have eo:oc=0:=H1.out.2.1 rfl;subst ec;subst eo;go_wp2_with fail;refine(QK _).mono ?_;rintro e w2 ⟨rfl,rfl⟩;go_wp2;go_ret;have et:tk zs st n=[]:=AC HT.out.2;exact⟨_,[],rfl,.inl ⟨rfl,rfl,rfl⟩,by rw[et];rfl,H1.out.2.2.1,H1.out.2.2.2⟩
 |some x=>
  have HX:Hid (Ag Aa 274 #[.slice (some x) c oc] w1 fun e w'=>∃v ys,e=.returned v/\Hid (Own w1.heap.size w' v c ys/\ys.take c=tk zs st n/\Blw w1 w')):=by
   have:=Sw x oc (tk zs st n) w1 H1.out.1 (by rw[HT.out.2];omega);rw[HT.out.2]at this;exact this
  go_wp2_with fail;refine HX.out.mono ?_;rintro e w2 ⟨v,ys,rfl,H2⟩;go_wp2;go_ret;obtain⟨p1,p2,p3⟩:=H2.out;have hgs:=H1.out.2.2.1.lt;have hsz:=H1.out.2.2.2.size;refine⟨v,ys,rfl,?_,p2,H1.out.2.2.1.same (p3.block g hgs),?_⟩
  ·obtain h|⟨g',h1,h2,h3⟩:=p1
   ·exact .inl h
   ·exact .inr ⟨g',h1,by omega,h3⟩
  ·have hg:=H1.out.2.2.2;exact⟨p3.os.trans hg.os,p3.tape.trans hg.tape,p3.output.trans hg.output,Aj hg.size p3.size,fun j hj hne=>(p3.block j (by omega)).trans (hg.block j hj hne)⟩
theorem Yu(g:Nat)(a:Option Addr)(len cap:Nat)(zs:List Int)(st:Option Nat)(w:Ab)(hs:RSt w g a len cap st)(hr:Rd w a zs)(hl:zs.length=len)(hc:len<=cap)(hm:len<=140737488355328)(hd:a=none->cap=0)(ho:Off a g) :
  Ag Aa 276 #[.pointer (some ⟨g,0,none⟩)] w fun e w'=>e=.returned (.int .i64 (pos st))/\Hid (RSt w' g a len cap st/\w.grownBy w' (some g)):=by
 have H0:Hid (RSt w g a len cap st/\Rd w a zs/\zs.length=len/\(a=none->cap=0)/\Off a g):=⟨hs,hr,hl,hd,ho⟩;clear hs hr hl hd ho;go_enter Tryz.func276,Tryz.ntmps276;go_wp2_with fail;refine(IX g a len cap zs st st 0 _ _ H0.out.1 H0.out.2.1 H0.out.2.2.1 hc hm H0.out.2.2.2.1 H0.out.2.2.2.2 (UR len st H0.out.1.le) rfl).mono ?_;rintro e w1 ⟨ov,oc,rfl,H1⟩;go_wp2;go_ret;exact⟨rfl,H1.out.2.2.1,H1.out.2.2.2⟩
theorem VB(g:Nat)(a:Option Addr)(len cap:Nat)(zs:List Int)(st:Option Nat)(w:Ab)(hs:RSt w g a len cap st)(hr:Rd w a zs)(hl:zs.length=len)(hc:len<=cap)(hm:len<=140737488355328)(hd:a=none->cap=0)(ho:Off a g) :
  Ag Aa 265 #[.pointer (some ⟨g,0,none⟩)] w fun e w'=>e=.returned (.bool st.isNone)/\Hid (RSt w' g a len cap st/\w.grownBy w' (some g)):=by
 have H0:Hid (RSt w g a len cap st/\Rd w a zs/\zs.length=len/\(a=none->cap=0)/\Off a g):=⟨hs,hr,hl,hd,ho⟩;clear hs hr hl hd ho;go_enter Tryz.func265,Tryz.ntmps265;go_wp2_with fail;refine(IX g a len cap zs st st 0 _ _ H0.out.1 H0.out.2.1 H0.out.2.2.1 hc hm H0.out.2.2.2.1 H0.out.2.2.2.2 (UR len st H0.out.1.le) rfl).mono ?_;rintro e w1 ⟨ov,oc,rfl,H1⟩;go_wp2;go_ret;exact⟨rfl,H1.out.2.2.1,H1.out.2.2.2⟩
theorem Zv(x:Addr)(cap:Nat)(zs:List Int)(w:Ab)(hr:Rd w (some x) zs)(hm:zs.length<=140737488355328) :
  Ag Aa 259 #[.slice (some x) zs.length cap] w fun e w'=>∃gr a' ca,e=.returned (.pointer (some ⟨gr,0,none⟩))/\Hid (w.heap.size<=gr/\DG w' gr (.slice a' zs.length ca) 0 false/\Rd w' a' zs/\zs.length<=ca/\(a'=none->ca=0)/\Off a' gr/\(∀y o,a'=some ⟨y,o,none⟩->w.heap.size<=y/\y<w'.heap.size)/\Blw w w'):=by
 have HX:Hid (Ag Aa 274 #[.slice (some x) zs.length cap] w fun e w'=>∃v ys,e=.returned v/\Hid (Own w.heap.size w' v zs.length ys/\ys.take zs.length=zs/\Blw w w')):=Sw x cap zs w hr hm;clear hr hm;generalize hl:zs.length=len at*;have HL:Hid (zs.length=len):=hl;clear hl;go_enter Tryz.func259,Tryz.ntmps259;go_wp2_with fail;refine HX.out.mono ?_;rintro e w1 ⟨v,ys,rfl,H1⟩;obtain⟨a',rfl,hoa⟩:=H1.out.1.addr;have HO:Hid (Jk w.heap.size w1 a' len ys/\ys.take len=zs/\Blw w w1):=⟨hoa,H1.out.2.1,H1.out.2.2⟩;clear hoa H1;generalize hy:ys.length=yl;have HY:Hid (ys.length=yl):=hy;clear hy;go_wp2;go_ret;obtain⟨q1,q2,q3⟩:=HO.out;have hnb:=Ah w1 (.cells #[.pointer (some ⟨w1.heap.size,0,none⟩),.slice a' len yl,.int .i64 0,.bool false] 307);have hrd:=q1.rdTake len;rw[q2]at hrd;refine⟨w1.heap.size,a',yl,rfl,q3.size,Au _ _,hrd.below hnb,?_,?_,?_,?_,q3.trans (hnb.mono q3.size)⟩
 ·have:=q1.le.1;rw[HY.out]at this;exact this
 ·intro e;have:=q1.nil e;rw[HY.out]at this;exact this
 ·rintro y o rfl;have:=(q1.lt y rfl).2;omega
 ·rintro y o rfl;have h1:=(q1.lt y rfl);have h2:=hnb.size;exact⟨h1.1,by omega⟩
attribute [local go_sem] Nh Nf Na MZ FA
attribute [local go_sem] Nh Nf Na MZ
end Go.Proofs.YtoppdmlmhigogaaGreatDoor
namespace Go.Proofs.YtoppdmlmhigogaaGreatDoor
open Go.ChangeShapes Go.WideShapes Go.ChangeAt Go.RowKit
theorem WQ(g:Nat)(a:Option Addr)(len cap n:Nat)(k:Int)(zs:List Int)(w:Ab)(hb:DG w g (.slice a len cap) k false)(hr:Rd w a zs)(hl:zs.length=len)(hc:len<=cap)(hm:len<=140737488355328)(hn:n<=len)(ho:Off a g) :
  Ag Aa 280 #[.pointer (some ⟨g,0,none⟩),.int .u8 1,.int .i64 n] w fun e w'=>∃ov,e=.returned (.agg #[.slice ov n cap,.int .i64 (n:Int),.int .i64 ((len:Int) - (n:Int)),.bool false])/\
   Hid (Rd w' ov (zs.take n)/\(ov=none->a=none)/\DG w' g (.slice a len cap) (n:Int) false/\w.grownBy w' (some g)):=by
 have HB:Hid (DG w g (.slice a len cap) k false):=hb;have HR:Hid (Rd w a zs):=hr;have HL:Hid (zs.length=len):=hl;have HO:Hid (Off a g):=ho;have hg:=hb.lt;have c0:=hb.c0;have c1:=hb.c1;have c2:=hb.c2;have c3:=hb.c3;have f2:=hb.fz 2;have hne:=Gq ⟨g,0,none⟩;clear hb hr hl ho;go_enter Mt,Lp;go_wp2_with fail;refine(UY a len cap 0 n zs _ (HR.out.below ((Ae _ _).alloc (Ad _) _)) HL.out hc hm (by omega)).mono ?_;rintro e w' ⟨⟨ov,rfl,H1⟩,rfl⟩;go_wp2_with fail;have hw:CV.wrap ((len:Int) - (n:Int))=(len:Int) - (n:Int):=by rw[BZ];omega
 have hgw:¬ w.heap.size=g:=by omega
 obtain⟨m1,m2,m3,m4⟩:=sD g (.slice a len cap) k (n:Int) w HB.out #[.slice none 0 0,.int .i64 0,.int .i64 0,.bool false];obtain⟨v0,v1,v2,v3,v4⟩:=jW m2;have d1:=m1.c1;have d2:=m1.c2;have HM:Hid (DG ((w.setCell ⟨g,2,none⟩ (.int .i64 (n:Int))).alloc (.cells #[.slice none 0 0,.int .i64 0,.int .i64 0,.bool false] 312)) g (.slice a len cap) (n:Int) false/\w.grownBy ((w.setCell ⟨g,2,none⟩ (.int .i64 (n:Int))).alloc (.cells #[.slice none 0 0,.int .i64 0,.int .i64 0,.bool false] 312)) (some g)):=⟨m1,m3⟩;clear m1 m2 m3 c0 c1 c2 c3 f2 hne;generalize (w.setCell ⟨g,2,none⟩ (.int .i64 (n:Int))).alloc (.cells #[.slice none 0 0,.int .i64 0,.int .i64 0,.bool false] 312)=W1 at*;generalize hs:w.heap.size=s at*;have HS:Hid (w.heap.size=s):=hs;clear hs;have v4a:=v4 0;have v4b:=v4 1;have v4c:=v4 2;have v4d:=v4 3;clear v4
 go_region_held3 (fun W=>W.cell? ⟨g,1,none⟩=some (.slice a len cap)/\W.cell? ⟨g,2,none⟩=some (.int .i64 (n:Int))) (go_keep) (fail)
 go_wp2;obtain⟨h1,h2⟩:=H1.out;have hM:=SA HM.out HS.out (by omega) (.slice ov n cap) (.int .i64 (n:Int)) (.int .i64 ((len:Int) - (n:Int))) (.bool false);have hR:=h1 _ (HR.out.grown hM.2 HO.out);clear h1;refine An (v:=.agg #[.slice ov n cap,.int .i64 (n:Int),.int .i64 ((len:Int) - (n:Int)),.bool false]) ?_ rfl ⟨ov,rfl,hR,h2,hM.1,hM.2.os,hM.2.tape,hM.2.output,hM.2.size,hM.2.block⟩;clear hM hR HM H1 HR HO;simp[AJ,Jl,go_sem, *]
theorem Rn(g:Nat)(a:Option Addr)(len cap:Nat)(k n:Int)(w:Ab)(hb:DG w g (.slice a len cap) k false)(hc:len<=cap)(hm:len<=140737488355328)(hk:0<=k/\k<=len)(hn:n<0∨(len:Int)<n) :
  Ag Aa 280 #[.pointer (some ⟨g,0,none⟩),.int .u8 1,.int .i64 n] w fun e w'=>e=.returned (.agg #[.slice none 0 0,.int .i64 0,.int .i64 0,.bool true])/\
   Hid (DG w' g (.slice none 0 0) 0 true/\w.grownBy w' (some g)):=by
 have HB:Hid (DG w g (.slice a len cap) k false):=hb;have hg:=hb.lt;have c0:=hb.c0;have c1:=hb.c1;have c2:=hb.c2;have c3:=hb.c3;have f0:=hb.fz 0;have f1:=hb.fz 1;have f2:=hb.fz 2;have f3:=hb.fz 3;have hne:=Gq ⟨g,0,none⟩;clear hb;have HN:Hid (n<0∨(len:Int)<n):=hn;clear hn;go_enter Mt,Lp;go_wp2_with fail;refine(Tt a len cap 0 n _ hm (by have:=HN.out;omega)).mono ?_;rintro e w' ⟨rfl,rfl⟩;go_wp2_with fail;have hM:=jB g _ _ w HB.out #[.slice none 0 0,.int .i64 0,.int .i64 0,.bool true];exact An (v:=.agg #[.slice none 0 0,.int .i64 0,.int .i64 0,.bool true]) (by simp[AJ,Jl,go_sem]) rfl ⟨rfl,hM⟩
attribute [local go_sem] Nh Nf Na MZ
def jm(len:Nat)(st:Option Nat)(n:Int):Option Nat:=match st with
 |some _=>if 0<=n/\n<=len then some n.toNat else none
 |none=>none
theorem WO(g:Nat)(a:Option Addr)(len cap:Nat)(zs:List Int)(st:Option Nat)(n:Int)(w:Ab)(hs:RSt w g a len cap st)(hr:Rd w a zs)(hl:zs.length=len)(hc:len<=cap)(hm:len<=140737488355328)(ho:Off a g) :
  Ag Aa 280 #[.pointer (some ⟨g,0,none⟩),.int .u8 1,.int .i64 n] w fun e w'=>∃v,e=.returned v/\Hid (RSt w' g a len cap (jm len st n)/\w.grownBy w' (some g)):=by
 cases st with
 |none=>
  refine(QC g 1 n _ _ w hs).mono ?_;rintro e w' ⟨rfl,hb⟩;exact⟨_,rfl,RSt.same (st:=none) hs (hb.block g (DG.lt hs)),Ee hb⟩
 |some k=>
  by_cases h:0<=n/\n<=len
  ·obtain⟨m,rfl⟩:=DS h.1;have hm':m<=len:=by omega
   have e1:jm len (some k) m=some m:=by simp only[jm];rw[if_pos h];rfl
   rw[e1];refine(WQ g a len cap m k zs w hs.1 hr hl hc hm hm' ho).mono ?_;rintro e w' ⟨ov,rfl,H⟩;exact⟨_,rfl,⟨H.out.2.2.1,hm'⟩,H.out.2.2.2⟩
  ·have e1:jm len (some k) n=none:=by simp only[jm];rw[if_neg h]
   rw[e1];have hkl:=hs.2;refine(Rn g a len cap k n w hs.1 hc hm ⟨by omega,by omega⟩ (by omega)).mono ?_;rintro e w' ⟨rfl,H⟩;exact⟨_,rfl,H.out.1,H.out.2⟩
theorem iP(g:Nat)(a:Option Addr)(len cap:Nat)(zs:List Int)(st:Option Nat)(w:Ab)(hs:RSt w g a len cap st)(hr:Rd w a zs)(hl:zs.length=len)(hc:len<=cap)(hm:len<=140737488355328)(hd:a=none->cap=0)(ho:Off a g) :
  Ag Aa 288 #[.pointer (some ⟨g,0,none⟩)] w fun e w'=>e=.returned (.int .i64 (val (tk zs st 2)))/\Hid (RSt w' g a len cap (mv len st 2)/\w.grownBy w' (some g)):=by
 have H0:Hid (RSt w g a len cap st/\Rd w a zs/\zs.length=len/\(a=none->cap=0)/\Off a g):=⟨hs,hr,hl,hd,ho⟩;clear hs hr hl hd ho;obtain⟨st',hst⟩:∃x,mv len st 2=x:=⟨_,rfl⟩;obtain⟨c,htk⟩:∃x,(tk zs st 2).length=x:=⟨_,rfl⟩;have hc4:c<=2:=by have:(tk zs st (2:Int)).length<=2:=Rb zs st 2;omega
 have hv:=Le (tk zs st 2) (Ja zs st 2 H0.out.2.1.2) (by omega);have HT:Hid (mv len st 2=st'/\(tk zs st 2).length=c):=⟨hst,htk⟩;clear hst htk;rw[HT.out.1];go_enter Tryz.func288,Tryz.ntmps288;go_wp2_with fail;refine(IX g a len cap zs st st' 2 c _ H0.out.1 H0.out.2.1 H0.out.2.2.1 hc hm H0.out.2.2.2.1 H0.out.2.2.2.2 HT.out.1 HT.out.2).mono ?_;rintro e w1 ⟨ov,oc,rfl,H1⟩;go_wp2_with fail;refine(ND ov c oc (tk zs st 2) _ H1.out.1 HT.out.2 (by omega)).mono ?_;rintro e w2 ⟨rfl,rfl⟩;go_wp2;go_ret;exact⟨by simp,H1.out.2.2.1,H1.out.2.2.2⟩
theorem iI(g:Nat)(a:Option Addr)(len cap:Nat)(zs:List Int)(st:Option Nat)(w:Ab)(hs:RSt w g a len cap st)(hr:Rd w a zs)(hl:zs.length=len)(hc:len<=cap)(hm:len<=140737488355328)(hd:a=none->cap=0)(ho:Off a g) :
  Ag Aa 289 #[.pointer (some ⟨g,0,none⟩)] w fun e w'=>e=.returned (.int .u32 (val (tk zs st 4)))/\Hid (RSt w' g a len cap (mv len st 4)/\w.grownBy w' (some g)):=by
 have H0:Hid (RSt w g a len cap st/\Rd w a zs/\zs.length=len/\(a=none->cap=0)/\Off a g):=⟨hs,hr,hl,hd,ho⟩;clear hs hr hl hd ho;obtain⟨st',hst⟩:∃x,mv len st 4=x:=⟨_,rfl⟩;obtain⟨c,htk⟩:∃x,(tk zs st 4).length=x:=⟨_,rfl⟩;have hc4:c<=4:=by have:(tk zs st (4:Int)).length<=4:=Rb zs st 4;omega
 have hv:=Le (tk zs st 4) (Ja zs st 4 H0.out.2.1.2) (by omega);have HT:Hid (mv len st 4=st'/\(tk zs st 4).length=c):=⟨hst,htk⟩;clear hst htk;rw[HT.out.1];go_enter Tryz.func289,Tryz.ntmps289;go_wp2_with fail;refine(IX g a len cap zs st st' 4 c _ H0.out.1 H0.out.2.1 H0.out.2.2.1 hc hm H0.out.2.2.2.1 H0.out.2.2.2.2 HT.out.1 HT.out.2).mono ?_;rintro e w1 ⟨ov,oc,rfl,H1⟩;go_wp2_with fail;refine(ND ov c oc (tk zs st 4) _ H1.out.1 HT.out.2 (by omega)).mono ?_;rintro e w2 ⟨rfl,rfl⟩;go_wp2;go_ret;exact⟨by simp,H1.out.2.2.1,H1.out.2.2.2⟩
theorem cR(g:Nat)(a:Option Addr)(len cap:Nat)(zs:List Int)(st:Option Nat)(n:Int)(w:Ab)(hs:RSt w g a len cap st)(hr:Rd w a zs)(hl:zs.length=len)(hc:len<=cap)(hm:len<=140737488355328)(hd:a=none->cap=0)(ho:Off a g) :
  Ag Aa 277 #[.pointer (some ⟨g,0,none⟩),.int .i64 n] w fun e w'=>e=.returned (.tuple #[])/\Hid (RSt w' g a len cap (jm len st n)/\w.grownBy w' (some g)):=by
 have H0:Hid (RSt w g a len cap st/\Rd w a zs/\zs.length=len/\(a=none->cap=0)/\Off a g):=⟨hs,hr,hl,hd,ho⟩;clear hs hr hl hd ho;go_enter Tryz.func277,Tryz.ntmps277;go_wp2_with fail;refine(WO g a len cap zs st n _ H0.out.1 H0.out.2.1 H0.out.2.2.1 hc hm H0.out.2.2.2.2).mono ?_;rintro e w1 ⟨v,rfl,H1⟩;go_wp2
 go_end0
 exact⟨rfl,H1⟩
theorem Pg(g:Nat)(a:Option Addr)(len cap:Nat)(zs:List Int)(st:Option Nat)(w:Ab)(hs:RSt w g a len cap st)(hr:Rd w a zs)(hl:zs.length=len)(hc:len<=cap)(hm:len<=140737488355328)(hd:a=none->cap=0)(ho:Off a g) :
  Ag Aa 264 #[.pointer (some ⟨g,0,none⟩)] w fun e w'=>e=.returned (.int .i64 (lft len st))/\Hid (RSt w' g a len cap st/\w.grownBy w' (some g)):=by
 have H0:Hid (RSt w g a len cap st/\Rd w a zs/\zs.length=len/\(a=none->cap=0)/\Off a g):=⟨hs,hr,hl,hd,ho⟩;clear hs hr hl hd ho;go_enter Tryz.func264,Tryz.ntmps264;go_wp2_with fail;refine(IX g a len cap zs st st 0 _ _ H0.out.1 H0.out.2.1 H0.out.2.2.1 hc hm H0.out.2.2.2.1 H0.out.2.2.2.2 (UR len st H0.out.1.le) rfl).mono ?_;rintro e w1 ⟨ov,oc,rfl,H1⟩;go_wp2;go_ret;exact⟨rfl,H1.out.2.2.1,H1.out.2.2.2⟩
theorem iW(w:Ab) :
  Ag Aa 259 #[.slice none 0 0] w fun e w'=>∃gr a' ca,e=.returned (.pointer (some ⟨gr,0,none⟩))/\Hid (w.heap.size<=gr/\DG w' gr (.slice a' 0 ca) 0 false/\Rd w' a' []/\0<=ca/\(a'=none->ca=0)/\Off a' gr/\(∀y o,a'=some ⟨y,o,none⟩->w.heap.size<=y/\y<w'.heap.size)/\Blw w w'):=by
 go_enter Tryz.func259,Tryz.ntmps259;go_wp2_with fail;refine(QK _).mono ?_;rintro e w1 ⟨rfl,rfl⟩;go_wp2;go_ret;have hnb:=Ah w1 (.cells #[.pointer (some ⟨w1.heap.size,0,none⟩),.slice none 0 0,.int .i64 0,.bool false] 307);exact⟨w1.heap.size,none,0,rfl,Ad _,Au _ _,⟨.inl rfl,by simp⟩,Ad _,fun _=>rfl,(by rintro _ _ ⟨⟩),(by rintro _ _ ⟨⟩),hnb⟩
attribute [local go_sem] Nh Nf Na MZ
end Go.Proofs.YtoppdmlmhigogaaGreatDoor
