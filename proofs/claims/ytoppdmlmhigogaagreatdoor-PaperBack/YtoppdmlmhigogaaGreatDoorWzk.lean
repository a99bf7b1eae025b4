/- Texts laid together, in parts: Mb2 Sht Fol Mc Md Me Mf Mg Mh Mi Mj Mk Ml. -/
import Derived.Test.YtoppdmlmhigogaaGreatDoorWzj
import Derived.Shelf.Strings.Trim
import Derived.Test.YtoppdmlmhigogaaGreatDoorProg
import Derived.Deep.QuietTactic
import Derived.Shelf.Strings.SlTrimAscii
import Derived.Maps.OwnSet
import Derived.Carry
set_option maxRecDepth 100000
set_option maxHeartbeats 8000000
set_option linter.unusedVariables false
set_option linter.unusedSimpArgs false
open Array renaming getElem?_eq_some_iff → As
open Bool renaming false_eq_true → Bi
open Go renaming World → Ab, Calls → Ag, bodyPost_ret → An, Value → Ao, heap_alloc_new → Au, results → AJ, TypeId → BH, maxLen → Gi, DataW → Lo, MemPlace → NT
open Go.IntKind renaming wrap_i64 → BZ, i64 → CV, u64 → LL, wrap_u64 → MN
open Go.Lib renaming hid → Ac, parseUintB → Bn, indexByte → Bu, parseUintM → Ck, bytesWorld_below → Hq
open Go.Proofs.Tryz renaming prog → Aa, underlying9 → AK, underlying3 → AW, underlying5 → Ba, zeroValue3 → Bp, zeroValue9 → Bq, underlying4 → Br, zeroValue4 → BC, zeroValue5 → BN, sizeOf3 → BW, sizeOf9 → BX, sizeOf4 → Ci, isAgg3 → Cq, isAgg9 → Cr, underlying171 → CB, underlying0 → CG, sizeOf5 → CH, isAgg4 → CI, zeroValue171 → CP, zeroValue0 → CW, isAgg5 → Db, sizeOf171 → DK, sizeOf0 → Eb, isAgg171 → Ek, isAgg0 → EM, results164 → Gl, results86 → Hh, ntmps164 → IB, results161 → Jn, func164 → Jw, ntmps86 → Jx, func222 → Ks, func86 → Kv, underlying125 → LC, underlying21 → Ms, ntmps222 → MO, results162 → MQ, zeroValue21 → Nj, ntmps127 → OR, ntmps161 → OS
open Go.RowKit.Below renaming refl → Ae, heap_setCell → Ar
open Go.Shelf renaming Ren → BK
open Go.Value renaming int → AL
open Go.World renaming cell? → Az, size_alloc → Bj, frozen? → Dv, var?_cell → Fu
open List renaming length_append → Af, take_of_length_le → Al, length_eq_zero_iff → Aq, length_map → AS, getElem_mem → AU, mem_of_mem_drop → CT, drop_eq_nil_of_le → DH, drop_eq_getElem_cons → El, isPrefixOf → FE, length → FH
open Nat renaming le_refl → Ad, le_trans → Aj, lt_of_lt_of_le → Ap, zero_le → Aw
open Option renaming bind_some → BL
open Option.some renaming injEq → Iq
open UInt8 renaming ofNat → CS
namespace Go.Proofs.YtoppdmlmhigogaaGreatDoor
open Go.ChangeShapes Go.WideShapes Go.ChangeAt Go.RowKit Go.Sort
def xU(s:ByteArray)(w:Ab)(e:Ending)(w':Ab):Prop:=
 (∃u:Nat,e=.returned (.tuple #[.int .u64 u,.nilIface])/\Bn 31 s.data.toList=.ok u/\Blw w w') ∨
 (∃x N,e=.returned (.tuple #[.int .u64 x,.iface 289 (.pointer (some ⟨N,0,none⟩))])/\(0<=x/\x<=2147483647)/\(∀u,Bn 31 s.data.toList≠.ok u)/\Blw w w')
theorem iC(s:ByteArray)(hs:s.size<=281474976710656)(w:Ab)(hE:Cc w):Ag Aa 222 #[.string s,.int .i64 10,.int .i64 31] w (xU s w):=by
 have HE:Hid (Cc w):=hE
 have K:(∃W1 u,Bn 31 s.data.toList=.ok u/\Ag Aa 234 #[.string s,.int .i64 10,.int .i64 31] w fun e w'=>e=.returned (.tuple #[.int .u64 (u:Nat),.nilIface])/\w'=W1/\Blw w W1) ∨
   (∃W1 x y,(y=1∨y=2)/\(0<=x/\x<=2147483647)/\(∀u,Bn 31 s.data.toList≠.ok u)/\Ag Aa 234 #[.string s,.int .i64 10,.int .i64 31] w fun e w'=>e=.returned (.tuple #[.int .u64 x,.iface 287 (.int .i64 y)])/\w'=W1/\Blw w W1):=by
  by_cases h0:s.data.toList=[]
  ·have e:=OV h0;subst e;exact .inr ⟨w,0,2,.inr rfl,by omega,fun u h=>by simp[Bn]at h,(WK w).mono fun e w' ⟨h1,h2⟩=>⟨h1,h2,Ae _ _⟩⟩
  ·have K:=mA s (Of h0) (by omega) w;have eM:(2:Nat) ^ 31 - 1=2147483647:=by decide
   have hp:Bn 31 s.data.toList=Ck 2147483647 0 s.data.toList:=by rw[Bn,if_neg h0,eM]
   rw[hp];cases hr:Ck 2147483647 0 s.data.toList with
   |ok u=>rw[hr]at K;exact .inl ⟨_,u,rfl,K.mono fun e w' ⟨h1,h2⟩=>⟨h1,h2,Hq _ _ _⟩⟩
   |«syntax»=>rw[hr]at K;exact .inr ⟨_,0,2,.inr rfl,by omega,fun u h=>(by cases h),K.mono fun e w' ⟨h1,h2⟩=>⟨h1,h2,Hq _ _ _⟩⟩
   |range=>rw[hr]at K;exact .inr ⟨_,2147483647,1,.inl rfl,by omega,fun u h=>(by cases h),K.mono fun e w' ⟨h1,h2⟩=>⟨h1,h2,Hq _ _ _⟩⟩
 clear hE;obtain⟨W1,u,hu,K⟩|⟨W1,x,y,hy,hx,hno,K⟩:=K
 ·have K:=Ac K;have HU:=Ac hu;clear hu;go_enter Ks,MO;go_wp2_with fail;refine K.out.mono ?_;rintro e w' ⟨rfl,hw,hb⟩;subst w';have HB:Hid (Blw w W1):=hb;clear hb;go_wp2_with fail;go_ret2;exact .inl ⟨u,rfl,HU.out,HB.out⟩
 ·have K:=Ac K;have HX:Hid ((0<=x/\x<=2147483647)/\∀u,Bn 31 s.data.toList≠.ok u):=⟨hx,hno⟩;clear hx hno;obtain rfl|rfl:=hy
  focus
   go_enter Ks,MO;go_wp2_with fail;refine K.out.mono ?_;rintro e w' ⟨rfl,hw,hb⟩;subst w';have HB:Hid (Blw w W1):=hb;have HE1:=Ac (HE.out.below hb);clear hb HE;obtain⟨⟨tp,p,h1⟩,⟨tq,q,h2⟩,_,_⟩:=HE1.out;have g1:W1.cell? ⟨7,0,none⟩=some (.iface tp p):=by have h0:=Fu dJ h1 0;simpa using h0
   have g2:W1.cell? ⟨8,0,none⟩=some (.iface tq q):=by have h0:=Fu aV h2 0;simpa using h0
   have G1:=Ac g1;have G2:=Ac g2;clear g1 g2 h1 h2;go_wp2_with fail;refine(Tryz.strconv_toError_range _ s 10 31 (.iface tq q) W1 hs G2.out (Or.inr ⟨tq,q,rfl⟩)).mono ?_
  rotate_left
  focus
   go_enter Ks,MO;go_wp2_with fail;refine K.out.mono ?_;rintro e w' ⟨rfl,hw,hb⟩;subst w';have HB:Hid (Blw w W1):=hb;have HE1:=Ac (HE.out.below hb);clear hb HE;obtain⟨⟨tp,p,h1⟩,⟨tq,q,h2⟩,_,_⟩:=HE1.out;have g1:W1.cell? ⟨7,0,none⟩=some (.iface tp p):=by have h0:=Fu dJ h1 0;simpa using h0
   have g2:W1.cell? ⟨8,0,none⟩=some (.iface tq q):=by have h0:=Fu aV h2 0;simpa using h0
   have G1:=Ac g1;have G2:=Ac g2;clear g1 g2 h1 h2;go_wp2_with fail;refine(Tryz.strconv_toError_syntax _ s 10 31 (.iface tp p) W1 hs G1.out (Or.inr ⟨tp,p,rfl⟩)).mono ?_
  rotate_left
  all_goals
   rintro e w' ⟨N,rfl,_,_,hb⟩;have HB2:Hid (Blw w w'):=HB.out.trans (hb.mono HB.out.size);clear hb;go_wp2_with fail;go_ret2;exact .inr ⟨x,N,rfl,HX.out.1,HX.out.2,HB2.out⟩
def N31(s:ByteArray)(w:Ab)(e:Ending)(w':Ab):Prop:=
 ∃(n:Nat) (b:Bool),e=.returned (.tuple #[.int .u32 (n:Int),.bool b])/\Hid (n<=2147483647)/\Hid ((b=true->GM (Ai s)=some n)/\(b=false->GM (Ai s)=none))/\Hid (Blw w w')
theorem sI(s:ByteArray)(hz:¬ (1<s.data.toList.length/\(bi s.data.toList).head?=some 48))(u:Nat):Bn 31 s.data.toList=.ok u↔GM (Ai s)=some u:=Qt 31 (by decide) _ u hz
theorem TK(s:ByteArray)(hs:s.size<=281474976710656)(w:Ab)(hE:Cc w):Ag Aa 210 #[.string s] w (N31 s w):=by
 by_cases hz:1<s.data.toList.length/\(bi s.data.toList).head?=some 48
 ·have h1:1<s.size:=hz.1;have h1':(1:Int)<(s.size:Int):=by omega
  have h0':(0:Int)<(s.size:Int):=by omega
  have h48:(s[0].toNat:Int)=48:=by
   have:=hz.2;rw[<- CR,Kz s (by omega)]at this;injection this
  have HN:Hid (GM (Ai s)=none):=Tu (Ai s) _ (by rw[CR,OW];exact hz.1) hz.2;clear hz;go_enter Tryz.func210,Tryz.ntmps210;go_wp2_with fail;go_ret2;exact⟨0,false,rfl,Aw _,⟨fun h=>by (cases h),fun _=>HN.out⟩,Ae _ _⟩
 ·have HI:=Ac (sI s hz);have K:=Ac (fun W hW=>iC s hs W hW);have HE:=Ac hE;clear hE;by_cases h1:1<s.size
  ·have h1':(1:Int)<(s.size:Int):=by omega
   have h0':(0:Int)<(s.size:Int):=by omega
   have h48:((s[0].toNat:Int) == 48)=false:=by
    rw[beq_eq_false_iff_ne];intro e;exact hz ⟨h1,by rw[<- CR,Kz s (by omega),e]⟩
   clear hz;go_enter Tryz.func210,Tryz.ntmps210;go_wp2_with fail;refine(K.out _ HE.out).mono ?_;rintro e w' (⟨u,rfl,hu,hb⟩|⟨x,N,rfl,hx,hu,hb⟩)
   ·have HU:=Ac ((HI.out u).1 hu);have HB:=Ac hb;have hu1:u<2147483648:=(Fy HU.out).2;have hu2:u<4294967296:=by omega
    clear hu hb;go_wp2_with fail;go_quiet (fail);go_wp2_with fail;go_ret2;exact⟨u,true,rfl,by show _<=_;omega,⟨fun _=>HU.out,fun h=>by (cases h)⟩,HB.out.trans ⟨rfl,rfl,rfl,Ad _,fun _ _=>rfl⟩⟩
   ·have HU:Hid (GM (Ai s)=none):=by
     show _=_;cases h:GM (Ai s) with
     |none=>rfl
     |some n=>exact absurd ((HI.out n).2 h) (hu n)
    have HB:=Ac hb;obtain⟨n,rfl⟩:∃n:Nat,x=(n:Int):=⟨x.toNat,by omega⟩;have hu2:n<4294967296:=by omega
    have HN:Hid (n<=2147483647):=by show _<=_;omega
    clear hu hb hx;go_wp2_with fail;go_quiet (fail);go_wp2_with fail;go_ret2;exact⟨n,false,rfl,HN.out,⟨fun h=>by (cases h),fun _=>HU.out⟩,HB.out.trans ⟨rfl,rfl,rfl,Ad _,fun _ _=>rfl⟩⟩
  ·have h1':¬ (1:Int)<(s.size:Int):=by omega
   clear hz;go_enter Tryz.func210,Tryz.ntmps210;go_wp2_with fail;refine(K.out _ HE.out).mono ?_;rintro e w' (⟨u,rfl,hu,hb⟩|⟨x,N,rfl,hx,hu,hb⟩)
   ·have HU:=Ac ((HI.out u).1 hu);have HB:=Ac hb;have hu1:u<2147483648:=(Fy HU.out).2;have hu2:u<4294967296:=by omega
    clear hu hb;go_wp2_with fail;go_quiet (fail);go_wp2_with fail;go_ret2;exact⟨u,true,rfl,by show _<=_;omega,⟨fun _=>HU.out,fun h=>by (cases h)⟩,HB.out.trans ⟨rfl,rfl,rfl,Ad _,fun _ _=>rfl⟩⟩
   ·have HU:Hid (GM (Ai s)=none):=by
     show _=_;cases h:GM (Ai s) with
     |none=>rfl
     |some n=>exact absurd ((HI.out n).2 h) (hu n)
    have HB:=Ac hb;obtain⟨n,rfl⟩:∃n:Nat,x=(n:Int):=⟨x.toNat,by omega⟩;have hu2:n<4294967296:=by omega
    have HN:Hid (n<=2147483647):=by show _<=_;omega
    clear hu hb hx;go_wp2_with fail;go_quiet (fail);go_wp2_with fail;go_ret2;exact⟨n,false,rfl,HN.out,⟨fun h=>by (cases h),fun _=>HU.out⟩,HB.out.trans ⟨rfl,rfl,rfl,Ad _,fun _ _=>rfl⟩⟩
end Go.Proofs.YtoppdmlmhigogaaGreatDoor
namespace Go.Proofs
open Go.Shelf
def Tryz.lays161_ren:BK:=⟨fun|161=>223|231=>236|227=>237|233=>238|235=>239|228=>255|197=>256|151=>257|260=>271|152=>272|137=>172|119=>286|224=>131|225=>130|217=>129|266=>166|n=>n,fun|9=>9|4=>4|3=>3|5=>5|117=>279|116=>278|0=>0|124=>282|105=>292|21=>21|119=>221|46=>171|139=>323|138=>322|n=>n,fun|3=>9|4=>10|n=>n⟩
theorem Tryz.lays161:Go.Proofs.Lays.n161 Aa Tryz.lays161_ren:={
 mixed:=by kernel_rfl
 f119:=Tryz.func286.trans (congrArg some (by kernel_rfl))
 f137:=Tryz.func172.trans (congrArg some (by kernel_rfl))
 f151:=Tryz.func257.trans (congrArg some (by kernel_rfl))
 f152:=Tryz.func272.trans (congrArg some (by kernel_rfl))
 f161:=Tryz.func223.trans (congrArg some (by kernel_rfl))
 f197:=Tryz.func256.trans (congrArg some (by kernel_rfl))
 f217:=Tryz.func129.trans (congrArg some (by kernel_rfl))
 f224:=Tryz.func131.trans (congrArg some (by kernel_rfl))
 f225:=Tryz.func130.trans (congrArg some (by kernel_rfl))
 f227:=Tryz.func237.trans (congrArg some (by kernel_rfl))
 f228:=Tryz.func255.trans (congrArg some (by kernel_rfl))
 f231:=Tryz.func236.trans (congrArg some (by kernel_rfl))
 f233:=Tryz.func238.trans (congrArg some (by kernel_rfl))
 f235:=Tryz.func239.trans (congrArg some (by kernel_rfl))
 f260:=Tryz.func271.trans (congrArg some (by kernel_rfl))
 f266:=Tryz.func166.trans (congrArg some (by kernel_rfl))
 t0:=CG
 a0:=EM
 z0:=Eb
 v0:=CW
 t3:=AW
 a3:=Cq
 z3:=BW
 v3:=Bp
 t4:=Br
 a4:=CI
 z4:=Ci
 v4:=BC
 t5:=Ba
 a5:=Db
 z5:=CH
 v5:=BN
 t9:=AK
 a9:=Cr
 z9:=BX
 v9:=Bq
 t21:=Ms
 a21:=Tryz.isAgg21
 z21:=Tryz.sizeOf21
 v21:=Nj
 t46:=CB
 a46:=Ek
 z46:=DK
 v46:=CP
 t105:=Tryz.underlying292
 a105:=Tryz.isAgg292
 z105:=Tryz.sizeOf292
 v105:=Tryz.zeroValue292
 t116:=Tryz.underlying278
 a116:=Tryz.isAgg278
 z116:=Tryz.sizeOf278
 t117:=Tryz.underlying279
 a117:=Tryz.isAgg279
 z117:=Tryz.sizeOf279
 v117:=Tryz.zeroValue279
 t119:=Tryz.underlying221
 a119:=Tryz.isAgg221
 z119:=Tryz.sizeOf221
 t124:=Tryz.underlying282
 a124:=Tryz.isAgg282
 z124:=Tryz.sizeOf282
 v124:=Tryz.zeroValue282
 t138:=Tryz.underlying322
 a138:=Tryz.isAgg322
 z138:=Tryz.sizeOf322
 v138:=Tryz.zeroValue322
 t139:=Tryz.underlying323
 a139:=Tryz.isAgg323
 z139:=Tryz.sizeOf323
 v139:=Tryz.zeroValue323
 g3:=by kernel_rfl
 g4:=by kernel_rfl }
end Go.Proofs
namespace Go.Proofs.YtoppdmlmhigogaaGreatDoor
open Go.ChangeShapes Go.WideShapes Go.ChangeAt Go.RowKit
theorem UW(s:ByteArray)(w:Ab)(hs:s.size<=9223372036854775807) :
  Ag Aa 126 #[.string s] w fun e w'=>e=.returned (.string ⟨(txt ((Ai s).map fz)).toArray⟩)/\Hid (Blw w w'):=by
 obtain⟨zs,hc,hb,ht,hl⟩:=VN s w;have H0:Hid (JT (w.drew.alloc (.cells (zs.map (AL .u8)).toArray 5 (zs.length,zs.length+1))) w.heap.size zs/\FSt (Ai s) zs 0/\Blw w (w.drew.alloc (.cells (zs.map (AL .u8)).toArray 5 (zs.length,zs.length+1)))):=by
  refine⟨hb,FSt.zero (by rw[Av];exact ht) (by rw[Av];exact hl),(Ae _ _).drew.alloc (Ad _) _⟩
 have HLn:Hid (zs.length=zs.length):=rfl;clear hb ht;go_enter Tryz.func126,Tryz.ntmps126;generalize hzl:zs.length=C at*;have HZ:Hid (zs.length=C):=hzl;clear hzl;generalize (w.drew.alloc (.cells (zs.map (AL .u8)).toArray 5 (C,C+1)))=W0 at*;go_wp2_with fail;go_loopw [10] (fun x wr=>∃k:Nat,k<=s.size/\x=.int .i64 k/\Hid (∃ys,ys.length=C/\JT wr w.heap.size ys/\FSt (Ai s) ys k)/\Hid (Blw w wr)) (fun x _=>s.size - (intOf x).toNat)
 case atStart=>exact⟨0,Aw _,rfl,⟨zs,HZ.out,H0.out.1,H0.out.2.1⟩,H0.out.2.2⟩
 case round=>
  obtain⟨k,hk,rfl,HW,HB⟩:=hrel;clear H0 hc;by_cases hlt:k<s.size
  ·have hlt':(k:Int)<(s.size:Int):=by omega
   obtain⟨ys,e1,e2,e3⟩:=HW.out;have hcell:=e2.cell k (by omega);have hfr:=e2.frozen k (by omega);have hv:=e3.2 k (by rw[Av];exact hlt);rw[if_neg (by omega)]at hv;rw[hv]at hcell;have hbd:=Lf s k;have HY:Hid (ys.length=C/\JT wr w.heap.size ys/\FSt (Ai s) ys k):=⟨e1,e2,e3⟩;have HK:Hid (k<(Ai s).length):=(show k<_ by rw[Av];exact hlt);have HF:Hid (fz ((Ai s).getD k 0)=if 65<=(Ai s).getD k 0/\(Ai s).getD k 0<=90 then(Ai s).getD k 0+32 else(Ai s).getD k 0):=(show _=_ from rfl);have HS1:Hid (fz ((Ai s).getD k 0)=(Ai s).getD k 0->FSt (Ai s) ys (k+1)):=fun h=>e3.same h
   have HS2:Hid (FSt (Ai s) (ys.set k (fz ((Ai s).getD k 0))) (k+1)):=e3.set HK.out;clear e1 e2 e3 hv;generalize (Ai s).getD k 0=z at*;by_cases hu:65<=z/\z<=90
   ·have hz1:fz z=z+32:=by rw[HF.out,if_pos hu]
    rw[hz1]at HS2;have HB3:Hid (JT (wr.setCell ⟨w.heap.size,k,none⟩ (.int .u8 (z+32))) w.heap.size (ys.set k (z+32))/\Blw w (wr.setCell ⟨w.heap.size,k,none⟩ (.int .u8 (z+32)))):=⟨HY.out.2.1.stored k _ (by omega),HB.out.setCell (Ad _) _⟩;clear hz1;go_wp2;rw[show z - 65+97=z+32 by omega];refine⟨⟨k+1,by omega,by go_num,⟨_,?_,HB3.out.1,HS2.out⟩,HB3.out.2⟩,by simp[intOf];omega⟩;rw[List.length_set];exact HY.out.1
   ·have hz1:fz z=z:=by rw[HF.out,if_neg hu]
    have HS3:Hid (FSt (Ai s) ys (k+1)):=HS1.out hz1;clear hz1 HS1 HS2;have hor:z<65∨90<z:=by omega
    clear HF;obtain ho|ho:=hor
    all_goals
     go_wp2;exact⟨⟨k+1,by omega,by go_num,⟨ys,HY.out.1,HY.out.2.1,HS3.out⟩,HB.out⟩,by simp[intOf];omega⟩
  ·have hge:(s.size:Int)<=(k:Int):=by omega
   obtain⟨ys,e1,e2,e3⟩:=HW.out;have hks:k=s.size:=by omega
   have hd:ys.take s.size=(Ai s).map fz:=by
    have:=FSt.done (l:=Ai s) (zs:=ys) (by rw[Av,<- hks];exact e3);rw[Av]at this;exact this
   have hrd:=e2.rd s.size;rw[hd]at hrd;have hcv:=Hk (some ⟨w.heap.size,0,none⟩) s.size C ((Ai s).map fz) wr hrd (by rw[AS,Av]);clear hrd hd e1 e2 e3;go_wp2;go_ret;exact⟨rfl,HB.out⟩
end Go.Proofs.YtoppdmlmhigogaaGreatDoor
namespace Go.Proofs.YtoppdmlmhigogaaGreatDoor
open Go.ChangeShapes Go.WideShapes Go.ChangeAt Go.RowKit
abbrev dP:ByteArray:=⟨#[48,49,50,51,52,53,54,55,56,57]⟩
abbrev Vp:ByteArray:=⟨#[119,100,104,109,115]⟩
theorem pC(c:UInt8):dP.data.toList.contains c=CN (c.toNat:Int):=by
 have:∀c:Fin 256,dP.data.toList.contains (CS c.val)=CN ((CS c.val).toNat:Int):=by decide +kernel
 have h:=this ⟨c.toNat,c.toNat_lt⟩;simpa using h
def XA(s:ByteArray):ByteArray:=⟨(Lib.trimLeftS s.data.toList dP.data.toList).toArray⟩
theorem Tl(s:ByteArray):Ai (XA s)=VI (Ai s):=by
 rw[CR,CR];show bi (Lib.trimLeftS s.data.toList dP.data.toList)=_;unfold Lib.trimLeftS VI bi;rw[List.dropWhile_map];congr 2
 funext c
 exact pC c
theorem Yz(l:List Int):Xq l++VI l=l:=List.takeWhile_append_dropWhile
theorem iO(s:ByteArray)(k:Nat)(hk:k<=s.size):Ai (s.extract 0 k)=(Ai s).take k:=by
 rw[CR,CR];unfold bi;rw[<- List.map_take];congr 1
 simp
theorem nH(s:ByteArray):Ai (s.extract 0 (s.size - (XA s).size))=Xq (Ai s)/\(XA s).size<=s.size:=by
 have h1:(XA s).size=(VI (Ai s)).length:=by rw[<- Tl,Av]
 have h2:=congrArg FH (Yz (Ai s));rw[Af,Av]at h2;refine⟨?_,by omega⟩;rw[iO s _ (by omega)];conv=>lhs;arg 2;rw[<- Yz (Ai s)]
 rw[List.take_left' (by omega)]
theorem jJ(s:ByteArray):Ai (s.extract 1 s.size)=(Ai s).drop 1:=by
 rw[CR,CR];unfold bi;rw[<- List.map_drop];congr 1
 simp;try exact Al (by simp)
theorem dZ(c:UInt8):∀L:List UInt8,(plF c.toNat (bi L)=none/\Bu L c = -1)∨(∃p,plF c.toNat (bi L)=some p/\Bu L c=(p:Int)/\p<L.length)
 |[]=>.inl ⟨rfl,rfl⟩
 |b::L=>by
  by_cases h:b=c
  ·subst h;exact .inr ⟨0,by simp[bi,plF],by simp[Bu],by simp⟩
  ·have h1:¬ ((b.toNat:Int)=(c.toNat:Int)):=fun e=>h (u8i e)
   have h2:(b == c)=false:=by simpa using h
   obtain⟨a1,a2⟩|⟨p,a1,a2,a3⟩:=dZ c L
   ·left
    refine⟨?_,?_⟩
    ·rw[Hl];unfold plF;rw[if_neg h1,a1];rfl
    ·unfold Bu;rw[h2,a2];simp
   ·right
    refine⟨p+1,?_,?_,by simp;omega⟩
    ·rw[Hl];unfold plF;rw[if_neg h1,a1];rfl
    ·unfold Bu;rw[h2,a2];have:((p:Int) == -1)=false:=by rw[beq_eq_false_iff_ne];omega
     simp[this]
theorem qJ(f:Nat)(hf:f<=5):bi (Vp.extract f 5).data.toList=cS.drop f/\(Vp.extract f 5).data.toList.length=5 - f:=by
 obtain rfl|rfl|rfl|rfl|rfl|rfl:=(by omega:f=0∨f=1∨f=2∨f=3∨f=4∨f=5) <;> exact⟨by decide +kernel,by decide +kernel⟩
def PlO(c:UInt8)(f:Nat)(i:Int):Prop:=(plF c.toNat (cS.drop f)=none/\i = -1)∨(∃p:Nat,plF c.toNat (cS.drop f)=some p/\i=p/\f+p<=4)
theorem yD(c:UInt8)(f:Nat)(hf:f<=5):PlO c f (Bu (Vp.extract f 5).data.toList c):=by
 obtain⟨h1,h2⟩:=qJ f hf;obtain⟨a1,a2⟩|⟨p,a1,a2,a3⟩:=dZ c (Vp.extract f 5).data.toList
 ·exact .inl ⟨by rw[<- h1];exact a1,a2⟩
 ·exact .inr ⟨p,by rw[<- h1];exact a1,a2,by omega⟩
theorem cL {k : Nat} {l : List Int} {f al : Nat} (hl : l ≠ []) : Nz (k + 1) l f al = (GM (Xq l)).bind fun n => match VI l with
      | [] => none
      | c :: t => (plF c (cS.drop f)).bind fun p => Nz k t (f + p + 1) (al + n * Xt.getD (f + p) 0) := by
  cases l with
  | nil => exact absurd rfl hl
  | cons a l => rfl
theorem lW(p:Nat)(h:p<=4):Xt.getD p 0<=604800:=by
 obtain rfl|rfl|rfl|rfl|rfl:=(by omega:p=0∨p=1∨p=2∨p=3∨p=4) <;> decide
theorem gM(p:Nat)(h:p<=4):Uz.getD p 0=((Xt.getD p 0:Nat):Int):=by
 obtain rfl|rfl|rfl|rfl|rfl:=(by omega:p=0∨p=1∨p=2∨p=3∨p=4) <;> decide
theorem dB{w:Ab}(hE:Cc w)(p:Nat)(h:p<=4):w.cell? ⟨6,p,none⟩=some (.int .u64 ((Xt.getD p 0:Nat):Int)):=by
 rw[hE.2.2.1.2.cell vD p (by simp;omega),gM p h]
theorem Tk(n:Nat)(hn:n<18446744073709551616)(w:Ab):Ag Aa 199 #[.int .u64 (n:Int)] w fun e w'=>e=.returned (.bool (decide (n<2147483648)))/\w'=w:=by
 by_cases h:n<2147483648
 focus
  have h':(n:Int)<2147483648:=by omega
 rotate_left
 focus
  have h':¬ (n:Int)<2147483648:=by omega
 rotate_left
 all_goals
  go_enter Tryz.func199,Tryz.ntmps199;go_wp2_with fail;go_ret;exact⟨by simp[h],rfl⟩
theorem kF(s:ByteArray)(w:Ab):Ag Aa 223 #[.string s,.string dP] w fun e w'=>e=.returned (.string (XA s))/\Hid (Blw w w'):=
 (Any.strings_TrimLeft_laid Tryz.lays161 (by kernel_rfl) s dP w (by decide) (ascii_of_all (by decide))).mono fun e w' h=>h
theorem uT(f:Nat)(hf:f<=5)(w:Ab):(Instr.slice 9 (.string ⟨#[119,100,104,109,115]⟩) (some (.int .i64 (f:Int))) none none).run Aa w=.ok (.string (Vp.extract f 5)) w:=by
 obtain rfl|rfl|rfl|rfl|rfl|rfl:=(by omega:f=0∨f=1∨f=2∨f=3∨f=4∨f=5) <;> (clear hf;show Sem.run _ _ _=Result.ok _ _;kernel_rfl)
theorem sK(f:Nat)(hf:f<=5)(w:Ab):(Instr.sliceAt 9 (.string ⟨#[119,100,104,109,115]⟩) (some (.int .i64 (f:Int))) none none).run Aa w=.ok (.string (Vp.extract f 5)) w:=by
 obtain rfl|rfl|rfl|rfl|rfl|rfl:=(by omega:f=0∨f=1∨f=2∨f=3∨f=4∨f=5) <;> (clear hf;show Sem.run _ _ _=Result.ok _ _;kernel_rfl)
def wF(o:Option (Nat × Nat))(w:Ab)(e:Ending)(w':Ab):Prop:=
 ∃(n:Nat) (b:Bool),e=.returned (.tuple #[.int .u32 (n:Int),.bool b])/\Hid ((b=true->((o.bind fun p=>if 0<p.1/\p.2<2147483648 then some p.2 else none)=some n))/\(b=false->(o.bind fun p=>if 0<p.1/\p.2<2147483648 then some p.2 else none)=none))/\Hid (Blw w w')
def SmI(S:ByteArray)(s:ByteArray)(f al:Nat):Prop:=f<=5/\s.size<=S.size/\al<=f*1298801745100800/\∃k,6<=k+f/\Nz 6 (Ai S) 0 0=Nz k (Ai s) f al
def szS:Ao->Nat
 | .string t=>t.size
 |_=>0
theorem nA(S:ByteArray)(hs:S.size<=281474976710656)(w:Ab)(hE:Cc w)(hL:Bk w):Ag Aa 211 #[.string S] w (wF (Nz 6 (Ai S) 0 0) w):=by
 have HE:Hid (Cc w/\Bk w):=⟨hE,hL⟩;have HS:=Ac hs;have H0:Hid (SmI S S 0 0):=⟨by omega,Ad _,by omega,6,by omega,rfl⟩;go_enter Tryz.func211,Tryz.ntmps211;go_wp2_with fail;go_loopw [0,4,5] (fun vs va vf wr=>∃(s:ByteArray) (f al:Nat),vs=.string s/\va=.int .u64 (al:Int)/\vf=.int .i64 (f:Int)/\Hid (SmI S s f al)/\Hid (Blw w wr)) (fun vs _ _ _=>szS vs)
 case atStart=>exact⟨S,0,0,rfl,rfl,rfl,H0.out,Ae _ _⟩
 case round=>
  obtain⟨s,f,al,rfl,rfl,rfl,HI,HB⟩:=hrel;have hf5:=HI.out.1;have hal:al<=7000000000000000:=by have:=HI.out.2.2.1;omega
  have hss:s.size<=281474976710656:=by have:=HI.out.2.1;have:=HS.out;omega
  by_cases h0:s.data.toList=[]
  ·have e:=OV h0;subst e;have KF:=Ac (fun W=>Tk al (by omega) W);have HQ:Hid (Nz 6 (Ai S) 0 0=some (f,al)):=by
    obtain⟨k,hk,e⟩:=HI.out.2.2.2;show _=_;rw[e];cases k <;> rfl
   by_cases hf:f=0
   ·subst hf;go_wp2_with fail;go_ret2;refine⟨_,false,rfl,⟨fun h=>by (cases h),fun _=>by rw[HQ.out];rfl⟩,HB.out⟩
   ·have hf1:(0:Int)<(f:Int):=by omega
    by_cases ha:al<2147483648
    ·have hd:=decide_eq_true ha;rw[hd]at KF;have ha2:al<4294967296:=by omega
     go_wp2_with fail;refine(KF.out _).mono ?_;rintro e W ⟨rfl,rfl⟩;go_wp2_with fail;go_ret2;refine⟨al,true,rfl,⟨fun _=>?_,fun h=>by (cases h)⟩,HB.out⟩;rw[HQ.out];show(if _ then _ else _)=_;rw[if_pos ⟨by omega,ha⟩]
    ·have hd:=decide_eq_false ha;rw[hd]at KF;go_wp2_with fail;refine(KF.out _).mono ?_;rintro e W ⟨rfl,rfl⟩;go_wp2_with fail;go_ret2;refine⟨al % 4294967296,false,?_,⟨fun h=>by (cases h),fun _=>?_⟩,HB.out⟩
     ·rw[show((al % 4294967296:Nat):Int)=(al:Int) % 4294967296 from by omega];first|rfl|(rw[IntKind.wrap_u32])
     ·rw[HQ.out];show(if _ then _ else _)=_;rw[if_neg (by omega)]
  ·have hne:(s.toList == [])=false:=by
    rw[beq_eq_false_iff_ne,Lib.toList_data];exact h0
   have hln:Ai s≠[]:=by
    intro e;apply h0
    rw[CR]at e;have:=congrArg FH e;rw[OW]at this;exact Aq.1 (by simpa using this)
   have KT:=Ac (fun W=>kF s W);have KN:=Ac (fun W (hW:Blw w W)=>TK (s.extract 0 (s.size - (XA s).size)) (by simp;omega) W (HE.out.1.below hW));obtain⟨hx1,hx2⟩:=nH s;have HX:=Ac hx1;have HA:=Ac (Tl s);have HST:Hid (∃k,6<=k+1+f/\Nz 6 (Ai S) 0 0=(GM (Xq (Ai s))).bind fun n=>match VI (Ai s) with
     |[]=>none
     |c::t=>(plF c (cS.drop f)).bind fun p=>Nz k t (f+p+1) (al+n*Xt.getD (f+p) 0)):=by
    obtain⟨k,hk,e⟩:=HI.out.2.2.2;obtain⟨k,rfl⟩:∃j,k=j+1:=⟨k - 1,by omega⟩;exact⟨k,by omega,by rw[e,cL hln]⟩
   generalize XA s=bh at*;generalize hex:s.extract 0 (s.size - bh.size)=dg at*;have hsub:(s.size:Int) - (bh.size:Int)=((s.size - bh.size:Nat):Int):=by omega
   generalize hsd:s.size - bh.size=sd at*;go_wp2_with fail;refine(KT.out _).mono ?_;rintro e w1 ⟨rfl,H1⟩;have HB1:=Ac (HB.out.trans (H1.out.mono HB.out.size));go_wp2_with fail;try rw[hex]
   refine(KN.out _ HB1.out).mono ?_;rintro e w2 ⟨n,b,rfl,Hn,H8,H2⟩;have HB2:=Ac (HB1.out.trans (H2.out.mono HB1.out.size));have hn:=Hn.out;cases b with
   |false=>
    go_wp2_with fail;go_ret2;refine⟨0,false,rfl,⟨fun h=>by (cases h),fun _=>?_⟩,HB2.out⟩;obtain⟨k,hk,e⟩:=HST.out;rw[e,<- HX.out,H8.out.2 (by simp)];rfl
   |true=>
    by_cases hb0:bh.data.toList=[]
    ·have e:=OV hb0;subst e;go_wp2_with fail;go_ret2;refine⟨0,false,rfl,⟨fun h=>by (cases h),fun _=>?_⟩,HB2.out⟩;obtain⟨k,hk,e⟩:=HST.out;rw[e,<- HX.out,H8.out.1 (by simp),<- HA.out];rfl
    ·have hbe:(bh.toList == [])=false:=by
      rw[beq_eq_false_iff_ne,Lib.toList_data];exact hb0
     have hb1:0<bh.size:=by have:=Of hb0;omega
     have hb1':(0:Int)<(bh.size:Int):=by omega
     have HAF:Hid (VI (Ai s)=(bh[0].toNat:Int)::Ai (bh.extract 1 bh.size)):=by
      show _=_;rw[<- HA.out,jJ];exact EW bh 0 hb1
     have HPL:=Ac (yD bh[0] f hf5);have KI:=Ac (fun W=>Tryz.strings_IndexByte (Vp.extract f 5) ((bh[0].toNat:Nat):Int) W);have hub:(((bh[0].toNat:Nat):Int).toNat.toUInt8)=bh[0]:=by simp
     rw[hub]at KI;have hc255:=bh[0].toNat_lt;have hsl:=fun W=>uT f hf5 W
     have hsa:=fun W=>sK f hf5 W
     generalize hle:Vp.extract f 5=le at*;generalize Bu le.data.toList bh[0]=ix at*;go_wp2_with fail
     go_quiet (first
      |(go_at_call 172;exact Calls.quiet_of_same (KI.out _)))
     obtain⟨hp,hix⟩|⟨p,hp,hix,hfp⟩:=HPL.out
     ·subst hix;go_wp2_with fail;go_ret2;refine⟨0,false,rfl,⟨fun h=>by (cases h),fun _=>?_⟩,HB2.out.trans ⟨rfl,rfl,rfl,Ad _,fun _ _=>rfl⟩⟩;obtain⟨k,hk,e⟩:=HST.out;rw[e,<- HX.out,H8.out.1 (by simp),HAF.out];simp[hp]
     ·subst hix;have HP:=Ac hp;have hlc:=dB (HE.out.1.below HB2.out) (f+p) hfp;have hL0:=lW (f+p) hfp;have HLN:Hid (∃L,L=Xt.getD (f+p) 0):=⟨_,rfl⟩;obtain⟨L,hLL⟩:=HLN.out;rw[<- hLL]at hlc hL0;have HLL:=Ac hLL;obtain⟨Mm,hMm⟩:∃Mm,Mm=n*L:=⟨_,rfl⟩;have HMm:Hid (Mm=n*L):=hMm;have hMb:Mm<=1298801745100800:=by rw[hMm];exact Aj (Nat.mul_le_mul hn hL0) (by decide)
      have hmul:(n:Int)*(L:Int)=(Mm:Int):=by rw[hMm,Int.natCast_mul]
      have hwr:LL.wrap ((n:Int)*(L:Int))=(Mm:Int):=by rw[hmul,MN];omega
      have hfp0:(f:Int)+(p:Int)<5:=by omega
      have hfp1:(f:Int)+(p:Int)<=4:=by omega
      have hpn:¬ (p:Int)<0:=by omega
      have hnw:n<4294967296:=by omega
      clear hLL hMm hp;go_wp2_with fail;refine⟨⟨bh.extract 1 bh.size,f+p+1,al+Mm,rfl,?_,?_,?_,HB2.out.trans ⟨rfl,rfl,rfl,Ad _,fun _ _=>rfl⟩⟩,?_⟩
      ·first|rfl|(congr 1;omega)
      ·first|rfl|(congr 1;omega)
      ·obtain⟨k,hk,e⟩:=HST.out;refine⟨by omega,?_,?_,k,by omega,?_⟩
       ·have:=HI.out.2.1;simp;omega
       ·have:=HI.out.2.2.1;have h9:(f+p+1)*1298801745100800=(f+p)*1298801745100800+1298801745100800:=by rw[Nat.succ_mul]
        have h8:f*1298801745100800<=(f+p)*1298801745100800:=Nat.mul_le_mul_right _ (by omega);omega
       ·rw[e,<- HX.out,H8.out.1 (by simp),HAF.out];simp only[BL];rw[HP.out];simp only[BL];rw[<- HLL.out,<- HMm.out]
      ·simp[szS];omega
def yG(o:Option Nat)(w:Ab)(e:Ending)(w':Ab):Prop:=
 ∃(n:Nat) (b:Bool),e=.returned (.tuple #[.int .u32 (n:Int),.bool b])/\Hid ((b=true->o=some n)/\(b=false->o=none))/\Hid (Blw w w')
theorem Wu(s:ByteArray)(hs:s.size<=281474976710656)(w:Ab)(hE:Cc w)(hL:Bk w):Ag Aa 194 #[.string s] w (yG (Jr s) w):=by
 have KN:=Ac (TK s hs w hE);have KF:Hid (∀W,Ag Aa 126 #[.string s] W fun e w'=>e=.returned (.string (EK s))/\Hid (Blw W w')):=fun W=>UW s W (by omega)
 have KS:Hid (∀W,Blw w W->Ag Aa 211 #[.string (EK s)] W (wF (Nz 6 (Ai (EK s)) 0 0) W)):=fun W hW=>nA (EK s) (by rw[RJ];exact hs) W (hE.below hW) (hL.below hW)
 have HT:Hid (∀n,GM (Ai s)=some n->Jr s=some n):=fun n h=>by unfold Jr;rw[h]
 have HT2:Hid (GM (Ai s)=none->Jr s=(Nz 6 (Ai (EK s)) 0 0).bind fun p=>if 0<p.1/\p.2<2147483648 then some p.2 else none):=fun h=>by unfold Jr;rw[h]
 generalize EK s=fs at*;generalize Jr s=tf at*;go_enter Tryz.func194,Tryz.ntmps194;go_wp2_with fail;refine KN.out.mono ?_;rintro e w1 ⟨n,b,rfl,Hn,H8,HB⟩;cases b with
 |true=>
  have HR:=Ac (HT.out n (H8.out.1 rfl));go_wp2_with fail;go_ret2;exact⟨n,true,rfl,⟨fun _=>HR.out,fun h=>by (cases h)⟩,HB.out⟩
 |false=>
  have HR:=Ac (HT2.out (H8.out.2 rfl));go_wp2_with fail;refine(KF.out _).mono ?_;rintro e w2 ⟨rfl,H2⟩;have HB2:=Ac (HB.out.trans (H2.out.mono HB.out.size));go_wp2_with fail;refine(KS.out _ HB2.out).mono ?_;rintro e w3 ⟨m,b,rfl,H9,H3⟩;have HB3:=Ac (HB2.out.trans (H3.out.mono HB2.out.size));go_wp2_with fail;go_ret2;exact⟨m,b,rfl,⟨fun h=>by rw[HR.out];exact H9.out.1 h,fun h=>by rw[HR.out];exact H9.out.2 h⟩,HB3.out⟩
def TtO(o:Option Nat)(w:Ab)(e:Ending)(w':Ab):Prop:=
 ∃(n:Nat) (er:Int),e=.returned (.tuple #[.int .u32 (n:Int),.int .i64 er])/\Hid ((er=0/\o=some n)∨(er=240/\o=none/\n=0))/\Hid (Blw w w')
theorem ZO(s:ByteArray)(hs:s.size<=281474976710656)(w:Ab)(hE:Cc w)(hL:Bk w):Ag Aa 159 #[.string s] w (TtO (Jr s) w):=by
 have K:=Ac (Wu s hs w hE hL);generalize Jr s=tf at*;go_enter Tryz.func159,Tryz.ntmps159;go_wp2_with fail;refine K.out.mono ?_;rintro e w1 ⟨n,b,rfl,H8,HB⟩;cases b with
 |true=>
  have HR:=Ac (H8.out.1 rfl);go_wp2_with fail;go_ret2;exact⟨n,0,rfl,.inl ⟨rfl,HR.out⟩,HB.out⟩
 |false=>
  have HR:=Ac (H8.out.2 rfl);go_wp2_with fail;go_ret2;exact⟨0,240,rfl,.inr ⟨rfl,HR.out,rfl⟩,HB.out⟩
structure Ws(w:Ab)(x:Sl)(ws:List Wd):Prop where
 n:x.n=ws.length
 c:ws.length<=x.c
 c63:x.c<=9223372036854775807
 rd:RdW w x.a ws
 wb:WB ws
theorem Ws.below{w w':Ab}{x:Sl}{ws:List Wd}(h:Ws w x ws)(hb:Blw w w'):Ws w' x ws:=⟨h.n,h.c,h.c63,h.rd.below hb,h.wb⟩
abbrev enV(x:Sl)(e:En):Ao:=.agg #[.int .i64 e.line,.bool e.blank,.slice x.a x.n x.c]
theorem VH(e:En)(h:WB e.ws):(Hs e).size<=1000000:=by
 unfold Hs;split
 ·exact Aw _
 ·split
  ·rename_i s r hs
   exact h.2 (s,false) (by rw[hs];simp)
  ·exact Aw _
theorem PC(x:Sl)(e:En)(w:Ab)(h:Ws w x e.ws):Ag Aa 127 #[enV x e] w fun r w'=>r=.returned (.string (Hs e))/\Hid (Blw w w'):=by
 obtain⟨ln,bl,ws⟩:=e;obtain⟨a,n,c⟩:=x;have HN:Hid (n=ws.length):=h.n;have hrd:RdW w a ws:=h.rd;have HB:Hid (Blw w (w.alloc (.cells #[.int .i64 ln,.bool bl,.slice a n c] 120))):=(Ae _ _).alloc (Ad _) _;clear h;cases bl with
 |true=>
  have HO:Hid (Hs ⟨ln,true,ws⟩=⟨#[]⟩):=rfl;rw[HO.out];go_enter Tryz.func127,OR;go_wp2_with fail;go_ret;exact⟨rfl,HB.out⟩
 |false=>
  cases ws with
  |nil=>
   have HO:Hid (Hs ⟨ln,false,[]⟩=⟨#[]⟩):=rfl;rw[HO.out];have hn:n=0:=HN.out;subst hn;go_enter Tryz.func127,OR;go_wp2_with fail;go_ret;exact⟨rfl,HB.out⟩
  |cons p r=>
   obtain⟨s,q⟩:=p;obtain⟨b,o,rfl,hb,c1,c2,-⟩:=hrd.head;have hn0:¬ (n:Int)=0:=by have:=HN.out;simp at this;omega
   have hn1:((n:Int) == 0)=false:=by rw[beq_eq_false_iff_ne];exact hn0
   have hn2:(0:Int)<(n:Int):=by omega
   have hne:¬ w.heap.size=b:=by omega
   have hne2:¬ b=w.heap.size:=by omega
   clear hrd;cases q with
   |true=>
    have HO:Hid (Hs ⟨ln,false,(s,true)::r⟩=⟨#[]⟩):=rfl;rw[HO.out];go_enter Tryz.func127,OR;go_wp2_with fail;go_ret;exact⟨rfl,HB.out⟩
   |false=>
    have HO:Hid (Hs ⟨ln,false,(s,false)::r⟩=s):=rfl;rw[HO.out];go_enter Tryz.func127,OR;go_wp2_with fail;go_ret;exact⟨rfl,HB.out⟩
theorem VP(x:Sl)(e:En)(w:Ab)(h:Ws w x e.ws):Ag Aa 85 #[enV x e] w fun r w'=>r=.returned (.string (EK (Hs e)))/\Hid (Blw w w'):=by
 have HB:Hid (Blw w (w.alloc (.cells #[.int .i64 e.line,.bool e.blank,.slice x.a x.n x.c] 120))):=(Ae _ _).alloc (Ad _) _;have KO:=Ac (PC x e _ (h.below HB.out));have KF:=Ac (fun W=>UW (Hs e) W (by have:=VH e h.wb;omega));obtain⟨F,hF⟩:∃F,EK (Hs e)=F:=⟨_,rfl⟩;have e1:(⟨(txt ((Ai (Hs e)).map fz)).toArray⟩:ByteArray)=F:=hF;rw[e1]at KF;rw[hF];clear hF e1 h;generalize Hs e=op at*;obtain⟨ln,bl,ws⟩:=e;go_enter Tryz.func85,Tryz.ntmps85;go_wp2_with fail;refine KO.out.mono ?_;rintro e w1 ⟨rfl,H1⟩;have HB1:Hid (Blw w w1):=HB.out.trans (H1.out.mono HB.out.size);clear KO H1;go_wp2_with fail;refine(KF.out _).mono ?_;rintro e w2 ⟨rfl,H2⟩;have HB2:Hid (Blw w w2):=HB1.out.trans (H2.out.mono HB1.out.size);clear KF H2;go_wp2_with fail;go_ret;exact⟨rfl,HB2.out⟩
theorem XJ(e:En):Lib.hasPrefix (Hs e).data.toList [36]=FF e:=by
 unfold FF Lib.hasPrefix;rw[CR];generalize (Hs e).data.toList=l;cases l with
 |nil=>rfl
 |cons c r=>
  rw[Hl];simp only[FE,Bool.and_true,List.head?_cons];by_cases h:c=36
  ·subst h;rfl
  ·have h2:¬ ((c.toNat:Int)=36):=fun e=>h (u8i e)
   have h3:((36:UInt8) == c)=false:=by rw[beq_eq_false_iff_ne];exact fun e=>h e.symm
   rw[h3];symm;rw[beq_eq_false_iff_ne];intro e;injection e with e
   exact h2 e
theorem XO(x:Sl)(e:En)(w:Ab)(h:Ws w x e.ws):Ag Aa 160 #[enV x e] w fun r w'=>r=.returned (.bool (FF e))/\Hid (Blw w w'):=by
 have HB:Hid (Blw w (w.alloc (.cells #[.int .i64 e.line,.bool e.blank,.slice x.a x.n x.c] 120))):=(Ae _ _).alloc (Ad _) _;have KO:=Ac (PC x e _ (h.below HB.out));have KP:=Ac (fun W=>Tryz.strings_HasPrefix (Hs e) ⟨#[36]⟩ W);rw[XJ e]at KP;clear h;generalize Hs e=op at*;generalize FF e=mk at*;obtain⟨ln,bl,ws⟩:=e;go_enter Tryz.func160,Tryz.ntmps160;go_wp2_with fail;refine KO.out.mono ?_;rintro e w1 ⟨rfl,H1⟩;have HB1:Hid (Blw w w1):=HB.out.trans (H1.out.mono HB.out.size);clear KO H1;go_wp2_with fail;refine(KP.out _).mono ?_;rintro e w2 ⟨rfl,hw⟩;subst w2;clear KP;go_wp2_with fail;go_ret;exact⟨rfl,HB1.out⟩
theorem pG{s:ByteArray}(h:s.data.toList=[]):isT s=false:=by
 unfold isT;rw[CR,h];rfl
theorem tZ{s:ByteArray}(h:0<s.size):isT s=CN (s[0].toNat:Int):=by
 unfold isT;have:=EW s 0 h;rw[List.drop_zero]at this;rw[this]
theorem pP(s:ByteArray)(w:Ab):Ag Aa 212 #[.string s] w fun e w'=>e=.returned (.bool (isT s))/\w'=w:=by
 by_cases h0:s.data.toList=[]
 focus
  have e:=OV h0;rw[pG h0];subst e
 rotate_left
 focus
  have hne:(s.toList == [])=false:=by rw[beq_eq_false_iff_ne,Lib.toList_data];exact h0
  have h1:0<s.size:=by have:=Of h0;omega
  have h1':(0:Int)<(s.size:Int):=by omega
  rw[tZ h1];clear h0;by_cases ha:48<=s[0].toNat
  focus
   have ha':(48:Int)<=(s[0].toNat:Int):=by omega
   by_cases hb:s[0].toNat<=57
   focus
    have hb':(s[0].toNat:Int)<=57:=by omega
    have e:CN (s[0].toNat:Int)=true:=by unfold CN;simp;omega
   rotate_left
   focus
    have hb':¬ (s[0].toNat:Int)<=57:=by omega
    have e:CN (s[0].toNat:Int)=false:=by unfold CN;simp;omega
   rotate_left
  rotate_left 2
  focus
   have ha':¬ (48:Int)<=(s[0].toNat:Int):=by omega
   have e:CN (s[0].toNat:Int)=false:=by unfold CN;simp;omega
  rotate_left
  all_goals
   rw[e]
 rotate_left 3
 all_goals
  go_enter Tryz.func212,Tryz.ntmps212;go_wp2_with fail;go_ret;exact⟨rfl,rfl⟩
theorem Qp{o:Option Nat}{x y:Int}(h:Res o x y):(o.isSome=true/\y=0/\∃n:Nat,o=some n/\x=n)∨(o.isSome=false/\y=6/\x=0/\o=none):=by
 cases o with
 |none=>exact .inr ⟨rfl,(h.2 rfl).2,(h.2 rfl).1,rfl⟩
 |some n=>exact .inl ⟨rfl,(h.1 n rfl).2,n,rfl,(h.1 n rfl).1⟩
theorem nC(s:ByteArray)(hs:s.size<=1000000)(w:Ab)(hL:Bk w)(hE:Cc w):Ag Aa 213 #[.string s] w fun e w'=>e=.returned (.bool (isC s))/\Hid (Blw w w'):=by
 have KT:Hid (∀W,Blw w W->Ag Aa 224 #[.string s] W fun e w'=>∃x y,e=.returned (.tuple #[.int .u16 x,.int .i64 y])/\Hid (Res (tyF s) x y)/\Hid (Blw W w')):=fun W hW=>Tv s (by omega) W (hL.below hW) (hE.below hW)
 have HI:Hid (isC s=((clF s).isSome && (tyF s).isNone)):=rfl;have KC:Hid (Ag Aa 214 #[.string s] w fun e w'=>∃x y,e=.returned (.tuple #[.int .u16 x,.int .i64 y])/\Hid (Res (clF s) x y)/\Hid (Blw w w')):=QF s (by omega) w hL hE;clear hL hE;generalize isC s=ic at*;generalize clF s=oc at*;generalize tyF s=ot at*;go_enter Tryz.func213,Tryz.ntmps213;go_wp2_with fail;refine KC.out.mono ?_;rintro e w1 ⟨x,y,rfl,HR,HB⟩;clear KC;go_wp2_with fail;refine(KT.out _ HB.out).mono ?_;rintro e w2 ⟨x2,y2,rfl,HR2,HB2⟩;have HB3:Hid (Blw w w2):=HB.out.trans (HB2.out.mono HB.out.size);clear KT HB HB2;obtain⟨a1,rfl,-⟩|⟨a1,rfl,-⟩:=Qp HR.out
 ·obtain⟨a2,rfl,-⟩|⟨a2,rfl,-⟩:=Qp HR2.out
  focus
   have hic:ic=false:=by rw[HI.out,a1];cases ot <;> simp at a2 ⊢
  rotate_left
  focus
   have hic:ic=true:=by rw[HI.out,a1];cases ot <;> simp at a2 ⊢
  rotate_left
  all_goals
   subst hic;clear a1 a2 HR HR2 HI;go_wp2_with fail;go_ret;exact⟨rfl,HB3.out⟩
 ·have hic:ic=false:=by rw[HI.out,a1];rfl
  subst hic;clear a1 HR HR2 HI;go_wp2_with fail;go_ret;exact⟨rfl,HB3.out⟩
def Me(s:ByteArray):Nat × Int:=match tyF s with
 |some n=>if DP n then(n,0) else(n,6)
 |none=>(0,6)
theorem ZY(s:ByteArray)(hs:s.size<=1000000)(w:Ab)(hL:Bk w)(hE:Cc w):Ag Aa 215 #[.string s] w fun e w'=>e=.returned (.tuple #[.int .u16 ((Me s).1:Int),.int .i64 (Me s).2])/\Hid (Blw w w'):=by
 have KT:Hid (Ag Aa 224 #[.string s] w fun e w'=>∃x y,e=.returned (.tuple #[.int .u16 x,.int .i64 y])/\Hid (Res (tyF s) x y)/\Hid (Blw w w')):=Tv s (by omega) w hL hE;have HI:Hid (∀n,tyF s=some n->Me s=if DP n then(n,0) else(n,6)):=fun n h=>by unfold Me;rw[h]
 have HI2:Hid (tyF s=none->Me s=(0,6)):=fun h=>by unfold Me;rw[h]
 clear hL hE;generalize tyF s=ot at*;generalize Me s=st at*;go_enter Tryz.func215,Tryz.ntmps215;go_wp2_with fail;refine KT.out.mono ?_;rintro e w2 ⟨x2,y2,rfl,HR2,HB2⟩;clear KT;obtain⟨a2,rfl,n,hn,rfl⟩|⟨a2,rfl,rfl,hn⟩:=Qp HR2.out
 ·have hs:=HI.out n hn;have KS:=Ac (fun W=>RD (n:Int) W);cases hst:DP (n:Int) with
  |true=>
   rw[hst]at hs KS;simp only[if_true]at hs;subst hs;clear HI HI2 HR2 a2 hn hst;go_wp2_with fail;refine(KS.out _).mono ?_;rintro e W ⟨rfl,rfl⟩;go_wp2_with fail;go_ret2;exact⟨rfl,HB2.out⟩
  |false=>
   rw[hst]at hs KS;simp only[Bi,if_false]at hs;subst hs;clear HI HI2 HR2 a2 hn hst;go_wp2_with fail;refine(KS.out _).mono ?_;rintro e W ⟨rfl,rfl⟩;go_wp2_with fail;go_ret2;exact⟨rfl,HB2.out⟩
 ·have hs:=HI2.out hn;subst hs;clear HI HI2 HR2 a2 hn;go_wp2_with fail;go_ret2;exact⟨rfl,HB2.out⟩
def SyB(w:Ab)(b:Nat)(y:Say):Prop:=w.heap[b]?=some (.cells #[.int .u16 (y.k:Int),.int .u16 (y.c:Int),.int .u32 (y.t:Int),.bool y.hk,.bool y.hc,.bool y.ht] 198 (0,0))
theorem SyB.lt{w:Ab}{b:Nat}{y:Say}(h:SyB w b y):b<w.heap.size:=(As.1 h).1
theorem SyB.c0{w:Ab}{b:Nat}{y:Say}(h:SyB w b y):w.cell? ⟨b,0,none⟩=some (.int .u16 (y.k:Int)):=by unfold Az;rw[show w.heap[b]?=_ from h];rfl
theorem SyB.c1{w:Ab}{b:Nat}{y:Say}(h:SyB w b y):w.cell? ⟨b,1,none⟩=some (.int .u16 (y.c:Int)):=by unfold Az;rw[show w.heap[b]?=_ from h];rfl
theorem SyB.c2{w:Ab}{b:Nat}{y:Say}(h:SyB w b y):w.cell? ⟨b,2,none⟩=some (.int .u32 (y.t:Int)):=by unfold Az;rw[show w.heap[b]?=_ from h];rfl
theorem SyB.c3{w:Ab}{b:Nat}{y:Say}(h:SyB w b y):w.cell? ⟨b,3,none⟩=some (.bool y.hk):=by unfold Az;rw[show w.heap[b]?=_ from h];rfl
theorem SyB.c4{w:Ab}{b:Nat}{y:Say}(h:SyB w b y):w.cell? ⟨b,4,none⟩=some (.bool y.hc):=by unfold Az;rw[show w.heap[b]?=_ from h];rfl
theorem SyB.c5{w:Ab}{b:Nat}{y:Say}(h:SyB w b y):w.cell? ⟨b,5,none⟩=some (.bool y.ht):=by unfold Az;rw[show w.heap[b]?=_ from h];rfl
theorem SyB.fz{w:Ab}{b:Nat}{y:Say}(h:SyB w b y)(i:Nat):w.frozen? ⟨b,i,none⟩=false:=by
 unfold Dv;rw[show w.heap[b]?=_ from h];simp
theorem SyB.set0{w:Ab}{b:Nat}{y:Say}(h:SyB w b y)(n:Nat):SyB (w.setCell ⟨b,0,none⟩ (.int .u16 (n:Int))) b { y with k:=n }:=by
 have:=AD h 0 (.int .u16 (n:Int));simpa[SyB] using this
theorem SyB.set1{w:Ab}{b:Nat}{y:Say}(h:SyB w b y)(n:Nat):SyB (w.setCell ⟨b,1,none⟩ (.int .u16 (n:Int))) b { y with c:=n }:=by
 have:=AD h 1 (.int .u16 (n:Int));simpa[SyB] using this
theorem SyB.set2{w:Ab}{b:Nat}{y:Say}(h:SyB w b y)(n:Nat):SyB (w.setCell ⟨b,2,none⟩ (.int .u32 (n:Int))) b { y with t:=n }:=by
 have:=AD h 2 (.int .u32 (n:Int));simpa[SyB] using this
theorem SyB.set3{w:Ab}{b:Nat}{y:Say}(h:SyB w b y)(q:Bool):SyB (w.setCell ⟨b,3,none⟩ (.bool q)) b { y with hk:=q }:=by
 have:=AD h 3 (.bool q);simpa[SyB] using this
theorem SyB.set4{w:Ab}{b:Nat}{y:Say}(h:SyB w b y)(q:Bool):SyB (w.setCell ⟨b,4,none⟩ (.bool q)) b { y with hc:=q }:=by
 have:=AD h 4 (.bool q);simpa[SyB] using this
theorem SyB.set5{w:Ab}{b:Nat}{y:Say}(h:SyB w b y)(q:Bool):SyB (w.setCell ⟨b,5,none⟩ (.bool q)) b { y with ht:=q }:=by
 have:=AD h 5 (.bool q);simpa[SyB] using this
structure TS(w0 w1 w:Ab)(b bx:Nat)(y:Say)(s:ByteArray)(q:Bool):Prop where
 sy:SyB w b y
 bxh:w.heap[bx]?=some (.cells #[.string s,.bool q] 167 (0,0))
 bel:Below w0.heap.size w0 w
 bb:Below b w1 w
 hb:w0.heap.size<=b
 hx:b≠bx
theorem TS.b0{w0 w1 w:Ab}{b bx:Nat}{y:Say}{s:ByteArray}{q:Bool}(h:TS w0 w1 w b bx y s q):w.cell? ⟨bx,0,none⟩=some (.string s):=by unfold Az;rw[h.bxh];rfl
theorem TS.b1{w0 w1 w:Ab}{b bx:Nat}{y:Say}{s:ByteArray}{q:Bool}(h:TS w0 w1 w b bx y s q):w.cell? ⟨bx,1,none⟩=some (.bool q):=by unfold Az;rw[h.bxh];rfl
theorem TS.step{w0 w1 w w':Ab}{b bx:Nat}{y:Say}{s:ByteArray}{q:Bool}(h:TS w0 w1 w b bx y s q)(hb:Blw w w'):TS w0 w1 w' b bx y s q:=
 ⟨(hb.block _ h.sy.lt).trans h.sy,(hb.block _ (As.1 h.bxh).1).trans h.bxh,h.bel.trans (hb.mono h.bel.size),h.bb.trans (hb.mono (Nat.le_of_lt h.sy.lt)),h.hb,h.hx⟩
theorem TS.set{w0 w1 w:Ab}{b bx:Nat}{y y':Say}{s:ByteArray}{q:Bool}(h:TS w0 w1 w b bx y s q){i:Nat}{v:Ao}(hs:SyB (w.setCell ⟨b,i,none⟩ v) b y'):TS w0 w1 (w.setCell ⟨b,i,none⟩ v) b bx y' s q:=
 ⟨hs,(Ar _ _ _ bx (by show bx≠b;exact fun e=>h.hx e.symm)).trans h.bxh,h.bel.setCell (p:=⟨b,i,none⟩) h.hb _,h.bb.setCell (p:=⟨b,i,none⟩) (Ad _) _,h.hb,h.hx⟩
theorem uE(w:Ab)(b i:Nat)(v:Ao)(o:Obj)(hb:b<w.heap.size):(w.alloc o).setCell ⟨b,i,none⟩ v=(w.setCell ⟨b,i,none⟩ v).alloc o:=by
 first
 |exact World.setCell_alloc_past _ _ _ _ hb
 |simp[hb]
def yI(b:Nat)(r:Except Int Say)(w:Ab)(e:Ending)(w':Ab):Prop:=
 ∃er:Int,e=.returned (.int .i64 er)/\Hid (Below b w w')/\Hid ((er=0/\∃y',r=.ok y'/\SyB w' b y')∨(er≠0/\r=.error er/\∃y',SyB w' b y'))
theorem cB(s:ByteArray):(Me s).2=0∨(Me s).2=6:=by
 unfold Me;split
 ·split
  ·exact .inl rfl
  ·exact .inr rfl
 ·exact .inr rfl
theorem wA(y:Say)(s:ByteArray):tkF y (s,false)=if (y.ht && isT s)=true then .error 240 else if (y.hc && isC s)=true then .error 240 else if isT s=true then(match Jr s with|some n=>.ok { y with t:=n,ht:=true }|none=>.error 240)
  else if isC s=true then(match clF s with|some n=>.ok { y with c:=n,hc:=true }|none=>.error 6) else if (Me s).2=0 then .ok { y with k:=(Me s).1,hk:=true } else .error 6:=by
 unfold tkF;simp only[Bi,if_false];split
 ·rfl
 split
 ·rfl
 split
 ·rfl
 split
 ·rfl
 unfold Me;cases tyF s with
 |none=>simp
 |some n=>
  simp only;cases h:DP (n:Int) <;> simp
theorem lP (w0 w : Ab) (b : Nat) (y : Say) (s : ByteArray) (q : Bool) (hy : SyB w b y) (hb0 : w0.heap.size <= b) (h0 : Blw w0 w) (hs : s.size <= 1000000) (hL : Bk w0) (hE : Cc w0) :
    Ag Aa 196 #[.pointer (some ⟨b, 0, none⟩), .agg #[.string s, .bool q]] w (yI b (tkF y (s, q)) w) := by
  have HBX : Hid (Blw w (w.alloc (.cells #[.string s, .bool q] 167))) := (Ae _ _).alloc (Ad _) _;have HS : Hid (TS w0 w (w.alloc (.cells #[.string s, .bool q] 167)) b w.heap.size y s q) := ⟨(HBX.out.block _ hy.lt).trans hy, Au _ _, h0.trans (HBX.out.mono h0.size), HBX.out.mono (Nat.le_of_lt hy.lt), hb0, by have := hy.lt; omega⟩;obtain⟨k, c, t, hk, hc, ht⟩ := y;have hne : ¬ w.heap.size = b := by have := hy.lt; omega
  have hne2 : ¬ b = w.heap.size := fun e => hne e.symm
  have hlt := hy.lt;cases q with
  | true =>
    have HR : Hid (tkF ⟨k, c, t, hk, hc, ht⟩ (s, true) = .error 240) := rfl;rw [HR.out];clear hy h0 hL hE;go_enter Tryz.func196, Tryz.ntmps196;go_wp2_with fail;go_ret;exact⟨240, rfl, HS.out.bb, .inr ⟨by decide, rfl, _, HS.out.sy⟩⟩
  | false =>
    have KT : Hid (∀ W, Ag Aa 212 #[.string s] W fun e w' => e = .returned (.bool (isT s)) /\ w' = W) := fun W => pP s W
    have KC : Hid (∀ W, Blw w0 W -> Ag Aa 213 #[.string s] W fun e w' => e = .returned (.bool (isC s)) /\ Hid (Blw W w')) := fun W hW => nC s hs W (hL.below hW) (hE.below hW)
    have KS : Hid (∀ W, Blw w0 W -> Ag Aa 159 #[.string s] W (TtO (Jr s) W)) := fun W hW => ZO s (by omega) W (hE.below hW) (hL.below hW)
    have KP : Hid (∀ W, Blw w0 W -> Ag Aa 214 #[.string s] W fun e w' => ∃ x y, e = .returned (.tuple #[.int .u16 x, .int .i64 y]) /\ Hid (Res (clF s) x y) /\ Hid (Blw W w')) := fun W hW => QF s (by omega) W (hL.below hW) (hE.below hW)
    have KY : Hid (∀ W, Blw w0 W -> Ag Aa 215 #[.string s] W fun e w' => e = .returned (.tuple #[.int .u16 ((Me s).1 : Int), .int .i64 (Me s).2]) /\ Hid (Blw W w')) := fun W hW => ZY s hs W (hL.below hW) (hE.below hW)
    have HY := Ac (cB s);have HR := Ac (wA ⟨k, c, t, hk, hc, ht⟩ s);clear hy h0 hL hE;generalize tkF ⟨k, c, t, hk, hc, ht⟩ (s, false) = R at *;generalize isT s = tT at *;generalize isC s = cC at *;generalize Jr s = ot at *;generalize clF s = oc at *;generalize (Me s).1 = sy1 at *;generalize (Me s).2 = sy2 at *;cases ht <;> cases hc <;> cases tT <;> cases cC
    all_goals
      have k3 := HS.out.sy.c3;have k4 := HS.out.sy.c4;have k5 := HS.out.sy.c5;dsimp only at k3 k4 k5;have x0 := HS.out.b0;have x1 := HS.out.b1;have f0 := HS.out.sy.fz 0;have f1 := HS.out.sy.fz 1;have f2 := HS.out.sy.fz 2;have f3 := HS.out.sy.fz 3;have f4 := HS.out.sy.fz 4;have f5 := HS.out.sy.fz 5;go_enter Tryz.func196, Tryz.ntmps196;go_wp2_with (first | (go_at_call 212; refine(KT.out _).mono ?_; rintro e W ⟨rfl, rfl⟩) | (go_at_call 213; refine(KC.out _ HS.out.bel).mono ?_; rintro e w1 ⟨rfl, H1⟩; have HS := Ac (HS.out.step H1.out); have k3 := HS.out.sy.c3; have k4 := HS.out.sy.c4; have k5 := HS.out.sy.c5; dsimp only at k3 k4 k5; have x0 := HS.out.b0; have x1 := HS.out.b1; have f0 := HS.out.sy.fz 0; have f1 := HS.out.sy.fz 1; have f2 := HS.out.sy.fz 2; have f3 := HS.out.sy.fz 3; have f4 := HS.out.sy.fz 4; have f5 := HS.out.sy.fz 5));first
      | (go_ret
         exact⟨240, rfl, HS.out.bb, .inr ⟨by decide, by rw [HR.out]; rfl, _, HS.out.sy⟩⟩)
      | (have HS5 := Ac (HS.out.set (HS.out.sy.set3 true))
         refine(KY.out _ HS5.out.bel).mono ?_;rintro e w2 ⟨rfl, H2⟩;have HS := Ac (HS5.out.step H2.out);have f0 := HS.out.sy.fz 0;have g0 := HS.out.sy.c0;have HS7 := Ac (HS.out.set (HS.out.sy.set0 sy1));go_wp2_with fail;go_ret;refine⟨sy2, rfl, HS7.out.bb, ?_⟩;obtain h | h:=HY.out
         · exact .inl ⟨h, _, by rw [HR.out]; simp [h], HS7.out.sy⟩
         · exact .inr ⟨by omega, by rw [HR.out]; simp [h], _, HS7.out.sy⟩)
      | (have HS5 := Ac (HS.out.set (HS.out.sy.set4 true))
         refine(KP.out _ HS5.out.bel).mono ?_;rintro e w2 ⟨x, er, rfl, H8, H2⟩;have HS := Ac (HS5.out.step H2.out);have f1 := HS.out.sy.fz 1;have g1 := HS.out.sy.c1;obtain⟨-, rfl, n, h, rfl⟩ | ⟨-, rfl, rfl, h⟩:=Qp H8.out
         · have HO := Ac h;clear h H8;have HS7 := Ac (HS.out.set (HS.out.sy.set1 n));go_wp2_with fail;go_ret;exact⟨0, rfl, HS7.out.bb, .inl ⟨rfl, _, by rw [HR.out, HO.out]; rfl, HS7.out.sy⟩⟩
         · have HO := Ac h;clear h H8;have HS7 := Ac (HS.out.set (HS.out.sy.set1 0));go_wp2_with fail;go_ret;exact⟨6, rfl, HS7.out.bb, .inr ⟨by decide, by rw [HR.out, HO.out]; rfl, _, HS7.out.sy⟩⟩)
      | (have HS5 := Ac (HS.out.set (HS.out.sy.set5 true))
         refine(KS.out _ HS5.out.bel).mono ?_;rintro e w2 ⟨n, er, rfl, H8, H2⟩;have HS := Ac (HS5.out.step H2.out);have f2 := HS.out.sy.fz 2;have g2 := HS.out.sy.c2;have HS7 := Ac (HS.out.set (HS.out.sy.set2 n));go_wp2_with fail;go_ret;refine⟨er, rfl, HS7.out.bb, ?_⟩;obtain⟨rfl, h⟩ | ⟨rfl, h, -⟩:=H8.out
         · exact .inl ⟨rfl, _, by rw [HR.out, h]; rfl, HS7.out.sy⟩
         · exact .inr ⟨by decide, by rw [HR.out, h]; rfl, _, HS7.out.sy⟩)
      | (have HS5 : Hid (TS w0 w ((w.setCell ⟨b, 5, none⟩ (.bool true)).alloc (.cells #[.string s, .bool false] 167)) b w.heap.size ⟨k, c, t, hk, false, true⟩ s false) := by rw [<- uE w b 5 (.bool true) _ hlt]; exact HS.out.set (HS.out.sy.set5 true)
         refine(KS.out _ HS5.out.bel).mono ?_;rintro e w2 ⟨n, er, rfl, H8, H2⟩;have HS := Ac (HS5.out.step H2.out);have f2 := HS.out.sy.fz 2;have g2 := HS.out.sy.c2;have HS7 := Ac (HS.out.set (HS.out.sy.set2 n));go_wp2_with fail;go_ret;refine⟨er, rfl, HS7.out.bb, ?_⟩;obtain⟨rfl, h⟩ | ⟨rfl, h, -⟩:=H8.out
         · exact .inl ⟨rfl, _, by rw [HR.out, h]; rfl, HS7.out.sy⟩
         · exact .inr ⟨by decide, by rw [HR.out, h]; rfl, _, HS7.out.sy⟩)
abbrev syV(y:Say):Ao:=.agg #[.int .u16 (y.k:Int),.int .u16 (y.c:Int),.int .u32 (y.t:Int),.bool y.hk,.bool y.hc,.bool y.ht]
def yS(r:Except Int (Say × List Wd))(w:Ab)(e:Ending)(w':Ab):Prop:=
 ∃(y:Say) (x:Sl) (er:Int),e=.returned (.tuple #[syV y,.slice x.a x.n x.c,.int .i64 er])/\Hid (Blw w w')/\Hid ((er=0/\∃r',r=.ok (y,r')/\Ws w' x r')∨(er≠0/\r=.error er))
theorem SyB.drew{w:Ab}{b:Nat}{y:Say}(h:SyB w b y):SyB w.drew b y:=h
theorem Yx(w:Ab):SyB (w.alloc (.cells #[.int .u16 0,.int .u16 0,.int .u32 0,.bool false,.bool false,.bool false] 198)) w.heap.size EG:=Au _ _
theorem SC(y:Say)(w:Wd)(r:List Wd):Ej y (w::r)=match tkF y w with
  | .error e=>.error e
  | .ok y'=>if y'.hk then .ok (y',r) else Ej y' r:=rfl
theorem RdW.atk{w:Ab}{b o:Nat}{ws:List Wd}(h:RdW w (some ⟨b,o,none⟩) ws)(k:Nat)(hk:k<ws.length):b<w.heap.size/\w.cell? ⟨b,o+k*2,none⟩=some (.string ws[k].1)/\w.cell? ⟨b,o+k*2+1,none⟩=some (.bool ws[k].2):=by
 obtain h|⟨b',o',e,hb,h3⟩:=h
 ·subst h;simp at hk
 ·injection e with e
  injection e with e1 e2
  subst e1;subst e2;have:=h3 k hk;rw[Nat.mul_comm 2 k]at this;exact⟨hb,this.1,this.2⟩
theorem RdW.from{w:Ab}{b o:Nat}{ws:List Wd}(h:RdW w (some ⟨b,o,none⟩) ws)(k:Nat):RdW w (some ⟨b,o+k*2,none⟩) (ws.drop k):=by
 obtain h|⟨b',o',e,hb,h3⟩:=h
 ·subst h;exact .inl (by simp)
 ·injection e with e
  injection e with e1 e2
  subst e1;subst e2;refine .inr ⟨b,o+k*2,rfl,hb,fun i hi=>?_⟩;have hi':k+i<ws.length:=by simp at hi;omega
  have:=h3 (k+i) hi';rw[show o+2*(k+i)=o+k*2+2*i by omega]at this;simpa using this
theorem WB.drop{ws:List Wd}(h:WB ws)(k:Nat):WB (ws.drop k):=⟨by have:=h.1;simp;omega,fun p hp=>h.2 p (CT hp)⟩
abbrev WG5(w:Ab)(b:Nat)(v0 v1 v2 v3 v4:Ao):Ab:=((((w.setCell ⟨b,0,none⟩ v0).setCell ⟨b,1,none⟩ v1).setCell ⟨b,2,none⟩ v2).setCell ⟨b,3,none⟩ v3).setCell ⟨b,4,none⟩ v4
theorem fB(x:Sl)(ws:List Wd)(w:Ab)(h:Ws w x ws)(hL:Bk w)(hE:Cc w):Ag Aa 162 #[.slice x.a x.n x.c] w (yS (Ej EG ws) w):=by
 obtain⟨a,n,c⟩:=x;have hn:n=ws.length:=h.n;have hc:ws.length<=c:=h.c;have h63:c<=9223372036854775807:=h.c63;have hrd:RdW w a ws:=h.rd;have HWB:Hid (WB ws):=h.wb;have HE:Hid (Bk w/\Cc w):=⟨hL,hE⟩;have HA:Hid (ws=[]∨∃b o,a=some ⟨b,o,none⟩):=by
  obtain h|⟨b,o,e,-,-⟩:=hrd
  ·exact .inl h
  ·exact .inr ⟨b,o,e⟩
 have HRD:Hid (RdW w a ws):=hrd;clear h hL hE hrd;rw[<- hn]at hc;have HN:Hid (ws.length=n):=hn.symm;clear hn;have HN5:Hid (n<=500):=by have:=HWB.out.1;have:=HN.out;show _<=_;omega
 have hn5:=HN5.out;have HW2:Hid (SyB ((w.alloc (.cells #[.int .u16 0,.int .u16 0,.int .u32 0,.bool false,.bool false,.bool false] 198)).alloc (.cells #[.int .u16 0,.int .u16 0,.int .u32 0,.bool false,.bool false,.bool false] 198)) w.heap.size EG/\SyB ((w.alloc (.cells #[.int .u16 0,.int .u16 0,.int .u32 0,.bool false,.bool false,.bool false] 198)).alloc (.cells #[.int .u16 0,.int .u16 0,.int .u32 0,.bool false,.bool false,.bool false] 198)) (w.heap.size+1) EG/\Blw w ((w.alloc (.cells #[.int .u16 0,.int .u16 0,.int .u32 0,.bool false,.bool false,.bool false] 198)).alloc (.cells #[.int .u16 0,.int .u16 0,.int .u32 0,.bool false,.bool false,.bool false] 198))):=by
  have h1:=Yx (w.alloc (.cells #[.int .u16 0,.int .u16 0,.int .u32 0,.bool false,.bool false,.bool false] 198));rw[Bj]at h1;refine⟨((Ah _ _).block _ (by simp)).trans (Yx w),h1,(Ah w _).trans ((Ah _ _).mono (by simp))⟩
 go_enter Tryz.func162,Tryz.ntmps162;go_wp2_with fail;go_loopw [11] (fun vk wr=>∃k:Nat,k<=n/\vk=.int .i64 (k:Int)/\Hid (∃y:Say,y.hk=false/\Ej EG ws=Ej y (ws.drop k)/\SyB wr w.heap.size EG/\SyB wr (w.heap.size+1) y/\Blw w wr)) (fun vk _=>n - (intOf vk).toNat)
 case atStart=>exact⟨0,Aw _,rfl,EG,rfl,rfl,HW2.out.1,HW2.out.2.1,HW2.out.2.2⟩
 case round=>
  obtain⟨k,hk,rfl,HW⟩:=hrel;obtain⟨y,hy0,hy1,hr,hy,hb⟩:=HW.out;clear HW;have HRB:Hid (SyB wr w.heap.size EG):=hr;have HB:Hid (Blw w wr):=hb;have hws:=hr.lt;have hys:=hy.lt;by_cases hlt:k<n
  ·have hlt':(k:Int)<(n:Int):=by omega
   have hkw:k<ws.length:=by rw[HN.out];exact hlt
   obtain⟨b0,o,rfl⟩:∃b o,a=some ⟨b,o,none⟩:=by
    obtain h|h:=HA.out
    ·subst h;simp at hkw
    ·exact h
   obtain⟨hb0,q1,q2⟩:=HRD.out.atk k hkw;have q1':=(hb.cell (p:=⟨b0,o+k*2,none⟩) hb0).trans q1;have q2':=(hb.cell (p:=⟨b0,o+k*2+1,none⟩) hb0).trans q2;have hdrop:ws.drop k=ws[k]::ws.drop (k+1):=El hkw;have hsz:=HWB.out.2 ws[k] (AU hkw);rw[hdrop]at hy1;clear q1 q2 hdrop;generalize ws[k]=wd at*;obtain⟨s,q⟩:=wd;simp only at q1' q2' hsz;have HBA:Hid (Blw w (wr.alloc (.cells #[.string s,.bool q] 167))):=hb.trans ((Ah wr _).mono hb.size);have HRB2:Hid (SyB (wr.alloc (.cells #[.string s,.bool q] 167)) w.heap.size EG):=((Ah wr _).block _ hws).trans hr;have KT:=Ac (lP w (wr.alloc (.cells #[.string s,.bool q] 167)) (w.heap.size+1) y s q (((Ah wr _).block _ hys).trans hy) (by omega) HBA.out hsz HE.out.1 HE.out.2);have HY1:Hid (Ej EG ws=Ej y ((s,q)::ws.drop (k+1))):=hy1;rw[SC]at hy1;have HY2:Hid (Ej EG ws=match tkF y (s,q) with
     | .error e=>.error e
     | .ok y'=>if y'.hk then .ok (y',ws.drop (k+1)) else Ej y' (ws.drop (k+1))):=hy1
   generalize Ej EG ws=SS at*;clear hy0 hy1 hr hy hb HRB HY1 hsz hkw;go_wp2_with fail;refine KT.out.mono ?_;rintro e w2 ⟨er,rfl,HB2,HQ⟩;have HRB:Hid (SyB w2 w.heap.size EG):=(HB2.out.block _ (by omega)).trans HRB2.out;have HBW:Hid (Blw w w2):=HBA.out.trans (HB2.out.mono (by omega));clear KT HB2 HRB2 HBA;obtain⟨rfl,y',hok,hsy⟩|⟨hne,herr,-⟩:=HQ.out
   ·have HOK:=Ac hok;have HSY:Hid (SyB w2 (w.heap.size+1) y'):=hsy;have g3:=hsy.c3;have hyl:=hsy.lt;clear HQ hok hsy;cases hhk:y'.hk with
    |false=>
     rw[hhk]at g3;go_wp2_with fail;refine⟨⟨k+1,by omega,by go_num,y',hhk,?_,HRB.out,HSY.out,HBW.out⟩,by simp[intOf];omega⟩;rw[HY2.out,HOK.out];simp[hhk]
    |true=>
     obtain⟨k1,c1,t1,hk1,hc1,ht1⟩:=y';simp only at hhk;subst hhk;have g0:=HSY.out.c0;have g1:=HSY.out.c1;have g2:=HSY.out.c2;have g4:=HSY.out.c4;have g5:=HSY.out.c5;simp only at g0 g1 g2 g3 g4 g5;have r0:=HRB.out.c0;have r1:=HRB.out.c1;have r2:=HRB.out.c2;have r3:=HRB.out.c3;have r4:=HRB.out.c4;have r5:=HRB.out.c5;have rf0:=HRB.out.fz 0;have rf1:=HRB.out.fz 1;have rf2:=HRB.out.fz 2;have rf3:=HRB.out.fz 3;have rf4:=HRB.out.fz 4;have rf5:=HRB.out.fz 5;simp only[EG]at r0 r1 r2 r3 r4 r5;have hne1:¬ w.heap.size=w.heap.size+1:=by omega
     have HFIN:Hid (SS=.ok (⟨k1,c1,t1,true,hc1,ht1⟩,ws.drop (k+1))):=by
      show _=_;rw[HY2.out,HOK.out]
      rfl
     have HX0:Hid (SyB (((WG5 w2 w.heap.size (.int .u16 (k1:Int)) (.int .u16 (c1:Int)) (.int .u32 (t1:Int)) (.bool true) (.bool hc1)).setCell ⟨w.heap.size,5,none⟩ (.bool ht1))) w.heap.size ⟨k1,c1,t1,true,hc1,ht1⟩/\Blw w (((WG5 w2 w.heap.size (.int .u16 (k1:Int)) (.int .u16 (c1:Int)) (.int .u32 (t1:Int)) (.bool true) (.bool hc1)).setCell ⟨w.heap.size,5,none⟩ (.bool ht1)))):=⟨((((((HRB.out.set0 k1).set1 c1).set2 t1).set3 true).set4 hc1).set5 ht1),((((((HBW.out.setCell (p:=⟨w.heap.size,0,none⟩) (Ad _) _).setCell (p:=⟨w.heap.size,1,none⟩) (Ad _) _).setCell (p:=⟨w.heap.size,2,none⟩) (Ad _) _).setCell (p:=⟨w.heap.size,3,none⟩) (Ad _) _).setCell (p:=⟨w.heap.size,4,none⟩) (Ad _) _).setCell (p:=⟨w.heap.size,5,none⟩) (Ad _) _)⟩;have HWS:Hid (∀W c',Blw w W->n - (k+1)<=c'->c'<=9223372036854775807->Ws W ⟨some ⟨b0,o+(k+1)*2,none⟩,n - (k+1),c'⟩ (ws.drop (k+1))):=fun W c' hW h1 h2=>⟨by simp[HN.out],by simp[HN.out];omega,h2,(HRD.out.from (k+1)).below hW,HWB.out.drop _⟩
     have HWS0:Hid (∀W a',n=k+1->Ws W ⟨a',0,0⟩ (ws.drop (k+1))):=fun W a' h=>by
      have e:ws.drop (k+1)=[]:=DH (by rw[HN.out];omega);exact⟨by rw[e];rfl,by rw[e];simp,by simp,by rw[e];exact .inl rfl,HWB.out.drop _⟩
     clear HY2 HOK HSY HRD;obtain⟨K1,hK1⟩:∃K1,K1=k+1:=⟨_,rfl⟩;have HK1:Hid (K1=k+1):=hK1;have hwk:CV.wrap ((k:Int)+1)=(K1:Int):=by rw[BZ];omega
     have hK0:(0:Int)<=(K1:Int):=by omega
     have hKn:(K1:Int)<=(n:Int):=by omega
     rw[<- hK1]at HWS HWS0 HFIN;have hKn':K1<=n:=by omega
     clear hK1;by_cases hcc:c=K1
     ·subst hcc;have hnk:n=c:=by omega
      subst hnk;go_wp2_with fail
      go_region_law (fail)
      all_goals
       go_wp2_with fail;have HX:Hid (SyB (((WG5 w2 w.heap.size (.int .u16 (k1:Int)) (.int .u16 (c1:Int)) (.int .u32 (t1:Int)) (.bool true) (.bool hc1)).setCell ⟨w.heap.size,5,none⟩ (.bool ht1)).drew) w.heap.size ⟨k1,c1,t1,true,hc1,ht1⟩/\Blw w (((WG5 w2 w.heap.size (.int .u16 (k1:Int)) (.int .u16 (c1:Int)) (.int .u32 (t1:Int)) (.bool true) (.bool hc1)).setCell ⟨w.heap.size,5,none⟩ (.bool ht1)).drew)):=⟨HX0.out.1.drew,HX0.out.2.drew⟩;have HWX:=Ac (HWS0.out (((WG5 w2 w.heap.size (.int .u16 (k1:Int)) (.int .u16 (c1:Int)) (.int .u32 (t1:Int)) (.bool true) (.bool hc1)).setCell ⟨w.heap.size,5,none⟩ (.bool ht1)).drew) (some ⟨b0,o,none⟩) (by simp));generalize (((WG5 w2 w.heap.size (.int .u16 (k1:Int)) (.int .u16 (c1:Int)) (.int .u32 (t1:Int)) (.bool true) (.bool hc1)).setCell ⟨w.heap.size,5,none⟩ (.bool ht1)).drew)=W9 at*;have z0:=HX.out.1.c0;have z1:=HX.out.1.c1;have z2:=HX.out.1.c2;have z3:=HX.out.1.c3;have z4:=HX.out.1.c4;have z5:=HX.out.1.c5
       simp only at z0 z1 z2 z3 z4 z5;exact An (v:=.tuple #[.agg #[.int .u16 (k1:Int),.int .u16 (c1:Int),.int .u32 (t1:Int),.bool true,.bool hc1,.bool ht1],.slice (some ⟨b0,o,none⟩) 0 0,.int .i64 0]) (by simp[AJ,MQ,go_sem,z0,z1,z2,z3,z4,z5]) rfl ⟨⟨k1,c1,t1,true,hc1,ht1⟩,⟨some ⟨b0,o,none⟩,0,0⟩,0,rfl,HX.out.2,.inl ⟨rfl,_,HFIN.out,HWX.out⟩⟩
     ·have hcc1:¬ c - K1=0:=by omega
      go_wp2_with fail
      go_region_law (fail)
      all_goals
       go_wp2_with fail;have HX:Hid (SyB (((WG5 w2 w.heap.size (.int .u16 (k1:Int)) (.int .u16 (c1:Int)) (.int .u32 (t1:Int)) (.bool true) (.bool hc1)).setCell ⟨w.heap.size,5,none⟩ (.bool ht1)).drew) w.heap.size ⟨k1,c1,t1,true,hc1,ht1⟩/\Blw w (((WG5 w2 w.heap.size (.int .u16 (k1:Int)) (.int .u16 (c1:Int)) (.int .u32 (t1:Int)) (.bool true) (.bool hc1)).setCell ⟨w.heap.size,5,none⟩ (.bool ht1)).drew)):=⟨HX0.out.1.drew,HX0.out.2.drew⟩;have HWX:=Ac (HWS.out (((WG5 w2 w.heap.size (.int .u16 (k1:Int)) (.int .u16 (c1:Int)) (.int .u32 (t1:Int)) (.bool true) (.bool hc1)).setCell ⟨w.heap.size,5,none⟩ (.bool ht1)).drew) (c - K1) HX.out.2 (by omega) (by omega));generalize (((WG5 w2 w.heap.size (.int .u16 (k1:Int)) (.int .u16 (c1:Int)) (.int .u32 (t1:Int)) (.bool true) (.bool hc1)).setCell ⟨w.heap.size,5,none⟩ (.bool ht1)).drew)=W9 at*;have z0:=HX.out.1.c0;have z1:=HX.out.1.c1;have z2:=HX.out.1.c2;have z3:=HX.out.1.c3;have z4:=HX.out.1.c4
       have z5:=HX.out.1.c5;simp only at z0 z1 z2 z3 z4 z5;exact An (v:=.tuple #[.agg #[.int .u16 (k1:Int),.int .u16 (c1:Int),.int .u32 (t1:Int),.bool true,.bool hc1,.bool ht1],.slice (some ⟨b0,o+K1*2,none⟩) (n - K1) (c - K1),.int .i64 0]) (by simp[AJ,MQ,go_sem,z0,z1,z2,z3,z4,z5]) rfl ⟨⟨k1,c1,t1,true,hc1,ht1⟩,⟨some ⟨b0,o+K1*2,none⟩,n - K1,c - K1⟩,0,rfl,HX.out.2,.inl ⟨rfl,_,HFIN.out,HWX.out⟩⟩
   ·have hne2:(er == 0)=false:=by simpa using hne
    have hne3:(er != 0)=true:=by simpa using hne
    have HERR:Hid (SS=.error er):=by
     show _=_;rw[HY2.out,herr]
    have HNE:Hid (er≠0):=hne;have r0:=HRB.out.c0;have r1:=HRB.out.c1;have r2:=HRB.out.c2;have r3:=HRB.out.c3;have r4:=HRB.out.c4;have r5:=HRB.out.c5;have rf0:=HRB.out.fz 0;have rf1:=HRB.out.fz 1;have rf2:=HRB.out.fz 2;have rf3:=HRB.out.fz 3;have rf4:=HRB.out.fz 4;have rf5:=HRB.out.fz 5;simp only[EG]at r0 r1 r2 r3 r4 r5;have HX0:Hid (SyB (((WG5 w2 w.heap.size (.int .u16 0) (.int .u16 0) (.int .u32 0) (.bool false) (.bool false)).setCell ⟨w.heap.size,5,none⟩ (.bool false))) w.heap.size EG/\Blw w (((WG5 w2 w.heap.size (.int .u16 0) (.int .u16 0) (.int .u32 0) (.bool false) (.bool false)).setCell ⟨w.heap.size,5,none⟩ (.bool false)))):=⟨((((((HRB.out.set0 0).set1 0).set2 0).set3 false).set4 false).set5 false),((((((HBW.out.setCell (p:=⟨w.heap.size,0,none⟩) (Ad _) _).setCell (p:=⟨w.heap.size,1,none⟩) (Ad _) _).setCell (p:=⟨w.heap.size,2,none⟩) (Ad _) _).setCell (p:=⟨w.heap.size,3,none⟩) (Ad _) _).setCell (p:=⟨w.heap.size,4,none⟩) (Ad _) _).setCell (p:=⟨w.heap.size,5,none⟩) (Ad _) _)⟩;clear HQ herr HY2;go_wp2_with fail;generalize (((WG5 w2 w.heap.size (.int .u16 0) (.int .u16 0) (.int .u32 0) (.bool false) (.bool false)).setCell ⟨w.heap.size,5,none⟩ (.bool false)))=W9 at*
    have z0:=HX0.out.1.c0;have z1:=HX0.out.1.c1;have z2:=HX0.out.1.c2;have z3:=HX0.out.1.c3;have z4:=HX0.out.1.c4;have z5:=HX0.out.1.c5;simp only[EG]at z0 z1 z2 z3 z4 z5;exact An (v:=.tuple #[.agg #[.int .u16 0,.int .u16 0,.int .u32 0,.bool false,.bool false,.bool false],.slice none 0 0,.int .i64 er]) (by simp[AJ,MQ,go_sem,z0,z1,z2,z3,z4,z5]) rfl ⟨EG,⟨none,0,0⟩,er,rfl,HX0.out.2,.inr ⟨HNE.out,HERR.out⟩⟩
  ·have hge:¬ (k:Int)<(n:Int):=by omega
   have hkn:k=n:=by omega
   subst hkn;have HERR:Hid (Ej EG ws=.error 240):=by
    show _=_;rw[hy1,DH (by rw[HN.out];exact Ad _)]
    rfl
   have r0:=HRB.out.c0;have r1:=HRB.out.c1;have r2:=HRB.out.c2;have r3:=HRB.out.c3;have r4:=HRB.out.c4;have r5:=HRB.out.c5;have rf0:=HRB.out.fz 0;have rf1:=HRB.out.fz 1;have rf2:=HRB.out.fz 2;have rf3:=HRB.out.fz 3;have rf4:=HRB.out.fz 4;have rf5:=HRB.out.fz 5;simp only[EG]at r0 r1 r2 r3 r4 r5;have HX0:Hid (SyB (((WG5 wr w.heap.size (.int .u16 0) (.int .u16 0) (.int .u32 0) (.bool false) (.bool false)).setCell ⟨w.heap.size,5,none⟩ (.bool false))) w.heap.size EG/\Blw w (((WG5 wr w.heap.size (.int .u16 0) (.int .u16 0) (.int .u32 0) (.bool false) (.bool false)).setCell ⟨w.heap.size,5,none⟩ (.bool false)))):=⟨((((((HRB.out.set0 0).set1 0).set2 0).set3 false).set4 false).set5 false),((((((HB.out.setCell (p:=⟨w.heap.size,0,none⟩) (Ad _) _).setCell (p:=⟨w.heap.size,1,none⟩) (Ad _) _).setCell (p:=⟨w.heap.size,2,none⟩) (Ad _) _).setCell (p:=⟨w.heap.size,3,none⟩) (Ad _) _).setCell (p:=⟨w.heap.size,4,none⟩) (Ad _) _).setCell (p:=⟨w.heap.size,5,none⟩) (Ad _) _)⟩;clear hy0 hy1 hr hy hb;go_wp2_with fail;generalize (((WG5 wr w.heap.size (.int .u16 0) (.int .u16 0) (.int .u32 0) (.bool false) (.bool false)).setCell ⟨w.heap.size,5,none⟩ (.bool false)))=W9 at*
   have z0:=HX0.out.1.c0;have z1:=HX0.out.1.c1;have z2:=HX0.out.1.c2;have z3:=HX0.out.1.c3;have z4:=HX0.out.1.c4;have z5:=HX0.out.1.c5;simp only[EG]at z0 z1 z2 z3 z4 z5;exact An (v:=.tuple #[.agg #[.int .u16 0,.int .u16 0,.int .u32 0,.bool false,.bool false,.bool false],.slice none 0 0,.int .i64 240]) (by simp[AJ,MQ,go_sem,z0,z1,z2,z3,z4,z5]) rfl ⟨EG,⟨none,0,0⟩,240,rfl,HX0.out.2,.inr ⟨by decide,HERR.out⟩⟩
theorem Qk{w:Ab}{b o n c:Nat}{p:Wd}{r:List Wd}(h:Ws w ⟨some ⟨b,o,none⟩,n,c⟩ (p::r)):n=r.length+1/\(∀c',n - 1<=c'->c'<=9223372036854775807->Ws w ⟨some ⟨b,o+2,none⟩,n - 1,c'⟩ r)/\(c=1->∀a',Ws w ⟨a',0,0⟩ r):=by
 have hn:n=r.length+1:=h.n;have hc:r.length+1<=c:=h.c;obtain⟨b',o',e,hb,-,-,hr⟩:=h.rd.head;simp only[Iq,Addr.mk.injEq,and_true]at e;obtain⟨rfl,rfl⟩:=e;refine⟨hn,fun c' h1 h2=>⟨by simp;omega,by simp;omega,h2,hr,h.wb.tail⟩,fun hc1 a'=>?_⟩;have:r=[]:=Aq.1 (by omega);subst this;exact⟨rfl,by simp,by simp,.inl rfl,h.wb.tail⟩
structure CA where
 g:Sl
 o:Sl
abbrev caV(a:CA)(c:Cy):Ao:=.agg #[.slice a.g.a a.g.n a.g.c,.slice a.o.a a.o.n a.o.c,.int .u16 (c.cl:Int),.int .u32 (c.df:Int),.int .u32 (c.tt:Int),.bool c.ho,.bool c.hc,.bool c.ht,.bool c.sd]
structure CRd(w:Ab)(a:CA)(c:Cy):Prop where
 g:Nm w a.g.a a.g.n c.og
 o:Nm w a.o.a a.o.n c.ow
 k:nck c.og=0
theorem CRd.below{w w':Ab}{a:CA}{c:Cy}(h:CRd w a c)(hb:Blw w w'):CRd w' a c:=⟨h.g.below hb,h.o.below hb,h.k⟩
theorem dF(y:Say)(a:CA)(c:Cy)(w:Ab):Ag Aa 165 #[syV y,caV a c] w fun e w'=>e=.returned (.int .u16 (csF y c:Int))/\Hid (Blw w w'):=by
 obtain⟨k,y1,t,hk,hc,ht⟩:=y;obtain⟨⟨ga,gn,gc⟩,⟨oa,on,oc⟩⟩:=a;obtain⟨og,ow,cl,df,tt,ho,hc',ht',sd⟩:=c;have HB:Hid (Blw w ((w.alloc (.cells #[.int .u16 (k:Int),.int .u16 (y1:Int),.int .u32 (t:Int),.bool hk,.bool hc,.bool ht] 198)).alloc (.cells #[.slice ga gn gc,.slice oa on oc,.int .u16 (cl:Int),.int .u32 (df:Int),.int .u32 (tt:Int),.bool ho,.bool hc',.bool ht',.bool sd] 86))):=
  (Ah _ _).trans ((Ah _ _).mono (by simp))
 cases hc with
 |true=>
  have HC:Hid (csF ⟨k,y1,t,hk,true,ht⟩ ⟨og,ow,cl,df,tt,ho,hc',ht',sd⟩=y1):=rfl;rw[HC.out];go_enter Tryz.func165,Tryz.ntmps165;go_wp2_with fail;go_ret;exact⟨rfl,HB.out⟩
 |false=>
  cases hc' with
  |true=>
   have HC:Hid (csF ⟨k,y1,t,hk,false,ht⟩ ⟨og,ow,cl,df,tt,ho,true,ht',sd⟩=cl):=rfl;rw[HC.out];go_enter Tryz.func165,Tryz.ntmps165;go_wp2_with fail;go_ret;exact⟨rfl,HB.out⟩
  |false=>
   have HC:Hid (csF ⟨k,y1,t,hk,false,ht⟩ ⟨og,ow,cl,df,tt,ho,false,ht',sd⟩=1):=rfl;rw[HC.out];go_enter Tryz.func165,Tryz.ntmps165;go_wp2_with fail;go_ret;exact⟨rfl,HB.out⟩
def TmP(o:Option (Nat × Cy))(a:CA)(w:Ab)(e:Ending)(w':Ab):Prop:=
 ∃(n:Nat) (c':Cy) (er:Int),e=.returned (.tuple #[.int .u32 (n:Int),caV a c',.int .i64 er])/\Hid (Blw w w')/\Hid ((er=0/\o=some (n,c'))∨(er=9/\o=none))
theorem lR(y:Say)(x:DA)(d:Dat)(a:CA)(c:Cy)(w:Ab)(hd:DRd w x d)(h5:y.k=6->d.us.length=5):Ag Aa 164 #[syV y,DA.val x,caV a c] w (TmP (tmF y d c) a w):=by
 obtain⟨k,y1,t,hk,hc,ht⟩:=y;obtain⟨⟨ga,gn,gc⟩,⟨oa,on,oc⟩⟩:=a;obtain⟨og,ow,cl,df,tt,ho,hc',ht',sd⟩:=c;have HU:Hid (URd w x.p2 d.us):=hd.h2;obtain⟨⟨d1,d2,d3⟩,⟨d4,d5,d6⟩,⟨d7,d8,d9⟩,⟨e1,e2,e3⟩⟩:=x;clear hd;simp only at h5;have HB:Hid (∀o1 o2 o3 o4:Obj,Blw w ((((w.alloc o1).alloc o2).alloc o3).alloc o4).drew):=fun o1 o2 o3 o4=>
  (((Ah w o1).trans ((Ah _ o2).mono (by simp))).trans (((Ah _ o3).mono (by simp;omega)).trans ((Ah _ o4).mono (by simp;omega)))).drew
 have HB0:Hid (∀o1 o2 o3 o4:Obj,Blw w ((((w.alloc o1).alloc o2).alloc o3).alloc o4)):=fun o1 o2 o3 o4=>
  (((Ah w o1).trans ((Ah _ o2).mono (by simp))).trans (((Ah _ o3).mono (by simp;omega)).trans ((Ah _ o4).mono (by simp;omega))))
 cases ht with
 |true=>
  have HR:Hid (tmF ⟨k,y1,t,hk,hc,true⟩ d ⟨og,ow,cl,df,tt,ho,hc',ht',sd⟩=some (t,⟨og,ow,cl,df,t,ho,hc',true,sd⟩)):=rfl;rw[HR.out];clear h5 HU;go_enter Jw,IB;go_wp2_with fail
  go_region_law (fail)
  all_goals
   go_wp2_with fail;exact An (v:=.tuple #[.int .u32 (t:Int),.agg #[.slice ga gn gc,.slice oa on oc,.int .u16 (cl:Int),.int .u32 (df:Int),.int .u32 (t:Int),.bool ho,.bool hc',.bool true,.bool sd],.int .i64 0]) (by simp[AJ,Gl,go_sem]) rfl ⟨t,⟨og,ow,cl,df,t,ho,hc',true,sd⟩,0,rfl,HB.out _ _ _ _,.inl ⟨rfl,rfl⟩⟩
 |false=>
  cases sd with
  |true=>
   have HR:Hid (tmF ⟨k,y1,t,hk,hc,false⟩ d ⟨og,ow,cl,df,tt,ho,hc',ht',true⟩=some (df,⟨og,ow,cl,df,tt,ho,hc',ht',true⟩)):=rfl;rw[HR.out];clear h5 HU;go_enter Jw,IB;go_wp2_with fail
   go_region_law (fail)
   all_goals
    go_wp2_with fail;exact An (v:=.tuple #[.int .u32 (df:Int),.agg #[.slice ga gn gc,.slice oa on oc,.int .u16 (cl:Int),.int .u32 (df:Int),.int .u32 (tt:Int),.bool ho,.bool hc',.bool ht',.bool true],.int .i64 0]) (by simp[AJ,Gl,go_sem]) rfl ⟨df,⟨og,ow,cl,df,tt,ho,hc',ht',true⟩,0,rfl,HB.out _ _ _ _,.inl ⟨rfl,rfl⟩⟩
  |false=>
   cases ht' with
   |true=>
    have HR:Hid (tmF ⟨k,y1,t,hk,hc,false⟩ d ⟨og,ow,cl,df,tt,ho,hc',true,false⟩=some (tt,⟨og,ow,cl,df,tt,ho,hc',true,false⟩)):=rfl;rw[HR.out];clear h5 HU;go_enter Jw,IB;go_wp2_with fail
    go_region_law (fail)
    all_goals
     go_wp2_with fail;exact An (v:=.tuple #[.int .u32 (tt:Int),.agg #[.slice ga gn gc,.slice oa on oc,.int .u16 (cl:Int),.int .u32 (df:Int),.int .u32 (tt:Int),.bool ho,.bool hc',.bool true,.bool false],.int .i64 0]) (by simp[AJ,Gl,go_sem]) rfl ⟨tt,⟨og,ow,cl,df,tt,ho,hc',true,false⟩,0,rfl,HB.out _ _ _ _,.inl ⟨rfl,rfl⟩⟩
   |false=>
    by_cases hk6:k=6
    ·subst hk6;have hl:=h5 rfl;obtain⟨b,o,ha,hb,hcell⟩:=HU.out.at 4 (by omega);simp only at ha;subst ha;have hn5:d5=5:=by have:=HU.out.len;simp only at this;omega
     subst hn5;have hbd:d.us[4]<=4294967295:=HU.out.bd _ (AU _);have hgd:d.us.getD 4 0=d.us[4]:=by simp[List.getD,hl]
     have HR:Hid (tmF ⟨6,y1,t,hk,hc,false⟩ d ⟨og,ow,cl,df,tt,ho,hc',false,false⟩=if d.us[4]<2147483648 then some (d.us[4],⟨og,ow,cl,df,d.us[4],ho,hc',true,false⟩) else none):=by
      show _=_;rw[<- hgd];show(if 6=6/\d.us.getD 4 0<2147483648 then _ else _)=_;simp
     rw[HR.out];clear h5 hgd HR HU;generalize d.us[4]=m at*;clear hl;have hu:LL.wrap (m:Int)=(m:Int):=by rw[MN];omega
     have hne0:¬ b=w.heap.size:=by omega
     have hne1:¬ b=w.heap.size+1:=by omega
     have hne2:¬ b=w.heap.size+1+1:=by omega
     have hne3:¬ b=w.heap.size+1+1+1:=by omega
     have gne0:¬ w.heap.size=b:=by omega
     have gne1:¬ w.heap.size+1=b:=by omega
     have gne2:¬ w.heap.size+1+1=b:=by omega
     have gne3:¬ w.heap.size+1+1+1=b:=by omega
     have q:=(HB0.out (.cells #[.int .u16 6,.int .u16 (y1:Int),.int .u32 (t:Int),.bool hk,.bool hc,.bool false] 198) (.cells #[.slice d1 d2 d3,.slice (some ⟨b,o,none⟩) 5 d6,.slice d7 d8 d9,.slice e1 e2 e3] 41) (.cells #[.slice ga gn gc,.slice oa on oc,.int .u16 (cl:Int),.int .u32 (df:Int),.int .u32 (tt:Int),.bool ho,.bool hc',.bool false,.bool false] 86) (.cells #[.slice none 0 0,.slice none 0 0,.int .u16 0,.int .u32 0,.int .u32 0,.bool false,.bool false,.bool false,.bool false] 86)).cell (p:=⟨b,o+4,none⟩) hb;rw[hcell]at q;have KF:=Ac (fun W=>Tk m (by omega) W);by_cases hf:m<2147483648
     ·rw[if_pos hf];rw[decide_eq_true hf]at KF;go_enter Jw,IB;go_wp2_with fail;refine(KF.out _).mono ?_;rintro e w1 ⟨rfl,rfl⟩;go_wp2_with fail
      go_region_law (fail)
      all_goals
       go_wp2_with fail;exact An (v:=.tuple #[.int .u32 (m:Int),.agg #[.slice ga gn gc,.slice oa on oc,.int .u16 (cl:Int),.int .u32 (df:Int),.int .u32 (m:Int),.bool ho,.bool hc',.bool true,.bool false],.int .i64 0]) (by simp[AJ,Gl,go_sem]) rfl ⟨m,⟨og,ow,cl,df,m,ho,hc',true,false⟩,0,rfl,HB.out _ _ _ _,.inl ⟨rfl,rfl⟩⟩
     ·rw[if_neg hf];rw[decide_eq_false hf]at KF;go_enter Jw,IB;go_wp2_with fail;refine(KF.out _).mono ?_;rintro e w1 ⟨rfl,rfl⟩;go_wp2_with fail
      go_region_law (fail)
      all_goals
       go_wp2_with fail;exact An (v:=.tuple #[.int .u32 (0:Int),.agg #[.slice ga gn gc,.slice oa on oc,.int .u16 (cl:Int),.int .u32 (df:Int),.int .u32 (tt:Int),.bool ho,.bool hc',.bool false,.bool false],.int .i64 9]) (by simp[AJ,Gl,go_sem]) rfl ⟨0,⟨og,ow,cl,df,tt,ho,hc',false,false⟩,9,rfl,HB.out _ _ _ _,.inr ⟨rfl,rfl⟩⟩
    ·have hk6':¬ (k:Int)=6:=by omega
     have hk6'':((k:Int) == 6)=false:=by simpa using hk6'
     have HR:Hid (tmF ⟨k,y1,t,hk,hc,false⟩ d ⟨og,ow,cl,df,tt,ho,hc',false,false⟩=none):=by
      show(if k=6/\d.us.getD 4 0<2147483648 then _ else _)=_;rw[if_neg (fun h=>hk6 h.1)]
     rw[HR.out];clear h5 HU;go_enter Jw,IB;go_wp2_with fail
     go_region_law (fail)
     all_goals
      go_wp2_with fail;exact An (v:=.tuple #[.int .u32 (0:Int),.agg #[.slice ga gn gc,.slice oa on oc,.int .u16 (cl:Int),.int .u32 (df:Int),.int .u32 (tt:Int),.bool ho,.bool hc',.bool false,.bool false],.int .i64 9]) (by simp[AJ,Gl,go_sem]) rfl ⟨0,⟨og,ow,cl,df,tt,ho,hc',false,false⟩,9,rfl,HB.out _ _ _ _,.inr ⟨rfl,rfl⟩⟩
def OwP(r:List ByteArray × List Wd × Int)(w:Ab)(e:Ending)(w':Ab):Prop:=
 ∃(v:Ao) (ys:List ByteArray) (x:Sl),e=.returned (.tuple #[v,.slice x.a x.n x.c,.int .i64 r.2.2])/\Hid (Blw w w'/\BF w.heap.size w' v r.1.length ys 1000000000000/\ys.take r.1.length=r.1)/\Hid (r.2.2=0->Ws w' x r.2.1)
theorem Ze{w X W2:Ab}{v:Ao}{ss ys:List ByteArray}{M:Nat}(hX:Blw w X)(H:BF X.heap.size W2 v ss.length ys M/\ys.take ss.length=ss/\Blw X W2):Blw w W2/\BF w.heap.size W2 v ss.length ys M/\ys.take ss.length=ss:=⟨hX.trans (H.2.2.mono hX.size),H.1.mono hX.size,H.2.1⟩
theorem VJ{w W2:Ab}{v:Ao}{ss ys:List ByteArray}{M:Nat}(H:Blw w W2/\BF w.heap.size W2 v ss.length ys M/\ys.take ss.length=ss):Blw w W2.drew/\BF w.heap.size W2.drew v ss.length ys M/\ys.take ss.length=ss:=⟨H.1.drew,H.2.1.below (Ae _ _).drew,H.2.2⟩
theorem Ws.drew{w:Ab}{x:Sl}{ws:List Wd}(h:Ws w x ws):Ws w.drew x ws:=h.below (Ae _ _).drew
theorem Ww(w:Ab)(xs:Array Ao)(t:BH)(o2:Obj)(i:Nat)(v:Ao)(h:xs[i]?=some v):((w.alloc (.cells xs t)).alloc o2).cell? ⟨w.heap.size,i,none⟩=some v:=
 ((Ah _ o2).cell (p:=⟨w.heap.size,i,none⟩) (by simp)).trans (by unfold Az;rw[Au];exact h)
theorem cI(x:Sl)(e:En)(a:CA)(c:Cy)(w:Ab)(h:Ws w x e.ws)(hc:CRd w a c)(hne:e.ws≠[]):Ag Aa 161 #[enV x e,caV a c] w (OwP (ER e c) w):=by
 obtain⟨ln,bl,ws⟩:=e;obtain⟨xa,xn,xc⟩:=x;obtain⟨⟨ga,gn,gc⟩,⟨oa,on,oc⟩⟩:=a;obtain⟨og,ow,cl,df,tt,ho,hc',ht',sd⟩:=c;have HW:Hid (Ws w ⟨xa,xn,xc⟩ ws):=h;have HG:Hid (Nm w ga gn og):=hc.g;have HO:Hid (Nm w oa on ow):=hc.o;have HB:Hid (∀o1 o2:Obj,Blw w ((w.alloc o1).alloc o2)):=fun o1 o2=>(Ah w o1).trans ((Ah _ o2).mono (by simp))
 have HB1:Hid (∀o1 o2:Obj,Blw w ((w.alloc o1).alloc o2).drew):=fun o1 o2=>(HB.out o1 o2).drew
 simp only at hne;clear h hc;cases bl with
 |true=>
  cases ho with
  |false=>
   have HR:Hid (ER ⟨ln,true,ws⟩ ⟨og,ow,cl,df,tt,false,hc',ht',sd⟩=([],[],9)):=rfl;rw[HR.out];go_enter Tryz.func161,OS;go_wp2_with fail;exact An (v:=.tuple #[.slice none 0 0,.slice none 0 0,.int .i64 9]) (by simp[AJ,Jn,go_sem]) rfl ⟨_,[],⟨none,0,0⟩,rfl,⟨HB.out _ _,BF.nil _ _ _,rfl⟩,fun h=>absurd h (by decide)⟩
  |true=>
   have HR:Hid (ER ⟨ln,true,ws⟩ ⟨og,ow,cl,df,tt,true,hc',ht',sd⟩=(ow,ws,0)):=rfl;rw[HR.out];have KC:Hid (∀W,Blw w W->Ag Aa 53 #[.slice oa on oc] W (JS ow 1000000000000 W)):=fun W hW=>aX oa on oc ow W (HO.out.below hW)
   go_enter Tryz.func161,OS;go_wp2_with fail
   go_region_with (first
    |(go_at_call 53;refine(KC.out _ (by first|exact HB.out _ _|exact HB1.out _ _)).mono ?_;rintro e W2 ⟨v,ys,rfl,H2⟩;have e0:W2.cell? ⟨w.heap.size,2,none⟩=some (.slice xa xn xc):=(H2.out.2.2.cell (p:=⟨w.heap.size,2,none⟩) (by simp;try omega)).trans (Ww _ _ _ _ _ _ rfl))
    |fail)
   all_goals
    go_wp2_with fail;have HF:=Ze (by first|exact HB.out _ _|exact HB1.out _ _) H2.out;exact An (v:=.tuple #[v,.slice xa xn xc,.int .i64 0]) (by simp[AJ,Jn,go_sem]) rfl ⟨v,ys,⟨xa,xn,xc⟩,rfl,HF,fun _=>HW.out.below HF.1⟩
 |false=>
  cases ws with
  |nil=>exact absurd rfl hne
  |cons p r=>
   obtain⟨s,q⟩:=p;obtain⟨b,o,e0,hb,q1,q2,-⟩:=HW.out.rd.head;simp only at e0;subst e0;clear hne;have hxn:=(Qk HW.out).1;subst hxn;have hcx:r.length+1<=xc:=HW.out.c;have hx63:xc<=9223372036854775807:=HW.out.c63;have hsz:s.size<=1000000:=HW.out.wb.2 (s,q) (by simp);have Q1:Hid (∀o1 o2:Obj,((w.alloc o1).alloc o2).cell? ⟨b,o,none⟩=some (.string s)):=fun o1 o2=>((HB.out o1 o2).cell (p:=⟨b,o,none⟩) hb).trans q1
   have Q2:Hid (∀o1 o2:Obj,((w.alloc o1).alloc o2).cell? ⟨b,o+1,none⟩=some (.bool q)):=fun o1 o2=>((HB.out o1 o2).cell (p:=⟨b,o+1,none⟩) hb).trans q2
   have d2:=Q2.out (.cells #[.int .i64 ln,.bool false,.slice (some ⟨b,o,none⟩) (r.length+1) xc] 120) (.cells #[.slice ga gn gc,.slice oa on oc,.int .u16 (cl:Int),.int .u32 (df:Int),.int .u32 (tt:Int),.bool ho,.bool hc',.bool ht',.bool sd] 86);have d1:=Q1.out (.cells #[.int .i64 ln,.bool false,.slice (some ⟨b,o,none⟩) (r.length+1) xc] 120) (.cells #[.slice ga gn gc,.slice oa on oc,.int .u16 (cl:Int),.int .u32 (df:Int),.int .u32 (tt:Int),.bool ho,.bool hc',.bool ht',.bool sd] 86);clear q1 q2;have HT:Hid (∀W,Blw w W->(∀c',r.length<=c'->c'<=9223372036854775807->Ws W ⟨some ⟨b,o+2,none⟩,r.length,c'⟩ r)/\(xc=1->∀a',Ws W ⟨a',0,0⟩ r)):=fun W hW=>(Qk (HW.out.below hW)).2
   clear HW HO;generalize hL:r.length=L at*;cases q with
   |true=>
    have HR:Hid (ER ⟨ln,false,(s,true)::r⟩ ⟨og,ow,cl,df,tt,ho,hc',ht',sd⟩=([],[],240)):=rfl;rw[HR.out];go_enter Tryz.func161,OS;go_wp2_with fail;exact An (v:=.tuple #[.slice none 0 0,.slice none 0 0,.int .i64 240]) (by simp[AJ,Jn,go_sem]) rfl ⟨_,[],⟨none,0,0⟩,rfl,⟨HB.out _ _,BF.nil _ _ _,rfl⟩,fun h=>absurd h (by decide)⟩
   |false=>
    have HR:Hid (ER ⟨ln,false,(s,false)::r⟩ ⟨og,ow,cl,df,tt,ho,hc',ht',sd⟩=((Di s og).1,r,(Di s og).2)):=rfl;rw[HR.out];clear HR;have KR:Hid (∀W,Blw w W->Ag Aa 23 #[.string s,.slice ga gn gc] W (LO (Di s og).1 (Di s og).2 W)):=fun W hW=>Sh s ga gn gc og W (by omega) (HG.out.below hW)
    obtain⟨R1,hR1⟩:∃R1,(Di s og).1=R1:=⟨_,rfl⟩;obtain⟨R2,hR2⟩:∃R2,(Di s og).2=R2:=⟨_,rfl⟩;rw[hR1,hR2]at KR;rw[hR1,hR2];clear hR1 hR2;go_enter Tryz.func161,OS;go_wp2_with fail
    go_region_with (first
     |(go_at_call 23;refine(KR.out _ (by first|exact HB.out _ _|exact HB1.out _ _)).mono ?_;rintro e W2 ⟨v,ys,rfl,H2⟩;have e0:W2.cell? ⟨w.heap.size,2,none⟩=some (.slice (some ⟨b,o,none⟩) (L+1) xc):=(H2.out.2.2.cell (p:=⟨w.heap.size,2,none⟩) (by simp;try omega)).trans (Ww _ _ _ _ _ _ rfl))
     |fail)
    all_goals
     have HF:=Ac (Ze (by first|exact HB.out _ _|exact HB1.out _ _) H2.out);have HT2:=Ac (HT.out W2 HF.out.1);clear H2 HB HB1 Q1 Q2 d1 d2 HT KR;by_cases hx1:xc=1
     ·have hL0:L=0:=by omega
      subst hx1;subst hL0;go_wp2_with fail
      go_region_law (fail)
      all_goals
       go_wp2_with fail;exact An (v:=.tuple #[v,.slice (some ⟨b,o,none⟩) 0 0,.int .i64 R2]) (by simp[AJ,Jn,go_sem]) rfl ⟨v,ys,⟨some ⟨b,o,none⟩,0,0⟩,rfl,VJ HF.out,fun _=>(HT2.out.2 (by simp) _).drew⟩
     ·have hx2:¬ xc - 1=0:=by omega
      have hx3:1<xc:=by omega
      have hx4:¬ xc<=1:=by omega
      have hx5:(1:Int)<=(L:Int)+1:=by omega
      go_wp2_with fail
      go_region_law (fail)
      all_goals
       go_wp2_with fail;exact An (v:=.tuple #[v,.slice (some ⟨b,o+2,none⟩) L (xc - 1),.int .i64 R2]) (by simp[AJ,Jn,go_sem]) rfl ⟨v,ys,⟨some ⟨b,o+2,none⟩,L,xc - 1⟩,rfl,VJ HF.out,fun _=>(HT2.out.1 _ (by omega) (by omega)).drew⟩
def CyB(w:Ab)(b:Nat)(a:CA)(c:Cy):Prop:=w.heap[b]?=some (.cells #[.slice a.g.a a.g.n a.g.c,.slice a.o.a a.o.n a.o.c,.int .u16 (c.cl:Int),.int .u32 (c.df:Int),.int .u32 (c.tt:Int),.bool c.ho,.bool c.hc,.bool c.ht,.bool c.sd] 86 (0,0))
theorem CyB.lt{w:Ab}{b:Nat}{a:CA}{c:Cy}(h:CyB w b a c):b<w.heap.size:=(As.1 h).1
theorem CyB.c0{w:Ab}{b:Nat}{a:CA}{c:Cy}(h:CyB w b a c):w.cell? ⟨b,0,none⟩=some (.slice a.g.a a.g.n a.g.c):=by unfold Az;rw[show w.heap[b]?=_ from h];rfl
theorem CyB.c1{w:Ab}{b:Nat}{a:CA}{c:Cy}(h:CyB w b a c):w.cell? ⟨b,1,none⟩=some (.slice a.o.a a.o.n a.o.c):=by unfold Az;rw[show w.heap[b]?=_ from h];rfl
theorem CyB.c2{w:Ab}{b:Nat}{a:CA}{c:Cy}(h:CyB w b a c):w.cell? ⟨b,2,none⟩=some (.int .u16 (c.cl:Int)):=by unfold Az;rw[show w.heap[b]?=_ from h];rfl
theorem CyB.c3{w:Ab}{b:Nat}{a:CA}{c:Cy}(h:CyB w b a c):w.cell? ⟨b,3,none⟩=some (.int .u32 (c.df:Int)):=by unfold Az;rw[show w.heap[b]?=_ from h];rfl
theorem CyB.c4{w:Ab}{b:Nat}{a:CA}{c:Cy}(h:CyB w b a c):w.cell? ⟨b,4,none⟩=some (.int .u32 (c.tt:Int)):=by unfold Az;rw[show w.heap[b]?=_ from h];rfl
theorem CyB.c5{w:Ab}{b:Nat}{a:CA}{c:Cy}(h:CyB w b a c):w.cell? ⟨b,5,none⟩=some (.bool c.ho):=by unfold Az;rw[show w.heap[b]?=_ from h];rfl
theorem CyB.c6{w:Ab}{b:Nat}{a:CA}{c:Cy}(h:CyB w b a c):w.cell? ⟨b,6,none⟩=some (.bool c.hc):=by unfold Az;rw[show w.heap[b]?=_ from h];rfl
theorem CyB.c7{w:Ab}{b:Nat}{a:CA}{c:Cy}(h:CyB w b a c):w.cell? ⟨b,7,none⟩=some (.bool c.ht):=by unfold Az;rw[show w.heap[b]?=_ from h];rfl
theorem CyB.c8{w:Ab}{b:Nat}{a:CA}{c:Cy}(h:CyB w b a c):w.cell? ⟨b,8,none⟩=some (.bool c.sd):=by unfold Az;rw[show w.heap[b]?=_ from h];rfl
theorem CyB.fz{w:Ab}{b:Nat}{a:CA}{c:Cy}(h:CyB w b a c)(i:Nat):w.frozen? ⟨b,i,none⟩=false:=by
 unfold Dv;rw[show w.heap[b]?=_ from h];simp
theorem CyB.drew{w:Ab}{b:Nat}{a:CA}{c:Cy}(h:CyB w b a c):CyB w.drew b a c:=h
def ca0:CA:=⟨⟨none,0,0⟩,⟨none,0,0⟩⟩
theorem CyB.zero(w:Ab):CyB (w.alloc (.cells #[.slice none 0 0,.slice none 0 0,.int .u16 0,.int .u32 0,.int .u32 0,.bool false,.bool false,.bool false,.bool false] 86)) w.heap.size ca0 (cy0 []):=Au _ _
theorem CyB.new(w:Ab)(a:CA)(c:Cy):CyB (w.alloc (.cells #[.slice a.g.a a.g.n a.g.c,.slice a.o.a a.o.n a.o.c,.int .u16 (c.cl:Int),.int .u32 (c.df:Int),.int .u32 (c.tt:Int),.bool c.ho,.bool c.hc,.bool c.ht,.bool c.sd] 86)) w.heap.size a c:=Au _ _
theorem CyB.below{w w':Ab}{b:Nat}{a:CA}{c:Cy}(h:CyB w b a c)(hb:Blw w w'):CyB w' b a c:=(hb.block b h.lt).trans h
theorem fR(x0 x1 x2 x3 x4 x5 x6 x7 x8 v0 v1 v2 v3 v4 v5 v6 v7 v8:Ao):(((((((((#[x0,x1,x2,x3,x4,x5,x6,x7,x8].setIfInBounds 0 v0).setIfInBounds 1 v1).setIfInBounds 2 v2).setIfInBounds 3 v3).setIfInBounds 4 v4).setIfInBounds 5 v5).setIfInBounds 6 v6).setIfInBounds 7 v7).setIfInBounds 8 v8)=#[v0,v1,v2,v3,v4,v5,v6,v7,v8]:=by simp
abbrev WN8(w:Ab)(b:Nat)(a:CA)(c:Cy):Ab:=(((((((w.setCell ⟨b,0,none⟩ (.slice a.g.a a.g.n a.g.c)).setCell ⟨b,1,none⟩ (.slice a.o.a a.o.n a.o.c)).setCell ⟨b,2,none⟩ (.int .u16 (c.cl:Int))).setCell ⟨b,3,none⟩ (.int .u32 (c.df:Int))).setCell ⟨b,4,none⟩ (.int .u32 (c.tt:Int))).setCell ⟨b,5,none⟩ (.bool c.ho)).setCell ⟨b,6,none⟩ (.bool c.hc)).setCell ⟨b,7,none⟩ (.bool c.ht)
theorem CyB.all{w:Ab}{b:Nat}{a:CA}{c:Cy}(h:CyB w b a c)(a':CA)(c':Cy):CyB ((WN8 w b a' c').setCell ⟨b,8,none⟩ (.bool c'.sd)) b a' c':=by
 unfold CyB at h ⊢;have h0:=AD h 0 (.slice a'.g.a a'.g.n a'.g.c);have h1:=AD h0 1 (.slice a'.o.a a'.o.n a'.o.c);have h2:=AD h1 2 (.int .u16 (c'.cl:Int));have h3:=AD h2 3 (.int .u32 (c'.df:Int));have h4:=AD h3 4 (.int .u32 (c'.tt:Int));have h5:=AD h4 5 (.bool c'.ho);have h6:=AD h5 6 (.bool c'.hc);have h7:=AD h6 7 (.bool c'.ht);have h8:=AD h7 8 (.bool c'.sd);rw[fR]at h8;exact h8
abbrev WG8(w:Ab)(b:Nat)(v0 v1 v2 v3 v4 v5 v6 v7:Ao):Ab:=(((((((w.setCell ⟨b,0,none⟩ v0).setCell ⟨b,1,none⟩ v1).setCell ⟨b,2,none⟩ v2).setCell ⟨b,3,none⟩ v3).setCell ⟨b,4,none⟩ v4).setCell ⟨b,5,none⟩ v5).setCell ⟨b,6,none⟩ v6).setCell ⟨b,7,none⟩ v7
theorem Cv{w0 w:Ab}{B b:Nat}(h:Below B w0 w)(hB:B<=b)(v0 v1 v2 v3 v4 v5 v6 v7 v8:Ao):Below B w0 ((WG8 w b (v0) (v1) (v2) (v3) (v4) (v5) (v6) (v7)).setCell ⟨b,8,none⟩ (v8)):=
 ((((((((h.setCell (p:=⟨b,0,none⟩) hB _).setCell (p:=⟨b,1,none⟩) hB _).setCell (p:=⟨b,2,none⟩) hB _).setCell (p:=⟨b,3,none⟩) hB _).setCell (p:=⟨b,4,none⟩) hB _).setCell (p:=⟨b,5,none⟩) hB _).setCell (p:=⟨b,6,none⟩) hB _).setCell (p:=⟨b,7,none⟩) hB _).setCell (p:=⟨b,8,none⟩) hB _
def dfE(s:ByteArray)(c:Cy):Except Int Cy:=match Jr s with|some n=>.ok { c with df:=n,sd:=true }|none=>.error 240
def orE(s:ByteArray)(c:Cy):Except Int Cy:=if (Di s c.og).2=0 then .ok { c with og:=(Di s c.og).1 } else .error (Di s c.og).2
def CmP(r:Except Int Cy)(a:CA)(c:Cy)(w:Ab)(e:Ending)(w':Ab):Prop:=
 ∃(a':CA) (c':Cy) (er:Int),e=.returned (.tuple #[caV a' c',.int .i64 er])/\Hid (Blw w w')/\Hid ((er=0/\r=.ok c'/\a'.o=a.o/\((a'.g=a.g/\c'.og=c.og)∨BU w.heap.size w' a'.g c'.og))∨(er≠0/\r=.error er))
theorem CyB.off{w:Ab}{b g:Nat}{a:CA}{c:Cy}(h:CyB w b a c)(hg:¬ b=g)(i:Nat)(v:Ao):CyB (w.setCell ⟨g,i,none⟩ v) b a c:=by
 unfold CyB at*;exact(Ar _ _ _ b (by show b≠g;exact hg)).trans h
theorem iK{W2:Ab}{b:Nat}{sl:Sl}{nm ys:List ByteArray}{v v0 v1 v2 v3 v4 v5 v6 v7 v8:Ao}(h:BF (b+1+1) W2 (.slice sl.a sl.n sl.c) nm.length ys 1000000000000)(hy:ys.take nm.length=nm):BU b ((WG8 (W2.setCell ⟨b,0,none⟩ v) ((b+1)) (v0) (v1) (v2) (v3) (v4) (v5) (v6) (v7)).setCell ⟨(b+1),8,none⟩ (v8)) sl nm:=by
 have h1:BU (b+1+1) W2 sl nm:=⟨ys,h,hy⟩;refine BU.mono (B:=b+1+1) (h1.keep (fun j hj _ _=>?_)) (by omega);have s0:∀(w:Ab) (u:Ao) (i:Nat),(w.setCell ⟨b+1,i,none⟩ u).heap[j]?=w.heap[j]?:=fun w u i=>Ar _ _ _ j (by show j≠b+1;omega)
 rw[s0,s0,s0,s0,s0,s0,s0,s0,s0];exact Ar _ _ _ j (by show j≠b;omega)
theorem Vy(s:ByteArray)(hs:s.size<=1000000)(a:CA)(c:Cy)(w:Ab)(hE:Cc w)(hL:Bk w):Ag Aa 125 #[.string s,caV a c] w (CmP (dfE s c) a c w):=by
 have KT:Hid (∀W,Blw w W->Ag Aa 159 #[.string s] W (TtO (Jr s) W)):=fun W hW=>ZO s (by omega) W (hE.below hW) (hL.below hW)
 have HD:Hid (dfE s c=match Jr s with|some n=>.ok { c with df:=n,sd:=true }|none=>.error 240):=rfl;generalize dfE s c=R at*;generalize Jr s=o at*;obtain⟨⟨ga,gn,gc⟩,⟨oa,on,oc⟩⟩:=a;obtain⟨og,ow,cl,df,tt,ho,hc',ht',sd⟩:=c;have HC0:Hid (CyB ((w.alloc (.cells #[.slice ga gn gc,.slice oa on oc,.int .u16 (cl:Int),.int .u32 (df:Int),.int .u32 (tt:Int),.bool ho,.bool hc',.bool ht',.bool sd] 86)).alloc (.cells #[.slice none 0 0,.slice none 0 0,.int .u16 0,.int .u32 0,.int .u32 0,.bool false,.bool false,.bool false,.bool false] 86)) w.heap.size ⟨⟨ga,gn,gc⟩,⟨oa,on,oc⟩⟩ ⟨og,ow,cl,df,tt,ho,hc',ht',sd⟩/\CyB ((w.alloc (.cells #[.slice ga gn gc,.slice oa on oc,.int .u16 (cl:Int),.int .u32 (df:Int),.int .u32 (tt:Int),.bool ho,.bool hc',.bool ht',.bool sd] 86)).alloc (.cells #[.slice none 0 0,.slice none 0 0,.int .u16 0,.int .u32 0,.int .u32 0,.bool false,.bool false,.bool false,.bool false] 86)) (w.heap.size+1) ca0 (cy0 [])/\Blw w ((w.alloc (.cells #[.slice ga gn gc,.slice oa on oc,.int .u16 (cl:Int),.int .u32 (df:Int),.int .u32 (tt:Int),.bool ho,.bool hc',.bool ht',.bool sd] 86)).alloc (.cells #[.slice none 0 0,.slice none 0 0,.int .u16 0,.int .u32 0,.int .u32 0,.bool false,.bool false,.bool false,.bool false] 86))):=by
  refine⟨(CyB.new w ⟨⟨ga,gn,gc⟩,⟨oa,on,oc⟩⟩ ⟨og,ow,cl,df,tt,ho,hc',ht',sd⟩).below (Ah _ _),?_,(Ah w _).trans ((Ah _ _).mono (by simp))⟩;have:=CyB.zero (w.alloc (.cells #[.slice ga gn gc,.slice oa on oc,.int .u16 (cl:Int),.int .u32 (df:Int),.int .u32 (tt:Int),.bool ho,.bool hc',.bool ht',.bool sd] 86));rw[Bj]at this;exact this
 have KT2:=Ac (KT.out _ HC0.out.2.2);have hne:¬ w.heap.size=w.heap.size+1:=by omega
 have hne2:¬ w.heap.size+1=w.heap.size:=by omega
 go_enter Tryz.func125,Tryz.ntmps125;go_wp2_with fail;refine KT2.out.mono ?_;rintro e W2 ⟨n,er,rfl,HQ,HB2⟩;have HR:=Ac (HC0.out.1.below HB2.out);have HZ:=Ac (HC0.out.2.1.below HB2.out);have HBW:=Ac (HC0.out.2.2.trans (HB2.out.mono (by simp;omega)));have r0:=HR.out.c0;have r1:=HR.out.c1;have r2:=HR.out.c2;have r3:=HR.out.c3;have r4:=HR.out.c4;have r5:=HR.out.c5;have r6:=HR.out.c6;have r7:=HR.out.c7;have r8:=HR.out.c8;have rf0:=HR.out.fz 0;have rf1:=HR.out.fz 1;have rf2:=HR.out.fz 2;have rf3:=HR.out.fz 3;have rf4:=HR.out.fz 4;have rf5:=HR.out.fz 5;have rf6:=HR.out.fz 6;have rf7:=HR.out.fz 7;have rf8:=HR.out.fz 8;have z0:=HZ.out.c0;have z1:=HZ.out.c1;have z2:=HZ.out.c2;have z3:=HZ.out.c3;have z4:=HZ.out.c4;have z5:=HZ.out.c5;have z6:=HZ.out.c6;have z7:=HZ.out.c7;have z8:=HZ.out.c8;have zf0:=HZ.out.fz 0;have zf1:=HZ.out.fz 1;have zf2:=HZ.out.fz 2;have zf3:=HZ.out.fz 3;have zf4:=HZ.out.fz 4;have zf5:=HZ.out.fz 5;have zf6:=HZ.out.fz 6;have zf7:=HZ.out.fz 7;have zf8:=HZ.out.fz 8;simp only at r0 r1 r2 r3 r4 r5 r6 r7 r8;simp only[ca0,cy0]at z0 z1 z2 z3 z4 z5 z6 z7 z8;have hlt1:=HZ.out.lt;have hlt0:=HR.out.lt;have HX:Hid (CyB ((WG8 ((W2.setCell ⟨w.heap.size,3,none⟩ (.int .u32 (n:Int))).setCell ⟨w.heap.size,8,none⟩ (.bool true)) (w.heap.size+1) (.slice ga gn gc) (.slice oa on oc) (.int .u16 (cl:Int)) (.int .u32 (n:Int)) (.int .u32 (tt:Int)) (.bool ho) (.bool hc') (.bool ht')).setCell ⟨w.heap.size+1,8,none⟩ (.bool true)) (w.heap.size+1) ⟨⟨ga,gn,gc⟩,⟨oa,on,oc⟩⟩ ⟨og,ow,cl,n,tt,ho,hc',ht',true⟩/\Blw w ((WG8 ((W2.setCell ⟨w.heap.size,3,none⟩ (.int .u32 (n:Int))).setCell ⟨w.heap.size,8,none⟩ (.bool true)) (w.heap.size+1) (.slice ga gn gc) (.slice oa on oc) (.int .u16 (cl:Int)) (.int .u32 (n:Int)) (.int .u32 (tt:Int)) (.bool ho) (.bool hc') (.bool ht')).setCell ⟨w.heap.size+1,8,none⟩ (.bool true))):=⟨((HZ.out.off hne2 3 _).off hne2 8 _).all ⟨⟨ga,gn,gc⟩,⟨oa,on,oc⟩⟩ ⟨og,ow,cl,n,tt,ho,hc',ht',true⟩,Cv ((HBW.out.setCell (p:=⟨w.heap.size,3,none⟩) (Ad _) _).setCell (p:=⟨w.heap.size,8,none⟩) (Ad _) _) (by omega) _ _ _ _ _ _ _ _ _⟩
 go_wp2_with fail;generalize ((WG8 ((W2.setCell ⟨w.heap.size,3,none⟩ (.int .u32 (n:Int))).setCell ⟨w.heap.size,8,none⟩ (.bool true)) (w.heap.size+1) (.slice ga gn gc) (.slice oa on oc) (.int .u16 (cl:Int)) (.int .u32 (n:Int)) (.int .u32 (tt:Int)) (.bool ho) (.bool hc') (.bool ht')).setCell ⟨w.heap.size+1,8,none⟩ (.bool true))=W9 at*;have y0:=HX.out.1.c0;have y1:=HX.out.1.c1;have y2:=HX.out.1.c2;have y3:=HX.out.1.c3;have y4:=HX.out.1.c4;have y5:=HX.out.1.c5;have y6:=HX.out.1.c6;have y7:=HX.out.1.c7;have y8:=HX.out.1.c8;simp only at y0 y1 y2 y3 y4 y5 y6 y7 y8;exact An (v:=.tuple #[.agg #[.slice ga gn gc,.slice oa on oc,.int .u16 (cl:Int),.int .u32 (n:Int),.int .u32 (tt:Int),.bool ho,.bool hc',.bool ht',.bool true],.int .i64 er]) (by simp[AJ,Tryz.results125,go_sem,y0,y1,y2,y3,y4,y5,y6,y7,y8]) rfl ⟨⟨⟨ga,gn,gc⟩,⟨oa,on,oc⟩⟩,⟨og,ow,cl,n,tt,ho,hc',ht',true⟩,er,rfl,HX.out.2,by
  obtain⟨e1,e2⟩|⟨e1,e2,-⟩:=HQ.out
  ·exact .inl ⟨e1,HD.out.trans (by rw[e2]),rfl,.inl ⟨rfl,rfl⟩⟩
  ·exact .inr ⟨by rw[e1];decide,by rw[e1];exact HD.out.trans (by rw[e2])⟩⟩
theorem Xu(s:ByteArray)(hs:s.size<=1000000)(a:CA)(c:Cy)(w:Ab)(hr:CRd w a c):Ag Aa 124 #[.string s,caV a c] w (CmP (orE s c) a c w):=by
 have KT:Hid (∀W,Blw w W->Ag Aa 23 #[.string s,.slice a.g.a a.g.n a.g.c] W (LO (Di s c.og).1 (Di s c.og).2 W)):=fun W hW=>Sh s a.g.a a.g.n a.g.c c.og W (by omega) (hr.g.below hW)
 have HD:Hid (orE s c=if (Di s c.og).2=0 then .ok { c with og:=(Di s c.og).1 } else .error (Di s c.og).2):=rfl;generalize orE s c=R at*;obtain⟨R1,hR1⟩:∃R1,(Di s c.og).1=R1:=⟨_,rfl⟩;obtain⟨R2,hR2⟩:∃R2,(Di s c.og).2=R2:=⟨_,rfl⟩;rw[hR1,hR2]at KT HD;obtain⟨⟨ga,gn,gc⟩,⟨oa,on,oc⟩⟩:=a;obtain⟨og,ow,cl,df,tt,ho,hc',ht',sd⟩:=c;have HC0:Hid (CyB ((w.alloc (.cells #[.slice ga gn gc,.slice oa on oc,.int .u16 (cl:Int),.int .u32 (df:Int),.int .u32 (tt:Int),.bool ho,.bool hc',.bool ht',.bool sd] 86)).alloc (.cells #[.slice none 0 0,.slice none 0 0,.int .u16 0,.int .u32 0,.int .u32 0,.bool false,.bool false,.bool false,.bool false] 86)) w.heap.size ⟨⟨ga,gn,gc⟩,⟨oa,on,oc⟩⟩ ⟨og,ow,cl,df,tt,ho,hc',ht',sd⟩/\CyB ((w.alloc (.cells #[.slice ga gn gc,.slice oa on oc,.int .u16 (cl:Int),.int .u32 (df:Int),.int .u32 (tt:Int),.bool ho,.bool hc',.bool ht',.bool sd] 86)).alloc (.cells #[.slice none 0 0,.slice none 0 0,.int .u16 0,.int .u32 0,.int .u32 0,.bool false,.bool false,.bool false,.bool false] 86)) (w.heap.size+1) ca0 (cy0 [])/\Blw w ((w.alloc (.cells #[.slice ga gn gc,.slice oa on oc,.int .u16 (cl:Int),.int .u32 (df:Int),.int .u32 (tt:Int),.bool ho,.bool hc',.bool ht',.bool sd] 86)).alloc (.cells #[.slice none 0 0,.slice none 0 0,.int .u16 0,.int .u32 0,.int .u32 0,.bool false,.bool false,.bool false,.bool false] 86))):=by
  refine⟨(CyB.new w ⟨⟨ga,gn,gc⟩,⟨oa,on,oc⟩⟩ ⟨og,ow,cl,df,tt,ho,hc',ht',sd⟩).below (Ah _ _),?_,(Ah w _).trans ((Ah _ _).mono (by simp))⟩;have:=CyB.zero (w.alloc (.cells #[.slice ga gn gc,.slice oa on oc,.int .u16 (cl:Int),.int .u32 (df:Int),.int .u32 (tt:Int),.bool ho,.bool hc',.bool ht',.bool sd] 86));rw[Bj]at this;exact this
 have KT2:=Ac (KT.out _ HC0.out.2.2);have hne:¬ w.heap.size=w.heap.size+1:=by omega
 have hne2:¬ w.heap.size+1=w.heap.size:=by omega
 go_enter Tryz.func124,Tryz.ntmps124;go_wp2_with fail;refine KT2.out.mono ?_;rintro e W2 ⟨v,ys,rfl,H2⟩;obtain⟨ao,hv,-⟩:=H2.out.1.shape;subst hv;have HR:=Ac (HC0.out.1.below H2.out.2.2);have HZ:=Ac (HC0.out.2.1.below H2.out.2.2);have HBW:=Ac (HC0.out.2.2.trans (H2.out.2.2.mono (by simp;omega)));have HOW:Hid (BF (w.heap.size+1+1) W2 (.slice ao R1.length ys.length) R1.length ys 1000000000000/\ys.take R1.length=R1):=⟨by have:=H2.out.1;rw[Bj,Bj]at this;exact this,H2.out.2.1⟩;have r0:=HR.out.c0;have r1:=HR.out.c1;have r2:=HR.out.c2;have r3:=HR.out.c3;have r4:=HR.out.c4;have r5:=HR.out.c5;have r6:=HR.out.c6;have r7:=HR.out.c7;have r8:=HR.out.c8;have rf0:=HR.out.fz 0;have rf1:=HR.out.fz 1;have rf2:=HR.out.fz 2;have rf3:=HR.out.fz 3;have rf4:=HR.out.fz 4;have rf5:=HR.out.fz 5;have rf6:=HR.out.fz 6;have rf7:=HR.out.fz 7;have rf8:=HR.out.fz 8;have z0:=HZ.out.c0;have z1:=HZ.out.c1;have z2:=HZ.out.c2;have z3:=HZ.out.c3;have z4:=HZ.out.c4;have z5:=HZ.out.c5;have z6:=HZ.out.c6;have z7:=HZ.out.c7;have z8:=HZ.out.c8;have zf0:=HZ.out.fz 0;have zf1:=HZ.out.fz 1;have zf2:=HZ.out.fz 2;have zf3:=HZ.out.fz 3;have zf4:=HZ.out.fz 4;have zf5:=HZ.out.fz 5;have zf6:=HZ.out.fz 6;have zf7:=HZ.out.fz 7;have zf8:=HZ.out.fz 8;simp only at r0 r1 r2 r3 r4 r5 r6 r7 r8;simp only[ca0,cy0]at z0 z1 z2 z3 z4 z5 z6 z7 z8;have hlt1:=HZ.out.lt;have hlt0:=HR.out.lt;have HX:Hid (CyB ((WG8 (W2.setCell ⟨w.heap.size,0,none⟩ (.slice ao R1.length ys.length)) (w.heap.size+1) (.slice ao R1.length ys.length) (.slice oa on oc) (.int .u16 (cl:Int)) (.int .u32 (df:Int)) (.int .u32 (tt:Int)) (.bool ho) (.bool hc') (.bool ht')).setCell ⟨w.heap.size+1,8,none⟩ (.bool sd)) (w.heap.size+1) ⟨⟨ao,R1.length,ys.length⟩,⟨oa,on,oc⟩⟩ ⟨R1,ow,cl,df,tt,ho,hc',ht',sd⟩/\Blw w ((WG8 (W2.setCell ⟨w.heap.size,0,none⟩ (.slice ao R1.length ys.length)) (w.heap.size+1) (.slice ao R1.length ys.length) (.slice oa on oc) (.int .u16 (cl:Int)) (.int .u32 (df:Int)) (.int .u32 (tt:Int)) (.bool ho) (.bool hc') (.bool ht')).setCell ⟨w.heap.size+1,8,none⟩ (.bool sd))/\BU w.heap.size ((WG8 (W2.setCell ⟨w.heap.size,0,none⟩ (.slice ao R1.length ys.length)) (w.heap.size+1) (.slice ao R1.length ys.length) (.slice oa on oc) (.int .u16 (cl:Int)) (.int .u32 (df:Int)) (.int .u32 (tt:Int)) (.bool ho) (.bool hc') (.bool ht')).setCell ⟨w.heap.size+1,8,none⟩ (.bool sd)) ⟨ao,R1.length,ys.length⟩ R1):=⟨((HZ.out.off hne2 0 _)).all ⟨⟨ao,R1.length,ys.length⟩,⟨oa,on,oc⟩⟩ ⟨R1,ow,cl,df,tt,ho,hc',ht',sd⟩,Cv ((HBW.out.setCell (p:=⟨w.heap.size,0,none⟩) (Ad _) _)) (by omega) _ _ _ _ _ _ _ _ _,iK HOW.out.1 HOW.out.2⟩
 go_wp2_with fail;generalize ((WG8 (W2.setCell ⟨w.heap.size,0,none⟩ (.slice ao R1.length ys.length)) (w.heap.size+1) (.slice ao R1.length ys.length) (.slice oa on oc) (.int .u16 (cl:Int)) (.int .u32 (df:Int)) (.int .u32 (tt:Int)) (.bool ho) (.bool hc') (.bool ht')).setCell ⟨w.heap.size+1,8,none⟩ (.bool sd))=W9 at*;have y0:=HX.out.1.c0;have y1:=HX.out.1.c1;have y2:=HX.out.1.c2;have y3:=HX.out.1.c3;have y4:=HX.out.1.c4;have y5:=HX.out.1.c5;have y6:=HX.out.1.c6;have y7:=HX.out.1.c7;have y8:=HX.out.1.c8;simp only at y0 y1 y2 y3 y4 y5 y6 y7 y8;exact An (v:=.tuple #[.agg #[.slice ao R1.length ys.length,.slice oa on oc,.int .u16 (cl:Int),.int .u32 (df:Int),.int .u32 (tt:Int),.bool ho,.bool hc',.bool ht',.bool sd],.int .i64 R2]) (by simp[AJ,Tryz.results124,go_sem,y0,y1,y2,y3,y4,y5,y6,y7,y8]) rfl ⟨⟨⟨ao,R1.length,ys.length⟩,⟨oa,on,oc⟩⟩,⟨R1,ow,cl,df,tt,ho,hc',ht',sd⟩,R2,rfl,HX.out.2.1,by
  by_cases h0:R2=0
  ·exact .inl ⟨h0,HD.out.trans (if_pos h0),rfl,.inr HX.out.2.2⟩
  ·exact .inr ⟨h0,HD.out.trans (if_neg h0)⟩⟩
theorem TJ{W2:Ab}{B B' g:Nat}{sl:Sl}{nm:List ByteArray}{v0 v1 v2 v3 v4 v5 v6 v7 v8:Ao}(h:BU B W2 sl nm)(hg:g<B)(hB:B'<=B):BU B' ((WG8 W2 g (v0) (v1) (v2) (v3) (v4) (v5) (v6) (v7)).setCell ⟨g,8,none⟩ (v8)) sl nm:=by
 refine BU.mono (B:=B) (h.keep (fun j hj _ _=>?_)) hB;have s0:∀(w:Ab) (u:Ao) (i:Nat),(w.setCell ⟨g,i,none⟩ u).heap[j]?=w.heap[j]?:=fun w u i=>Ar _ _ _ j (by show j≠g;omega)
 rw[s0,s0,s0,s0,s0,s0,s0,s0,s0]
theorem Vl(k:Nat)(ws:List Wd)(c:Cy)(h:ws.length≠1):Ih k ws c=.error 240:=by
 match ws,h with
 |[],_=>rfl
 |[_],h=>exact absurd rfl h
 |(s,b)::_::_,_=>cases b <;> rfl
theorem Xv(x:Sl)(ws:List Wd)(a:CA)(c:Cy)(w:Ab)(h:Ws w x ws)(KF0:∀W s,s.size<=1000000->Blw w W->Ag Aa 124 #[.string s,caV a c] W (CmP (orE s c) a c W)):Ag Aa 86 #[.func (.func 124) #[] #[],.slice x.a x.n x.c,caV a c] w (CmP (Ih 1 ws c) a c w):=by
 obtain⟨xa,xn,xc⟩:=x;have KF1:=Ac KF0;have HW:Hid (Ws w ⟨xa,xn,xc⟩ ws):=h;have HL:Hid (xn=ws.length):=h.n;have HC0:Hid (CyB ((w.alloc (.cells #[.slice a.g.a a.g.n a.g.c,.slice a.o.a a.o.n a.o.c,.int .u16 (c.cl:Int),.int .u32 (c.df:Int),.int .u32 (c.tt:Int),.bool c.ho,.bool c.hc,.bool c.ht,.bool c.sd] 86)).alloc (.cells #[.slice none 0 0,.slice none 0 0,.int .u16 0,.int .u32 0,.int .u32 0,.bool false,.bool false,.bool false,.bool false] 86)) (w.heap.size+1) ca0 (cy0 [])/\Blw w ((w.alloc (.cells #[.slice a.g.a a.g.n a.g.c,.slice a.o.a a.o.n a.o.c,.int .u16 (c.cl:Int),.int .u32 (c.df:Int),.int .u32 (c.tt:Int),.bool c.ho,.bool c.hc,.bool c.ht,.bool c.sd] 86)).alloc (.cells #[.slice none 0 0,.slice none 0 0,.int .u16 0,.int .u32 0,.int .u32 0,.bool false,.bool false,.bool false,.bool false] 86))):=by
  refine⟨?_,(Ah w _).trans ((Ah _ _).mono (by simp))⟩;have:=CyB.zero (w.alloc (.cells #[.slice a.g.a a.g.n a.g.c,.slice a.o.a a.o.n a.o.c,.int .u16 (c.cl:Int),.int .u32 (c.df:Int),.int .u32 (c.tt:Int),.bool c.ho,.bool c.hc,.bool c.ht,.bool c.sd] 86));rw[Bj]at this;exact this
 clear h KF0;by_cases hl:xn=1
 ·subst hl;have hl1:=HL.out;obtain⟨p,rfl⟩:∃p,ws=[p]:=List.length_eq_one_iff.1 hl1.symm;clear hl1;obtain⟨s,q⟩:=p;obtain⟨b,o,e0,hb,q1,q2,-⟩:=HW.out.rd.head;simp only at e0;subst e0;have hsz:s.size<=1000000:=HW.out.wb.2 (s,q) (by simp);have d1:=(HC0.out.2.cell (p:=⟨b,o,none⟩) hb).trans q1;have d2:=(HC0.out.2.cell (p:=⟨b,o+1,none⟩) hb).trans q2;clear q1 q2;cases q with
  |true=>
   have HR:Hid (Ih 1 [(s,true)] c=.error 240):=rfl;rw[HR.out];have HBB:Hid (∀o1 o2:Obj,Blw w ((w.alloc o1).alloc o2)):=fun o1 o2=>(Ah w o1).trans ((Ah _ o2).mono (by simp))
   clear HC0 KF1;go_enter Kv,Jx;go_wp2_with fail;exact An (v:=.tuple #[caV a c,.int .i64 240]) (by simp[AJ,Hh,go_sem]) rfl ⟨a,c,240,rfl,HBB.out _ _,.inr ⟨by decide,rfl⟩⟩
  |false=>
   have HR:Hid (Ih 1 [(s,false)] c=orE s c):=rfl;rw[HR.out];have KF2:Hid (∀W,Blw w W->Ag Aa 124 #[.string s,caV a c] W (CmP (orE s c) a c W)):=fun W hW=>KF1.out W s hsz hW
   generalize orE s c=R at*;clear KF1 HR HW HL;go_enter Kv,Jx;go_wp2_with fail
   go_region_with (first
    |(go_at_call 124;refine(KF2.out _ (by first|exact HC0.out.2|exact HC0.out.2.drew)).mono ?_;rintro e W2 ⟨a',c',er,rfl,HB2,HQ⟩;have HZ:Hid (CyB W2 (w.heap.size+1) ca0 (cy0 [])):=(by first|exact HC0.out.1.below HB2.out|exact HC0.out.1.drew.below HB2.out);have z0:=HZ.out.c0;have z1:=HZ.out.c1;have z2:=HZ.out.c2;have z3:=HZ.out.c3;have z4:=HZ.out.c4;have z5:=HZ.out.c5;have z6:=HZ.out.c6;have z7:=HZ.out.c7;have z8:=HZ.out.c8;have zf0:=HZ.out.fz 0;have zf1:=HZ.out.fz 1;have zf2:=HZ.out.fz 2;have zf3:=HZ.out.fz 3;have zf4:=HZ.out.fz 4;have zf5:=HZ.out.fz 5;have zf6:=HZ.out.fz 6;have zf7:=HZ.out.fz 7;have zf8:=HZ.out.fz 8;have hlt1:=HZ.out.lt;simp only[ca0,cy0]at z0 z1 z2 z3 z4 z5 z6 z7 z8)
    |fail)
   all_goals
    have HBW:Hid (Blw w W2):=(by first|exact HC0.out.2.trans (HB2.out.mono HC0.out.2.size)|exact HC0.out.2.drew.trans (HB2.out.mono HC0.out.2.size));have HX:Hid (CyB ((WN8 W2 (w.heap.size+1) a' c').setCell ⟨w.heap.size+1,8,none⟩ (.bool c'.sd)) (w.heap.size+1) a' c'/\Blw w ((WN8 W2 (w.heap.size+1) a' c').setCell ⟨w.heap.size+1,8,none⟩ (.bool c'.sd))/\((er=0/\R=.ok c'/\a'.o=a.o/\((a'.g=a.g/\c'.og=c.og)∨BU w.heap.size ((WN8 W2 (w.heap.size+1) a' c').setCell ⟨w.heap.size+1,8,none⟩ (.bool c'.sd)) a'.g c'.og))∨(er≠0/\R=.error er))):=⟨HZ.out.all a' c',Cv HBW.out (by omega) _ _ _ _ _ _ _ _ _,by
     obtain⟨h1,h2,h3,h4⟩|h1:=HQ.out
     ·refine .inl ⟨h1,h2,h3,h4.imp id fun h=>TJ h ?_ ?_⟩
      ·simp
      ·simp;omega
     ·exact .inr h1⟩
    clear HQ HB2 HZ HBW HC0 KF2;go_wp2_with fail;generalize ((WN8 W2 (w.heap.size+1) a' c').setCell ⟨w.heap.size+1,8,none⟩ (.bool c'.sd))=W9 at*;have y0:=HX.out.1.c0;have y1:=HX.out.1.c1;have y2:=HX.out.1.c2;have y3:=HX.out.1.c3;have y4:=HX.out.1.c4;have y5:=HX.out.1.c5;have y6:=HX.out.1.c6;have y7:=HX.out.1.c7;have y8:=HX.out.1.c8;exact An (v:=.tuple #[.agg #[.slice a'.g.a a'.g.n a'.g.c,.slice a'.o.a a'.o.n a'.o.c,.int .u16 (c'.cl:Int),.int .u32 (c'.df:Int),.int .u32 (c'.tt:Int),.bool c'.ho,.bool c'.hc,.bool c'.ht,.bool c'.sd],.int .i64 er]) (by simp[AJ,Hh,go_sem,y0,y1,y2,y3,y4,y5,y6,y7,y8]) rfl ⟨a',c',er,rfl,HX.out.2.1,HX.out.2.2⟩
 ·have HR:Hid (Ih 1 ws c=.error 240):=by
   have:=HL.out;exact Vl 1 ws c (by omega)
  rw[HR.out];have hl2:¬ (xn:Int)=1:=by omega
  have hl3:((xn:Int) != 1)=true:=by simpa using hl2
  have HBB:Hid (∀o1 o2:Obj,Blw w ((w.alloc o1).alloc o2)):=fun o1 o2=>(Ah w o1).trans ((Ah _ o2).mono (by simp))
  clear HC0 KF1 HW HL HR;go_enter Kv,Jx;go_wp2_with fail;exact An (v:=.tuple #[caV a c,.int .i64 240]) (by simp[AJ,Hh,go_sem]) rfl ⟨a,c,240,rfl,HBB.out _ _,.inr ⟨by decide,rfl⟩⟩
theorem WZ(x:Sl)(ws:List Wd)(a:CA)(c:Cy)(w:Ab)(h:Ws w x ws)(KF0:∀W s,s.size<=1000000->Blw w W->Ag Aa 125 #[.string s,caV a c] W (CmP (dfE s c) a c W)):Ag Aa 86 #[.func (.func 125) #[] #[],.slice x.a x.n x.c,caV a c] w (CmP (Ih 2 ws c) a c w):=by
 obtain⟨xa,xn,xc⟩:=x;have KF1:=Ac KF0;have HW:Hid (Ws w ⟨xa,xn,xc⟩ ws):=h;have HL:Hid (xn=ws.length):=h.n;have HC0:Hid (CyB ((w.alloc (.cells #[.slice a.g.a a.g.n a.g.c,.slice a.o.a a.o.n a.o.c,.int .u16 (c.cl:Int),.int .u32 (c.df:Int),.int .u32 (c.tt:Int),.bool c.ho,.bool c.hc,.bool c.ht,.bool c.sd] 86)).alloc (.cells #[.slice none 0 0,.slice none 0 0,.int .u16 0,.int .u32 0,.int .u32 0,.bool false,.bool false,.bool false,.bool false] 86)) (w.heap.size+1) ca0 (cy0 [])/\Blw w ((w.alloc (.cells #[.slice a.g.a a.g.n a.g.c,.slice a.o.a a.o.n a.o.c,.int .u16 (c.cl:Int),.int .u32 (c.df:Int),.int .u32 (c.tt:Int),.bool c.ho,.bool c.hc,.bool c.ht,.bool c.sd] 86)).alloc (.cells #[.slice none 0 0,.slice none 0 0,.int .u16 0,.int .u32 0,.int .u32 0,.bool false,.bool false,.bool false,.bool false] 86))):=by
  refine⟨?_,(Ah w _).trans ((Ah _ _).mono (by simp))⟩;have:=CyB.zero (w.alloc (.cells #[.slice a.g.a a.g.n a.g.c,.slice a.o.a a.o.n a.o.c,.int .u16 (c.cl:Int),.int .u32 (c.df:Int),.int .u32 (c.tt:Int),.bool c.ho,.bool c.hc,.bool c.ht,.bool c.sd] 86));rw[Bj]at this;exact this
 clear h KF0;by_cases hl:xn=1
 ·subst hl;have hl1:=HL.out;obtain⟨p,rfl⟩:∃p,ws=[p]:=List.length_eq_one_iff.1 hl1.symm;clear hl1;obtain⟨s,q⟩:=p;obtain⟨b,o,e0,hb,q1,q2,-⟩:=HW.out.rd.head;simp only at e0;subst e0;have hsz:s.size<=1000000:=HW.out.wb.2 (s,q) (by simp);have d1:=(HC0.out.2.cell (p:=⟨b,o,none⟩) hb).trans q1;have d2:=(HC0.out.2.cell (p:=⟨b,o+1,none⟩) hb).trans q2;clear q1 q2;cases q with
  |true=>
   have HR:Hid (Ih 2 [(s,true)] c=.error 240):=rfl;rw[HR.out];have HBB:Hid (∀o1 o2:Obj,Blw w ((w.alloc o1).alloc o2)):=fun o1 o2=>(Ah w o1).trans ((Ah _ o2).mono (by simp))
   clear HC0 KF1;go_enter Kv,Jx;go_wp2_with fail;exact An (v:=.tuple #[caV a c,.int .i64 240]) (by simp[AJ,Hh,go_sem]) rfl ⟨a,c,240,rfl,HBB.out _ _,.inr ⟨by decide,rfl⟩⟩
  |false=>
   have HR:Hid (Ih 2 [(s,false)] c=dfE s c):=rfl;rw[HR.out];have KF2:Hid (∀W,Blw w W->Ag Aa 125 #[.string s,caV a c] W (CmP (dfE s c) a c W)):=fun W hW=>KF1.out W s hsz hW
   generalize dfE s c=R at*;clear KF1 HR HW HL;go_enter Kv,Jx;go_wp2_with fail
   go_region_with (first
    |(go_at_call 125;refine(KF2.out _ (by first|exact HC0.out.2|exact HC0.out.2.drew)).mono ?_;rintro e W2 ⟨a',c',er,rfl,HB2,HQ⟩;have HZ:Hid (CyB W2 (w.heap.size+1) ca0 (cy0 [])):=(by first|exact HC0.out.1.below HB2.out|exact HC0.out.1.drew.below HB2.out);have z0:=HZ.out.c0;have z1:=HZ.out.c1;have z2:=HZ.out.c2;have z3:=HZ.out.c3;have z4:=HZ.out.c4;have z5:=HZ.out.c5;have z6:=HZ.out.c6;have z7:=HZ.out.c7;have z8:=HZ.out.c8;have zf0:=HZ.out.fz 0;have zf1:=HZ.out.fz 1;have zf2:=HZ.out.fz 2;have zf3:=HZ.out.fz 3;have zf4:=HZ.out.fz 4;have zf5:=HZ.out.fz 5;have zf6:=HZ.out.fz 6;have zf7:=HZ.out.fz 7;have zf8:=HZ.out.fz 8;have hlt1:=HZ.out.lt;simp only[ca0,cy0]at z0 z1 z2 z3 z4 z5 z6 z7 z8)
    |fail)
   all_goals
    have HBW:Hid (Blw w W2):=(by first|exact HC0.out.2.trans (HB2.out.mono HC0.out.2.size)|exact HC0.out.2.drew.trans (HB2.out.mono HC0.out.2.size));have HX:Hid (CyB ((WN8 W2 (w.heap.size+1) a' c').setCell ⟨w.heap.size+1,8,none⟩ (.bool c'.sd)) (w.heap.size+1) a' c'/\Blw w ((WN8 W2 (w.heap.size+1) a' c').setCell ⟨w.heap.size+1,8,none⟩ (.bool c'.sd))/\((er=0/\R=.ok c'/\a'.o=a.o/\((a'.g=a.g/\c'.og=c.og)∨BU w.heap.size ((WN8 W2 (w.heap.size+1) a' c').setCell ⟨w.heap.size+1,8,none⟩ (.bool c'.sd)) a'.g c'.og))∨(er≠0/\R=.error er))):=⟨HZ.out.all a' c',Cv HBW.out (by omega) _ _ _ _ _ _ _ _ _,by
     obtain⟨h1,h2,h3,h4⟩|h1:=HQ.out
     ·refine .inl ⟨h1,h2,h3,h4.imp id fun h=>TJ h ?_ ?_⟩
      ·simp
      ·simp;omega
     ·exact .inr h1⟩
    clear HQ HB2 HZ HBW HC0 KF2;go_wp2_with fail;generalize ((WN8 W2 (w.heap.size+1) a' c').setCell ⟨w.heap.size+1,8,none⟩ (.bool c'.sd))=W9 at*;have y0:=HX.out.1.c0;have y1:=HX.out.1.c1;have y2:=HX.out.1.c2;have y3:=HX.out.1.c3;have y4:=HX.out.1.c4;have y5:=HX.out.1.c5;have y6:=HX.out.1.c6;have y7:=HX.out.1.c7;have y8:=HX.out.1.c8;exact An (v:=.tuple #[.agg #[.slice a'.g.a a'.g.n a'.g.c,.slice a'.o.a a'.o.n a'.o.c,.int .u16 (c'.cl:Int),.int .u32 (c'.df:Int),.int .u32 (c'.tt:Int),.bool c'.ho,.bool c'.hc,.bool c'.ht,.bool c'.sd],.int .i64 er]) (by simp[AJ,Hh,go_sem,y0,y1,y2,y3,y4,y5,y6,y7,y8]) rfl ⟨a',c',er,rfl,HX.out.2.1,HX.out.2.2⟩
 ·have HR:Hid (Ih 2 ws c=.error 240):=by
   have:=HL.out;exact Vl 2 ws c (by omega)
  rw[HR.out];have hl2:¬ (xn:Int)=1:=by omega
  have hl3:((xn:Int) != 1)=true:=by simpa using hl2
  have HBB:Hid (∀o1 o2:Obj,Blw w ((w.alloc o1).alloc o2)):=fun o1 o2=>(Ah w o1).trans ((Ah _ o2).mono (by simp))
  clear HC0 KF1 HW HL HR;go_enter Kv,Jx;go_wp2_with fail;exact An (v:=.tuple #[caV a c,.int .i64 240]) (by simp[AJ,Hh,go_sem]) rfl ⟨a,c,240,rfl,HBB.out _ _,.inr ⟨by decide,rfl⟩⟩
end Go.Proofs.YtoppdmlmhigogaaGreatDoor
namespace Go.Proofs.YtoppdmlmhigogaaGreatDoor
open Go.ChangeShapes Go.WideShapes Go.ChangeAt Go.RowKit
open Go.Maps (Keyed)
def fnR(v:Ao):Option (Lo Unit × List NT):=
 match v with
 | .func (.func 124) ⟨[]⟩ ⟨[]⟩=>some (.lit (.int .i64 1),[])
 | .func (.func 125) ⟨[]⟩ ⟨[]⟩=>some (.lit (.int .i64 2),[])
 | .nilFunc=>some (.lit (.int .i64 0),[])
 |_=>none
def Pp:Lo Unit:=((DataW.map []).put (.string [36,111,114,105,103,105,110]) (.lit (.int .i64 1))).put (.string [36,116,116,108]) (.lit (.int .i64 2))
theorem oA:Pp=.map [(.string [36,111,114,105,103,105,110],.lit (.int .i64 1)),(.string [36,116,116,108],.lit (.int .i64 2))]:=by rfl
def gG(s:ByteArray):Nat:=if s=IC then 1 else if s=XM then 2 else 0
theorem Zi{s t:ByteArray}(h:s.data.toList=t.data.toList):s=t:=by
 obtain⟨⟨a⟩⟩:=s;obtain⟨⟨b⟩⟩:=t;simp at h;rw[h]
theorem oR(s:ByteArray):Maps.has Pp (.string s.data.toList)=decide (gG s≠0)/\Pp.atKey (.string s.data.toList) (.lit (.int .i64 0))=.lit (.int .i64 (gG s:Int)):=by
 rw[oA];by_cases h1:s=IC
 ·subst h1;exact⟨rfl,rfl⟩
 ·by_cases h2:s=XM
  ·subst h2;exact⟨rfl,rfl⟩
  ·have e1:¬ [36,111,114,105,103,105,110]=s.data.toList:=fun h=>h1 (Zi (t:=IC) h.symm)
   have e2:¬ [36,116,116,108]=s.data.toList:=fun h=>h2 (Zi (t:=XM) h.symm)
   have e3:gG s=0:=by unfold gG;rw[if_neg h1,if_neg h2]
   rw[e3];simp[Maps.has,DataW.atKey,Lit.sameKey,e1,e2]
theorem Um{v:Ao}{ps:List NT}{k:Nat}(h:fnR v=some (.lit (.int .i64 (k:Int)),ps)):(k=0->v=.nilFunc)/\(k=1->v=.func (.func 124) #[] #[])/\(k=2->v=.func (.func 125) #[] #[]):=by
 unfold fnR at h;split at h
 ·simp at h;refine⟨fun e=>by omega,fun _=>rfl,fun e=>by omega⟩
 ·simp at h;refine⟨fun e=>by omega,fun e=>by omega,fun _=>rfl⟩
 ·simp at h;refine⟨fun _=>rfl,fun e=>by omega,fun e=>by omega⟩
 ·cases h
theorem xN:Tryz.t128.zero=some .nilFunc:=by kernel_rfl
theorem WT(w:Ab):(zeroValue 128).run Aa w=.ok .nilFunc w:=by
 simp[zeroValue];rw[xN]
 rfl
theorem QJ:Keyed Aa 9:=Maps.string_keyed AK
theorem vO(s:ByteArray)(h:s.size<=Gi):keyOf Aa 9 (.string s)=some (.string s.data.toList):=by
 simp[keyOf,AK,mapKey,h]
theorem Jy{H:Type}{P:Program}(w:Ab){ops:Array Oper}{rest:List Oper}{o:Oper}{a:Act}{Q:Exit->Act->Ab->Prop}
  (hg:o.guard=none) (m x v:Operand) (t:BH) (hop:o.op=Op.insert t m x v)
  (k e:BH) (K:Keyed P k) (ht:P.underlying t=some (.map k e)) (R:Ao->Option (Lo H × List NT)) (b n:Nat) (D:Lo H)
  (hm:a.eval m=.map (some b)) (hown:w.ownsMap P k R b n D) (hn:n<Gi) (key val:Ao) (kl:Lit) (hx:a.eval x=key) (hv:a.eval v=val) (hkey:keyOf P k key=some kl)
  (d:Lo H) (ps:List NT) (hval:R val=some (d,ps))
  (hK:∀w',w'.ownsMap P k R b (n+1) (D.put kl d)->w.grownBy w' (some b)->wpList P ops Q rest (a.put o.dst undef) w') :
  wpList P ops Q (o::rest) a w:=by
 refine wpList_plain hg fun K' hK'=>?_
 obtain⟨w',hrun,r1,r2⟩:=hown.update K ht hn hkey hval;unfold Oper.wp;simp[execOp,hop,hm,hx,hv,hrun,Result.andThen];exact hK' _ _ (hK w' r1 r2)
theorem QQ{w w1 w2:Ab}{g:Nat}(hb:Blw w w1)(hg:w1.grownBy w2 (some g))(h:w.heap.size<=g):Blw w w2:=
 ⟨hg.os.trans hb.os,hg.tape.trans hb.tape,hg.output.trans hb.output,Aj hb.size hg.size,fun j hj=>(hg.block j (Ap hj hb.size) (fun e=>by injection e with e;omega)).trans (hb.block j hj)⟩
theorem Ur(w:Ab):Ag Aa 84 #[] w fun e w'=>∃b,e=.returned (.map (some b))/\Hid (w.heap.size<=b/\w'.ownsMap Aa 9 fnR b 2 Pp/\Blw w w'):=by
 have hmm:=@run_makeMap Aa;have HO:Hid ((w.alloc (.map #[] 0)).ownsMap Aa 9 fnR w.heap.size 0 (.map [])):=World.ownsMap_made w _ _ _;go_enter Tryz.func84,Tryz.ntmps84
 go_wp2_with (first
  |(refine Jy _ rfl _ _ _ 125 rfl 9 128 QJ LC fnR w.heap.size 0 (.map []) rfl HO.out (by decide) _ _ _ rfl rfl (vO IC (by decide)) (.lit (.int .i64 1)) [] rfl ?_;intro w1 ho1 hg1;have HO1:=Ac ho1;have HG1:=Ac hg1;clear ho1 hg1)
  |(refine Jy _ rfl _ _ _ 125 rfl 9 128 QJ LC fnR w.heap.size 1 _ rfl HO1.out (by decide) _ _ _ rfl rfl (vO XM (by decide)) (.lit (.int .i64 2)) [] rfl ?_;intro w2 ho2 hg2;have HO2:=Ac ho2;have HG2:=Ac hg2;clear ho2 hg2)
  |fail)
 go_ret;exact⟨_,rfl,Ad _,HO2.out,QQ (QQ (Ah w _) HG1.out (Ad _)) HG2.out (Ad _)⟩
end Go.Proofs.YtoppdmlmhigogaaGreatDoor
