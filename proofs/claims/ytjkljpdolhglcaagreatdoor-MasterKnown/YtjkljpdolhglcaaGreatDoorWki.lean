/- Texts laid together, in parts: Mb2 Sht Fol Mc Md Me Mf Mg Mh Mi. -/
import Derived.Test.YtjkljpdolhglcaaGreatDoorWkh
import Derived.Shelf.Strings.Trim
import Derived.Test.YtjkljpdolhglcaaGreatDoorProg
import Derived.Deep.QuietTactic
import Derived.Shelf.Strings.SlTrimAscii
set_option maxRecDepth 100000
set_option maxHeartbeats 8000000
set_option linter.unusedVariables false
set_option linter.unusedSimpArgs false
namespace Go.Proofs.YtjkljpdolhglcaaGreatDoor
open Go.ChangeShapes Go.WideShapes Go.ChangeAt Go.RowKit Go.Sort
def Pu31(s:ByteArray)(w:World)(e:Ending)(w':World):Prop:=
 (∃u:Nat,e=.returned (.tuple #[.int .u64 u,.nilIface])/\Lib.parseUintB 31 s.data.toList=.ok u/\Below w.heap.size w w') ∨
 (∃x N,e=.returned (.tuple #[.int .u64 x,.iface 183 (.pointer (some ⟨N,0,none⟩))])/\(0<=x/\x<=2147483647)/\(∀u,Lib.parseUintB 31 s.data.toList≠.ok u)/\Below w.heap.size w w')
theorem pu31_any(s:ByteArray)(hs:s.size<=281474976710656)(w:World)(hE:LayE w):Calls Tryz.prog 78 #[.string s,.int .i64 10,.int .i64 31] w (Pu31 s w):=by
 have HE:Hid (LayE w):=hE
 have K:(∃W1 u,Lib.parseUintB 31 s.data.toList=.ok u/\Calls Tryz.prog 98 #[.string s,.int .i64 10,.int .i64 31] w fun e w'=>e=.returned (.tuple #[.int .u64 (u:Nat),.nilIface])/\w'=W1/\Below w.heap.size w W1) ∨
   (∃W1 x y,(y=1∨y=2)/\(0<=x/\x<=2147483647)/\(∀u,Lib.parseUintB 31 s.data.toList≠.ok u)/\Calls Tryz.prog 98 #[.string s,.int .i64 10,.int .i64 31] w fun e w'=>e=.returned (.tuple #[.int .u64 x,.iface 181 (.int .i64 y)])/\w'=W1/\Below w.heap.size w W1):=by
  by_cases h0:s.data.toList=[]
  ·have e:=ba_nil h0
   subst e
   exact .inr ⟨w,0,2,.inr rfl,by omega,fun u h=>by simp[Lib.parseUintB] at h,(pu31_empty w).mono fun e w' ⟨h1,h2⟩=>⟨h1,h2,Below.refl _ _⟩⟩
  ·have K:=pu31_in s (size_ne h0) (by omega) w
   have eM:(2:Nat) ^ 31 - 1=2147483647:=by decide
   have hp:Lib.parseUintB 31 s.data.toList=Lib.parseUintM 2147483647 0 s.data.toList:=by rw[Lib.parseUintB,if_neg h0,eM]
   rw[hp]
   cases hr:Lib.parseUintM 2147483647 0 s.data.toList with
   |ok u=>rw[hr] at K;exact .inl ⟨_,u,rfl,K.mono fun e w' ⟨h1,h2⟩=>⟨h1,h2,Lib.bytesWorld_below _ _ _⟩⟩
   |«syntax»=>rw[hr] at K;exact .inr ⟨_,0,2,.inr rfl,by omega,fun u h=>(by cases h),K.mono fun e w' ⟨h1,h2⟩=>⟨h1,h2,Lib.bytesWorld_below _ _ _⟩⟩
   |range=>rw[hr] at K;exact .inr ⟨_,2147483647,1,.inl rfl,by omega,fun u h=>(by cases h),K.mono fun e w' ⟨h1,h2⟩=>⟨h1,h2,Lib.bytesWorld_below _ _ _⟩⟩
 clear hE
 rcases K with ⟨W1,u,hu,K⟩|⟨W1,x,y,hy,hx,hno,K⟩
 ·have K:=Lib.hid K
  have HU:=Lib.hid hu
  clear hu
  go_enter Tryz.func78,Tryz.ntmps78
  go_wp2_with fail
  refine K.out.mono ?_
  rintro e w' ⟨rfl,hw,hb⟩
  subst w'
  have HB:Hid (Below w.heap.size w W1):=hb
  clear hb
  go_wp2_with fail
  go_ret2
  exact .inl ⟨u,rfl,HU.out,HB.out⟩
 ·have K:=Lib.hid K
  have HX:Hid ((0<=x/\x<=2147483647)/\∀u,Lib.parseUintB 31 s.data.toList≠.ok u):=⟨hx,hno⟩
  clear hx hno
  rcases hy with rfl|rfl
  ·go_enter Tryz.func78,Tryz.ntmps78
   go_wp2_with fail
   refine K.out.mono ?_
   rintro e w' ⟨rfl,hw,hb⟩
   subst w'
   have HB:Hid (Below w.heap.size w W1):=hb
   have HE1:=Lib.hid (HE.out.below hb)
   clear hb HE
   obtain ⟨⟨tp,p,h1⟩,⟨tq,q,h2⟩,_,_⟩:=HE1.out
   have g1:W1.cell? ⟨5,0,none⟩=some (.iface tp p):=by have h0:=World.var?_cell gSyn h1 0;simpa using h0
   have g2:W1.cell? ⟨6,0,none⟩=some (.iface tq q):=by have h0:=World.var?_cell gRng h2 0;simpa using h0
   have G1:=Lib.hid g1
   have G2:=Lib.hid g2
   clear g1 g2 h1 h2
   go_wp2_with fail
   refine (Tryz.strconv_toError_range _ s 10 31 (.iface tq q) W1 hs G2.out (Or.inr ⟨tq,q,rfl⟩)).mono ?_
   rintro e w' ⟨N,rfl,_,_,hb⟩
   have HB2:Hid (Below w.heap.size w w'):=HB.out.trans (hb.mono HB.out.size)
   clear hb
   go_wp2_with fail
   go_ret2
   exact .inr ⟨x,N,rfl,HX.out.1,HX.out.2,HB2.out⟩
  ·go_enter Tryz.func78,Tryz.ntmps78
   go_wp2_with fail
   refine K.out.mono ?_
   rintro e w' ⟨rfl,hw,hb⟩
   subst w'
   have HB:Hid (Below w.heap.size w W1):=hb
   have HE1:=Lib.hid (HE.out.below hb)
   clear hb HE
   obtain ⟨⟨tp,p,h1⟩,⟨tq,q,h2⟩,_,_⟩:=HE1.out
   have g1:W1.cell? ⟨5,0,none⟩=some (.iface tp p):=by have h0:=World.var?_cell gSyn h1 0;simpa using h0
   have g2:W1.cell? ⟨6,0,none⟩=some (.iface tq q):=by have h0:=World.var?_cell gRng h2 0;simpa using h0
   have G1:=Lib.hid g1
   have G2:=Lib.hid g2
   clear g1 g2 h1 h2
   go_wp2_with fail
   refine (Tryz.strconv_toError_syntax _ s 10 31 (.iface tp p) W1 hs G1.out (Or.inr ⟨tp,p,rfl⟩)).mono ?_
   rintro e w' ⟨N,rfl,_,_,hb⟩
   have HB2:Hid (Below w.heap.size w w'):=HB.out.trans (hb.mono HB.out.size)
   clear hb
   go_wp2_with fail
   go_ret2
   exact .inr ⟨x,N,rfl,HX.out.1,HX.out.2,HB2.out⟩
def N31(s:ByteArray)(w:World)(e:Ending)(w':World):Prop:=
 ∃(n:Nat) (b:Bool),e=.returned (.tuple #[.int .u32 (n:Int),.bool b])/\Hid (n<=2147483647)/\Hid ((b=true->num31 (nums s)=some n)/\(b=false->num31 (nums s)=none))/\Hid (Below w.heap.size w w')
theorem xnum31(s:ByteArray)(hz:¬ (1<s.data.toList.length/\(bi s.data.toList).head?=some 48))(u:Nat):Lib.parseUintB 31 s.data.toList=.ok u↔num31 (nums s)=some u:=lnum_ok 31 (by decide) _ u hz
theorem num31_any(s:ByteArray)(hs:s.size<=281474976710656)(w:World)(hE:LayE w):Calls Tryz.prog 50 #[.string s] w (N31 s w):=by
 by_cases hz:1<s.data.toList.length/\(bi s.data.toList).head?=some 48
 ·have h1:1<s.size:=hz.1
  have h1':(1:Int)<(s.size:Int):=by omega
  have h0':(0:Int)<(s.size:Int):=by omega
  have h48:(s[0].toNat:Int)=48:=by
   have:=hz.2
   rw[<- nums_bi,head_at s (by omega)] at this
   injection this
  have HN:Hid (num31 (nums s)=none):=lnum_zero (nums s) _ (by rw[nums_bi,bi_len];exact hz.1) hz.2
  clear hz
  go_enter Tryz.func50,Tryz.ntmps50
  go_wp2_with fail
  go_ret2
  exact ⟨0,false,rfl,Nat.zero_le _,⟨fun h=>by (cases h),fun _=>HN.out⟩,Below.refl _ _⟩
 ·have HI:=Lib.hid (xnum31 s hz)
  have K:=Lib.hid (fun W hW=>pu31_any s hs W hW)
  have HE:=Lib.hid hE
  clear hE
  by_cases h1:1<s.size
  ·have h1':(1:Int)<(s.size:Int):=by omega
   have h0':(0:Int)<(s.size:Int):=by omega
   have h48:((s[0].toNat:Int) == 48)=false:=by
    rw[beq_eq_false_iff_ne]
    intro e
    exact hz ⟨h1,by rw[<- nums_bi,head_at s (by omega),e]⟩
   clear hz
   go_enter Tryz.func50,Tryz.ntmps50
   go_wp2_with fail
   refine (K.out _ HE.out).mono ?_
   rintro e w' (⟨u,rfl,hu,hb⟩|⟨x,N,rfl,hx,hu,hb⟩)
   ·have HU:=Lib.hid ((HI.out u).1 hu)
    have HB:=Lib.hid hb
    have hu1:u<2147483648:=(xnum_some HU.out).2
    have hu2:u<4294967296:=by omega
    clear hu hb
    go_wp2_with fail
    go_quiet (fail)
    go_wp2_with fail
    go_ret2
    exact ⟨u,true,rfl,by show _<=_;omega,⟨fun _=>HU.out,fun h=>by (cases h)⟩,HB.out.trans ⟨rfl,rfl,rfl,Nat.le_refl _,fun _ _=>rfl⟩⟩
   ·have HU:Hid (num31 (nums s)=none):=by
     show _=_
     cases h:num31 (nums s) with
     |none=>rfl
     |some n=>exact absurd ((HI.out n).2 h) (hu n)
    have HB:=Lib.hid hb
    obtain ⟨n,rfl⟩:∃n:Nat,x=(n:Int):=⟨x.toNat,by omega⟩
    have hu2:n<4294967296:=by omega
    have HN:Hid (n<=2147483647):=by show _<=_;omega
    clear hu hb hx
    go_wp2_with fail
    go_quiet (fail)
    go_wp2_with fail
    go_ret2
    exact ⟨n,false,rfl,HN.out,⟨fun h=>by (cases h),fun _=>HU.out⟩,HB.out.trans ⟨rfl,rfl,rfl,Nat.le_refl _,fun _ _=>rfl⟩⟩
  ·have h1':¬ (1:Int)<(s.size:Int):=by omega
   clear hz
   go_enter Tryz.func50,Tryz.ntmps50
   go_wp2_with fail
   refine (K.out _ HE.out).mono ?_
   rintro e w' (⟨u,rfl,hu,hb⟩|⟨x,N,rfl,hx,hu,hb⟩)
   ·have HU:=Lib.hid ((HI.out u).1 hu)
    have HB:=Lib.hid hb
    have hu1:u<2147483648:=(xnum_some HU.out).2
    have hu2:u<4294967296:=by omega
    clear hu hb
    go_wp2_with fail
    go_quiet (fail)
    go_wp2_with fail
    go_ret2
    exact ⟨u,true,rfl,by show _<=_;omega,⟨fun _=>HU.out,fun h=>by (cases h)⟩,HB.out.trans ⟨rfl,rfl,rfl,Nat.le_refl _,fun _ _=>rfl⟩⟩
   ·have HU:Hid (num31 (nums s)=none):=by
     show _=_
     cases h:num31 (nums s) with
     |none=>rfl
     |some n=>exact absurd ((HI.out n).2 h) (hu n)
    have HB:=Lib.hid hb
    obtain ⟨n,rfl⟩:∃n:Nat,x=(n:Int):=⟨x.toNat,by omega⟩
    have hu2:n<4294967296:=by omega
    have HN:Hid (n<=2147483647):=by show _<=_;omega
    clear hu hb hx
    go_wp2_with fail
    go_quiet (fail)
    go_wp2_with fail
    go_ret2
    exact ⟨n,false,rfl,HN.out,⟨fun h=>by (cases h),fun _=>HU.out⟩,HB.out.trans ⟨rfl,rfl,rfl,Nat.le_refl _,fun _ _=>rfl⟩⟩
end Go.Proofs.YtjkljpdolhglcaaGreatDoor
namespace Go.Proofs
open Go.Shelf
def Tryz.lays161_ren:Go.Shelf.Ren:=⟨fun|161=>79|231=>100|227=>101|233=>102|235=>103|228=>122|197=>67|151=>123|260=>93|152=>144|137=>80|119=>162|224=>76|225=>75|217=>74|266=>96|n=>n,fun|9=>9|4=>4|3=>3|5=>5|117=>162|116=>161|0=>0|124=>165|105=>119|21=>21|119=>174|46=>129|139=>177|138=>176|n=>n,fun|3=>3|4=>4|n=>n⟩
theorem Tryz.lays161:Go.Proofs.Lays.n161 Tryz.prog Tryz.lays161_ren:={
 mixed:=by kernel_rfl
 f119:=Tryz.func162.trans (congrArg some (by kernel_rfl))
 f137:=Tryz.func80.trans (congrArg some (by kernel_rfl))
 f151:=Tryz.func123.trans (congrArg some (by kernel_rfl))
 f152:=Tryz.func144.trans (congrArg some (by kernel_rfl))
 f161:=Tryz.func79.trans (congrArg some (by kernel_rfl))
 f197:=Tryz.func67.trans (congrArg some (by kernel_rfl))
 f217:=Tryz.func74.trans (congrArg some (by kernel_rfl))
 f224:=Tryz.func76.trans (congrArg some (by kernel_rfl))
 f225:=Tryz.func75.trans (congrArg some (by kernel_rfl))
 f227:=Tryz.func101.trans (congrArg some (by kernel_rfl))
 f228:=Tryz.func122.trans (congrArg some (by kernel_rfl))
 f231:=Tryz.func100.trans (congrArg some (by kernel_rfl))
 f233:=Tryz.func102.trans (congrArg some (by kernel_rfl))
 f235:=Tryz.func103.trans (congrArg some (by kernel_rfl))
 f260:=Tryz.func93.trans (congrArg some (by kernel_rfl))
 f266:=Tryz.func96.trans (congrArg some (by kernel_rfl))
 t0:=Tryz.underlying0
 a0:=Tryz.isAgg0
 z0:=Tryz.sizeOf0
 v0:=Tryz.zeroValue0
 t3:=Tryz.underlying3
 a3:=Tryz.isAgg3
 z3:=Tryz.sizeOf3
 v3:=Tryz.zeroValue3
 t4:=Tryz.underlying4
 a4:=Tryz.isAgg4
 z4:=Tryz.sizeOf4
 v4:=Tryz.zeroValue4
 t5:=Tryz.underlying5
 a5:=Tryz.isAgg5
 z5:=Tryz.sizeOf5
 v5:=Tryz.zeroValue5
 t9:=Tryz.underlying9
 a9:=Tryz.isAgg9
 z9:=Tryz.sizeOf9
 v9:=Tryz.zeroValue9
 t21:=Tryz.underlying21
 a21:=Tryz.isAgg21
 z21:=Tryz.sizeOf21
 v21:=Tryz.zeroValue21
 t46:=Tryz.underlying129
 a46:=Tryz.isAgg129
 z46:=Tryz.sizeOf129
 v46:=Tryz.zeroValue129
 t105:=Tryz.underlying119
 a105:=Tryz.isAgg119
 z105:=Tryz.sizeOf119
 v105:=Tryz.zeroValue119
 t116:=Tryz.underlying161
 a116:=Tryz.isAgg161
 z116:=Tryz.sizeOf161
 t117:=Tryz.underlying162
 a117:=Tryz.isAgg162
 z117:=Tryz.sizeOf162
 v117:=Tryz.zeroValue162
 t119:=Tryz.underlying174
 a119:=Tryz.isAgg174
 z119:=Tryz.sizeOf174
 t124:=Tryz.underlying165
 a124:=Tryz.isAgg165
 z124:=Tryz.sizeOf165
 v124:=Tryz.zeroValue165
 t138:=Tryz.underlying176
 a138:=Tryz.isAgg176
 z138:=Tryz.sizeOf176
 v138:=Tryz.zeroValue176
 t139:=Tryz.underlying177
 a139:=Tryz.isAgg177
 z139:=Tryz.sizeOf177
 v139:=Tryz.zeroValue177
 g3:=by kernel_rfl
 g4:=by kernel_rfl }
end Go.Proofs
namespace Go.Proofs.YtjkljpdolhglcaaGreatDoor
open Go.ChangeShapes Go.WideShapes Go.ChangeAt Go.RowKit
theorem fold_any(s:ByteArray)(w:World)(hs:s.size<=9223372036854775807) :
  Calls Tryz.prog 52 #[.string s] w fun e w'=>e=.returned (.string ⟨(txt ((nums s).map fz)).toArray⟩)/\Hid (Below w.heap.size w w'):=by
 obtain ⟨zs,hc,hb,ht,hl⟩:=conv_new s w
 have H0:Hid (Blk2 (w.drew.alloc (.cells (zs.map (Value.int .u8)).toArray 5 (zs.length,zs.length+1))) w.heap.size zs/\FSt (nums s) zs 0/\Below w.heap.size w (w.drew.alloc (.cells (zs.map (Value.int .u8)).toArray 5 (zs.length,zs.length+1)))):=by
  refine ⟨hb,FSt.zero (by rw[nums_len];exact ht) (by rw[nums_len];exact hl),(Below.refl _ _).drew.alloc (Nat.le_refl _) _⟩
 have HLn:Hid (zs.length=zs.length):=rfl
 clear hb ht
 go_enter Tryz.func52,Tryz.ntmps52
 generalize hzl:zs.length=C at*
 have HZ:Hid (zs.length=C):=hzl
 clear hzl
 generalize (w.drew.alloc (.cells (zs.map (Value.int .u8)).toArray 5 (C,C+1)))=W0 at*
 go_wp2_with fail
 go_loopw [10] (fun x wr=>∃k:Nat,k<=s.size/\x=.int .i64 k/\Hid (∃ys,ys.length=C/\Blk2 wr w.heap.size ys/\FSt (nums s) ys k)/\Hid (Below w.heap.size w wr)) (fun x _=>s.size - (intOf x).toNat)
 case atStart=>exact ⟨0,Nat.zero_le _,rfl,⟨zs,HZ.out,H0.out.1,H0.out.2.1⟩,H0.out.2.2⟩
 case round=>
  obtain ⟨k,hk,rfl,HW,HB⟩:=hrel
  clear H0 hc
  by_cases hlt:k<s.size
  ·have hlt':(k:Int)<(s.size:Int):=by omega
   obtain ⟨ys,e1,e2,e3⟩:=HW.out
   have hcell:=e2.cell k (by omega)
   have hfr:=e2.frozen k (by omega)
   have hv:=e3.2 k (by rw[nums_len];exact hlt)
   rw[if_neg (by omega)] at hv
   rw[hv] at hcell
   have hbd:=nums_bd s k
   have HY:Hid (ys.length=C/\Blk2 wr w.heap.size ys/\FSt (nums s) ys k):=⟨e1,e2,e3⟩
   have HK:Hid (k<(nums s).length):=(show k<_ by rw[nums_len];exact hlt)
   have HF:Hid (fz ((nums s).getD k 0)=if 65<=(nums s).getD k 0/\(nums s).getD k 0<=90 then (nums s).getD k 0+32 else (nums s).getD k 0):=(show _=_ from rfl)
   have HS1:Hid (fz ((nums s).getD k 0)=(nums s).getD k 0->FSt (nums s) ys (k+1)):=fun h=>e3.same h
   have HS2:Hid (FSt (nums s) (ys.set k (fz ((nums s).getD k 0))) (k+1)):=e3.set HK.out
   clear e1 e2 e3 hv
   generalize (nums s).getD k 0=z at*
   by_cases hu:65<=z/\z<=90
   ·have hz1:fz z=z+32:=by rw[HF.out,if_pos hu]
    rw[hz1] at HS2
    have HB3:Hid (Blk2 (wr.setCell ⟨w.heap.size,k,none⟩ (.int .u8 (z+32))) w.heap.size (ys.set k (z+32))/\Below w.heap.size w (wr.setCell ⟨w.heap.size,k,none⟩ (.int .u8 (z+32)))):=⟨HY.out.2.1.stored k _ (by omega),HB.out.setCell (Nat.le_refl _) _⟩
    clear hz1
    go_wp2
    rw[show z - 65+97=z+32 by omega]
    refine ⟨⟨k+1,by omega,by go_num,⟨_,?_,HB3.out.1,HS2.out⟩,HB3.out.2⟩,by simp[intOf];omega⟩
    rw[List.length_set];exact HY.out.1
   ·have hz1:fz z=z:=by rw[HF.out,if_neg hu]
    have HS3:Hid (FSt (nums s) ys (k+1)):=HS1.out hz1
    clear hz1 HS1 HS2
    have hor:z<65∨90<z:=by omega
    clear HF
    rcases hor with ho|ho
    all_goals
     go_wp2
     exact ⟨⟨k+1,by omega,by go_num,⟨ys,HY.out.1,HY.out.2.1,HS3.out⟩,HB.out⟩,by simp[intOf];omega⟩
  ·have hge:(s.size:Int)<=(k:Int):=by omega
   obtain ⟨ys,e1,e2,e3⟩:=HW.out
   have hks:k=s.size:=by omega
   have hd:ys.take s.size=(nums s).map fz:=by
    have:=FSt.done (l:=nums s) (zs:=ys) (by rw[nums_len,<- hks];exact e3)
    rw[nums_len] at this
    exact this
   have hrd:=e2.rd s.size
   rw[hd] at hrd
   have hcv:=conv_rd (some ⟨w.heap.size,0,none⟩) s.size C ((nums s).map fz) wr hrd (by rw[List.length_map,nums_len])
   clear hrd hd e1 e2 e3
   go_wp2
   go_ret
   exact ⟨rfl,HB.out⟩
end Go.Proofs.YtjkljpdolhglcaaGreatDoor
namespace Go.Proofs.YtjkljpdolhglcaaGreatDoor
open Go.ChangeShapes Go.WideShapes Go.ChangeAt Go.RowKit
abbrev digB:ByteArray:=⟨#[48,49,50,51,52,53,54,55,56,57]⟩
abbrev letB:ByteArray:=⟨#[119,100,104,109,115]⟩
theorem dig_has(c:UInt8):digB.data.toList.contains c=xdig (c.toNat:Int):=by
 have:∀c:Fin 256,digB.data.toList.contains (UInt8.ofNat c.val)=xdig ((UInt8.ofNat c.val).toNat:Int):=by decide +kernel
 have h:=this ⟨c.toNat,c.toNat_lt⟩
 simpa using h
def behB(s:ByteArray):ByteArray:=⟨(Lib.trimLeftS s.data.toList digB.data.toList).toArray⟩
theorem behB_nums(s:ByteArray):nums (behB s)=aftD (nums s):=by
 rw[nums_bi,nums_bi]
 show bi (Lib.trimLeftS s.data.toList digB.data.toList)=_
 unfold Lib.trimLeftS aftD bi
 rw[List.dropWhile_map]
 congr 2
 funext c
 exact dig_has c
theorem dgs_aft(l:List Int):dgsD l++aftD l=l:=List.takeWhile_append_dropWhile
theorem ext_nums(s:ByteArray)(k:Nat)(hk:k<=s.size):nums (s.extract 0 k)=(nums s).take k:=by
 rw[nums_bi,nums_bi]
 unfold bi
 rw[<- List.map_take]
 congr 1
 simp
theorem ext_dgs(s:ByteArray):nums (s.extract 0 (s.size - (behB s).size))=dgsD (nums s)/\(behB s).size<=s.size:=by
 have h1:(behB s).size=(aftD (nums s)).length:=by rw[<- behB_nums,nums_len]
 have h2:=congrArg List.length (dgs_aft (nums s))
 rw[List.length_append,nums_len] at h2
 refine ⟨?_,by omega⟩
 rw[ext_nums s _ (by omega)]
 conv=>lhs;arg 2;rw[<- dgs_aft (nums s)]
 rw[List.take_left' (by omega)]
theorem ext_tail(s:ByteArray):nums (s.extract 1 s.size)=(nums s).drop 1:=by
 rw[nums_bi,nums_bi]
 unfold bi
 rw[<- List.map_drop]
 congr 1
 simp
 try exact List.take_of_length_le (by simp)
theorem pl_idx(c:UInt8):∀L:List UInt8,(plF c.toNat (bi L)=none/\Lib.indexByte L c = -1)∨(∃p,plF c.toNat (bi L)=some p/\Lib.indexByte L c=(p:Int)/\p<L.length)
 |[]=>.inl ⟨rfl,rfl⟩
 |b::L=>by
  by_cases h:b=c
  ·subst h
   exact .inr ⟨0,by simp[bi,plF],by simp[Lib.indexByte],by simp⟩
  ·have h1:¬ ((b.toNat:Int)=(c.toNat:Int)):=fun e=>h (u8i e)
   have h2:(b == c)=false:=by simpa using h
   rcases pl_idx c L with ⟨a1,a2⟩|⟨p,a1,a2,a3⟩
   ·left
    refine ⟨?_,?_⟩
    ·rw[bi_cons];unfold plF;rw[if_neg h1,a1];rfl
    ·unfold Lib.indexByte;rw[h2,a2];simp
   ·right
    refine ⟨p+1,?_,?_,by simp;omega⟩
    ·rw[bi_cons];unfold plF;rw[if_neg h1,a1];rfl
    ·unfold Lib.indexByte
     rw[h2,a2]
     have:((p:Int) == -1)=false:=by rw[beq_eq_false_iff_ne];omega
     simp[this]
theorem let_ext(f:Nat)(hf:f<=5):bi (letB.extract f 5).data.toList=lets.drop f/\(letB.extract f 5).data.toList.length=5 - f:=by
 rcases (by omega:f=0∨f=1∨f=2∨f=3∨f=4∨f=5) with rfl|rfl|rfl|rfl|rfl|rfl <;> exact ⟨by decide +kernel,by decide +kernel⟩
def PlO(c:UInt8)(f:Nat)(i:Int):Prop:=(plF c.toNat (lets.drop f)=none/\i = -1)∨(∃p:Nat,plF c.toNat (lets.drop f)=some p/\i=p/\f+p<=4)
theorem pl_o(c:UInt8)(f:Nat)(hf:f<=5):PlO c f (Lib.indexByte (letB.extract f 5).data.toList c):=by
 obtain ⟨h1,h2⟩:=let_ext f hf
 rcases pl_idx c (letB.extract f 5).data.toList with ⟨a1,a2⟩|⟨p,a1,a2,a3⟩
 ·exact .inl ⟨by rw[<- h1];exact a1,a2⟩
 ·exact .inr ⟨p,by rw[<- h1];exact a1,a2,by omega⟩
theorem sumF_step {k : Nat} {l : List Int} {f al : Nat} (hl : l ≠ []) : sumF (k + 1) l f al = (num31 (dgsD l)).bind fun n => match aftD l with
      | [] => none
      | c :: t => (plF c (lets.drop f)).bind fun p => sumF k t (f + p + 1) (al + n * lens.getD (f + p) 0) := by
  cases l with
  | nil => exact absurd rfl hl
  | cons a l => rfl
theorem lens_bd(p:Nat)(h:p<=4):lens.getD p 0<=604800:=by
 rcases (by omega:p=0∨p=1∨p=2∨p=3∨p=4) with rfl|rfl|rfl|rfl|rfl <;> decide
theorem lens_tab(p:Nat)(h:p<=4):lenTab.getD p 0=((lens.getD p 0:Nat):Int):=by
 rcases (by omega:p=0∨p=1∨p=2∨p=3∨p=4) with rfl|rfl|rfl|rfl|rfl <;> decide
theorem lens_cell{w:World}(hL:LayT w)(p:Nat)(h:p<=4):w.cell? ⟨1,p,none⟩=some (.int .u64 ((lens.getD p 0:Nat):Int)):=by
 rw[hL.2.2.cell gLen p (by simp;omega),lens_tab p h]
theorem fits_any(n:Nat)(hn:n<18446744073709551616)(w:World):Calls Tryz.prog 81 #[.int .u64 (n:Int)] w fun e w'=>e=.returned (.bool (decide (n<2147483648)))/\w'=w:=by
 by_cases h:n<2147483648
 ·have h':(n:Int)<2147483648:=by omega
  go_enter Tryz.func81,Tryz.ntmps81
  go_wp2_with fail
  go_ret
  exact ⟨by simp[h],rfl⟩
 ·have h':¬ (n:Int)<2147483648:=by omega
  go_enter Tryz.func81,Tryz.ntmps81
  go_wp2_with fail
  go_ret
  exact ⟨by simp[h],rfl⟩
theorem trim_any(s:ByteArray)(w:World):Calls Tryz.prog 79 #[.string s,.string digB] w fun e w'=>e=.returned (.string (behB s))/\Hid (Below w.heap.size w w'):=
 (Any.strings_TrimLeft_laid Tryz.lays161 (by kernel_rfl) s digB w (by decide) (ascii_of_all (by decide))).mono fun e w' h=>h
theorem let_sl(f:Nat)(hf:f<=5)(w:World):(Instr.slice 9 (.string ⟨#[119,100,104,109,115]⟩) (some (.int .i64 (f:Int))) none none).run Tryz.prog w=.ok (.string (letB.extract f 5)) w:=by
 rcases (by omega:f=0∨f=1∨f=2∨f=3∨f=4∨f=5) with rfl|rfl|rfl|rfl|rfl|rfl <;> (clear hf;show Sem.run _ _ _=Result.ok _ _;kernel_rfl)
theorem let_sa(f:Nat)(hf:f<=5)(w:World):(Instr.sliceAt 9 (.string ⟨#[119,100,104,109,115]⟩) (some (.int .i64 (f:Int))) none none).run Tryz.prog w=.ok (.string (letB.extract f 5)) w:=by
 rcases (by omega:f=0∨f=1∨f=2∨f=3∨f=4∨f=5) with rfl|rfl|rfl|rfl|rfl|rfl <;> (clear hf;show Sem.run _ _ _=Result.ok _ _;kernel_rfl)
def SumO(o:Option (Nat × Nat))(w:World)(e:Ending)(w':World):Prop:=
 ∃(n:Nat) (b:Bool),e=.returned (.tuple #[.int .u32 (n:Int),.bool b])/\Hid ((b=true->((o.bind fun p=>if 0<p.1/\p.2<2147483648 then some p.2 else none)=some n))/\(b=false->(o.bind fun p=>if 0<p.1/\p.2<2147483648 then some p.2 else none)=none))/\Hid (Below w.heap.size w w')
def SmI(S:ByteArray)(s:ByteArray)(f al:Nat):Prop:=f<=5/\s.size<=S.size/\al<=f*1298801745100800/\∃k,6<=k+f/\sumF 6 (nums S) 0 0=sumF k (nums s) f al
def szS:Value->Nat
 | .string t=>t.size
 |_=>0
theorem sum_any(S:ByteArray)(hs:S.size<=281474976710656)(w:World)(hE:LayE w)(hL:LayT w):Calls Tryz.prog 51 #[.string S] w (SumO (sumF 6 (nums S) 0 0) w):=by
 have HE:Hid (LayE w/\LayT w):=⟨hE,hL⟩
 have HS:Hid (S.size<=281474976710656):=hs
 have H0:Hid (SmI S S 0 0):=⟨by omega,Nat.le_refl _,by omega,6,by omega,rfl⟩
 clear hE hL hs
 go_enter Tryz.func51,Tryz.ntmps51
 go_wp2_with fail
 go_loopw [0,4,5] (fun vs va vf wr=>∃(s:ByteArray) (f al:Nat),vs=.string s/\va=.int .u64 (al:Int)/\vf=.int .i64 (f:Int)/\Hid (SmI S s f al)/\Hid (Below w.heap.size w wr)) (fun vs _ _ _=>szS vs)
 case atStart=>exact ⟨S,0,0,rfl,rfl,rfl,H0.out,Below.refl _ _⟩
 case round=>
  obtain ⟨s,f,al,rfl,rfl,rfl,HI,HB⟩:=hrel
  have hf5:=HI.out.1
  have hal:al<=7000000000000000:=by have:=HI.out.2.2.1;omega
  have hss:s.size<=281474976710656:=by have:=HI.out.2.1;have:=HS.out;omega
  by_cases h0:s.data.toList=[]
  ·have e:=ba_nil h0
   subst e
   have KF:=Lib.hid (fun W=>fits_any al (by omega) W)
   have HQ:Hid (sumF 6 (nums S) 0 0=some (f,al)):=by
    obtain ⟨k,hk,e⟩:=HI.out.2.2.2
    show _=_
    rw[e]
    cases k <;> rfl
   by_cases hf:f=0
   ·subst hf
    go_wp2_with fail
    go_ret2
    refine ⟨_,false,rfl,⟨fun h=>by (cases h),fun _=>by rw[HQ.out];rfl⟩,HB.out⟩
   ·have hf1:(0:Int)<(f:Int):=by omega
    by_cases ha:al<2147483648
    ·have hd:decide (al<2147483648)=true:=decide_eq_true ha
     rw[hd] at KF
     have ha2:al<4294967296:=by omega
     go_wp2_with fail
     refine (KF.out _).mono ?_
     rintro e W ⟨rfl,rfl⟩
     go_wp2_with fail
     go_ret2
     refine ⟨al,true,rfl,⟨fun _=>?_,fun h=>by (cases h)⟩,HB.out⟩
     rw[HQ.out]
     show (if _ then _ else _)=_
     rw[if_pos ⟨by omega,ha⟩]
    ·have hd:decide (al<2147483648)=false:=decide_eq_false ha
     rw[hd] at KF
     go_wp2_with fail
     refine (KF.out _).mono ?_
     rintro e W ⟨rfl,rfl⟩
     go_wp2_with fail
     go_ret2
     refine ⟨al % 4294967296,false,?_,⟨fun h=>by (cases h),fun _=>?_⟩,HB.out⟩
     ·rw[show ((al % 4294967296:Nat):Int)=(al:Int) % 4294967296 from by omega]
      first|rfl|(rw[IntKind.wrap_u32])
     ·rw[HQ.out]
      show (if _ then _ else _)=_
      rw[if_neg (by omega)]
  ·have hne:(s.toList == [])=false:=by
    rw[beq_eq_false_iff_ne,Lib.toList_data];exact h0
   have hln:nums s≠[]:=by
    intro e
    apply h0
    rw[nums_bi] at e
    have:=congrArg List.length e
    rw[bi_len] at this
    exact List.length_eq_zero_iff.1 (by simpa using this)
   have KT:=Lib.hid (fun W=>trim_any s W)
   have KN:=Lib.hid (fun W (hW:Below w.heap.size w W)=>num31_any (s.extract 0 (s.size - (behB s).size)) (by simp;omega) W (HE.out.1.below hW))
   obtain ⟨hx1,hx2⟩:=ext_dgs s
   have HX:Hid (nums (s.extract 0 (s.size - (behB s).size))=dgsD (nums s)):=hx1
   have HA:Hid (nums (behB s)=aftD (nums s)):=behB_nums s
   have HST:Hid (∃k,6<=k+1+f/\sumF 6 (nums S) 0 0=(num31 (dgsD (nums s))).bind fun n=>match aftD (nums s) with
     |[]=>none
     |c::t=>(plF c (lets.drop f)).bind fun p=>sumF k t (f+p+1) (al+n*lens.getD (f+p) 0)):=by
    obtain ⟨k,hk,e⟩:=HI.out.2.2.2
    obtain ⟨k,rfl⟩:∃j,k=j+1:=⟨k - 1,by omega⟩
    exact ⟨k,by omega,by rw[e,sumF_step hln]⟩
   generalize behB s=bh at*
   generalize hex:s.extract 0 (s.size - bh.size)=dg at*
   have hsub:(s.size:Int) - (bh.size:Int)=((s.size - bh.size:Nat):Int):=by omega
   generalize hsd:s.size - bh.size=sd at*
   clear h0 hx1 hln
   go_wp2_with fail
   refine (KT.out _).mono ?_
   rintro e w1 ⟨rfl,H1⟩
   have HB1:Hid (Below w.heap.size w w1):=HB.out.trans (H1.out.mono HB.out.size)
   clear KT H1 HB
   go_wp2_with fail
   try rw[hex]
   refine (KN.out _ HB1.out).mono ?_
   rintro e w2 ⟨n,b,rfl,Hn,H8,H2⟩
   have HB2:Hid (Below w.heap.size w w2):=HB1.out.trans (H2.out.mono HB1.out.size)
   have hn:=Hn.out
   clear KN H2 HB1
   cases b with
   |false=>
    go_wp2_with fail
    go_ret2
    refine ⟨0,false,rfl,⟨fun h=>by (cases h),fun _=>?_⟩,HB2.out⟩
    obtain ⟨k,hk,e⟩:=HST.out
    rw[e,<- HX.out,H8.out.2 (by simp)];rfl
   |true=>
    by_cases hb0:bh.data.toList=[]
    ·have e:=ba_nil hb0
     subst e
     go_wp2_with fail
     go_ret2
     refine ⟨0,false,rfl,⟨fun h=>by (cases h),fun _=>?_⟩,HB2.out⟩
     obtain ⟨k,hk,e⟩:=HST.out
     rw[e,<- HX.out,H8.out.1 (by simp),<- HA.out];rfl
    ·have hbe:(bh.toList == [])=false:=by
      rw[beq_eq_false_iff_ne,Lib.toList_data];exact hb0
     have hb1:0<bh.size:=by have:=size_ne hb0;omega
     have hb1':(0:Int)<(bh.size:Int):=by omega
     have HAF:Hid (aftD (nums s)=(bh[0].toNat:Int)::nums (bh.extract 1 bh.size)):=by
      show _=_
      rw[<- HA.out,ext_tail]
      exact nums_from bh 0 hb1
     have HPL:=Lib.hid (pl_o bh[0] f hf5)
     have KI:=Lib.hid (fun W=>Tryz.strings_IndexByte (letB.extract f 5) ((bh[0].toNat:Nat):Int) W)
     have hub:(((bh[0].toNat:Nat):Int).toNat.toUInt8)=bh[0]:=by simp
     rw[hub] at KI
     have hc255:bh[0].toNat<256:=bh[0].toNat_lt
     have hsl:=fun W=>let_sl f hf5 W
     have hsa:=fun W=>let_sa f hf5 W
     generalize hle:letB.extract f 5=le at*
     generalize Lib.indexByte le.data.toList bh[0]=ix at*
     clear hb0 hub
     go_wp2_with fail
     go_quiet (first
      |(go_at_call 80;exact Calls.quiet_of_same (KI.out _)))
     rcases HPL.out with ⟨hp,hix⟩|⟨p,hp,hix,hfp⟩
     ·subst hix
      go_wp2_with fail
      go_ret2
      refine ⟨0,false,rfl,⟨fun h=>by (cases h),fun _=>?_⟩,HB2.out.trans ⟨rfl,rfl,rfl,Nat.le_refl _,fun _ _=>rfl⟩⟩
      obtain ⟨k,hk,e⟩:=HST.out
      rw[e,<- HX.out,H8.out.1 (by simp),HAF.out]
      simp[hp]
     ·subst hix
      have HP:Hid (plF bh[0].toNat (lets.drop f)=some p):=hp
      have hlc:=lens_cell (HE.out.2.below HB2.out) (f+p) hfp
      have hL0:=lens_bd (f+p) hfp
      have HLN:Hid (∃L,L=lens.getD (f+p) 0):=⟨_,rfl⟩
      obtain ⟨L,hLL⟩:=HLN.out
      rw[<- hLL] at hlc hL0
      have HLL:Hid (L=lens.getD (f+p) 0):=hLL
      obtain ⟨Mm,hMm⟩:∃Mm,Mm=n*L:=⟨_,rfl⟩
      have HMm:Hid (Mm=n*L):=hMm
      have hMb:Mm<=1298801745100800:=by rw[hMm];exact Nat.le_trans (Nat.mul_le_mul hn hL0) (by decide)
      have hmul:(n:Int)*(L:Int)=(Mm:Int):=by rw[hMm,Int.natCast_mul]
      have hwr:IntKind.u64.wrap ((n:Int)*(L:Int))=(Mm:Int):=by rw[hmul,IntKind.wrap_u64];omega
      have hfp0:(f:Int)+(p:Int)<5:=by omega
      have hfp1:(f:Int)+(p:Int)<=4:=by omega
      have hpn:¬ (p:Int)<0:=by omega
      have hnw:n<4294967296:=by omega
      clear hLL hMm hp
      go_wp2_with fail
      refine ⟨⟨bh.extract 1 bh.size,f+p+1,al+Mm,rfl,?_,?_,?_,HB2.out.trans ⟨rfl,rfl,rfl,Nat.le_refl _,fun _ _=>rfl⟩⟩,?_⟩
      ·first|rfl|(congr 1;omega)
      ·first|rfl|(congr 1;omega)
      ·obtain ⟨k,hk,e⟩:=HST.out
       refine ⟨by omega,?_,?_,k,by omega,?_⟩
       ·have:=HI.out.2.1
        simp
        omega
       ·have:=HI.out.2.2.1
        have h9:(f+p+1)*1298801745100800=(f+p)*1298801745100800+1298801745100800:=by rw[Nat.succ_mul]
        have h8:f*1298801745100800<=(f+p)*1298801745100800:=Nat.mul_le_mul_right _ (by omega)
        omega
       ·rw[e,<- HX.out,H8.out.1 (by simp),HAF.out]
        simp only[Option.bind_some]
        rw[HP.out]
        simp only[Option.bind_some]
        rw[<- HLL.out,<- HMm.out]
      ·simp[szS]
       omega
def SecO(o:Option Nat)(w:World)(e:Ending)(w':World):Prop:=
 ∃(n:Nat) (b:Bool),e=.returned (.tuple #[.int .u32 (n:Int),.bool b])/\Hid ((b=true->o=some n)/\(b=false->o=none))/\Hid (Below w.heap.size w w')
theorem seconds_any(s:ByteArray)(hs:s.size<=281474976710656)(w:World)(hE:LayE w)(hL:LayT w):Calls Tryz.prog 30 #[.string s] w (SecO (ttlF s) w):=by
 have KN:=Lib.hid (num31_any s hs w hE)
 have KF:Hid (∀W,Calls Tryz.prog 52 #[.string s] W fun e w'=>e=.returned (.string (foldL s))/\Hid (Below W.heap.size W w')):=fun W=>fold_any s W (by omega)
 have KS:Hid (∀W,Below w.heap.size w W->Calls Tryz.prog 51 #[.string (foldL s)] W (SumO (sumF 6 (nums (foldL s)) 0 0) W)):=fun W hW=>sum_any (foldL s) (by rw[foldL_size];exact hs) W (hE.below hW) (hL.below hW)
 have HT:Hid (∀n,num31 (nums s)=some n->ttlF s=some n):=fun n h=>by unfold ttlF;rw[h]
 have HT2:Hid (num31 (nums s)=none->ttlF s=(sumF 6 (nums (foldL s)) 0 0).bind fun p=>if 0<p.1/\p.2<2147483648 then some p.2 else none):=fun h=>by unfold ttlF;rw[h]
 clear hE hL hs
 generalize foldL s=fs at*
 generalize ttlF s=tf at*
 go_enter Tryz.func30,Tryz.ntmps30
 go_wp2_with fail
 refine KN.out.mono ?_
 rintro e w1 ⟨n,b,rfl,Hn,H8,HB⟩
 clear KN
 cases b with
 |true=>
  have HR:Hid (tf=some n):=HT.out n (H8.out.1 rfl)
  clear H8 HT HT2 Hn
  go_wp2_with fail
  go_ret2
  exact ⟨n,true,rfl,⟨fun _=>HR.out,fun h=>by (cases h)⟩,HB.out⟩
 |false=>
  have HR:=Lib.hid (HT2.out (H8.out.2 rfl))
  clear H8 HT HT2 Hn
  go_wp2_with fail
  refine (KF.out _).mono ?_
  rintro e w2 ⟨rfl,H2⟩
  have HB2:Hid (Below w.heap.size w w2):=HB.out.trans (H2.out.mono HB.out.size)
  clear KF H2 HB
  go_wp2_with fail
  refine (KS.out _ HB2.out).mono ?_
  rintro e w3 ⟨m,b,rfl,H9,H3⟩
  have HB3:Hid (Below w.heap.size w w3):=HB2.out.trans (H3.out.mono HB2.out.size)
  clear KS H3 HB2
  go_wp2_with fail
  go_ret2
  exact ⟨m,b,rfl,⟨fun h=>by rw[HR.out];exact H9.out.1 h,fun h=>by rw[HR.out];exact H9.out.2 h⟩,HB3.out⟩
def TtO(o:Option Nat)(w:World)(e:Ending)(w':World):Prop:=
 ∃(n:Nat) (er:Int),e=.returned (.tuple #[.int .u32 (n:Int),.int .i64 er])/\Hid ((er=0/\o=some n)∨(er=240/\o=none/\n=0))/\Hid (Below w.heap.size w w')
theorem ttl_any(s:ByteArray)(hs:s.size<=281474976710656)(w:World)(hE:LayE w)(hL:LayT w):Calls Tryz.prog 16 #[.string s] w (TtO (ttlF s) w):=by
 have K:=Lib.hid (seconds_any s hs w hE hL)
 clear hE hL hs
 generalize ttlF s=tf at*
 go_enter Tryz.func16,Tryz.ntmps16
 go_wp2_with fail
 refine K.out.mono ?_
 rintro e w1 ⟨n,b,rfl,H8,HB⟩
 clear K
 cases b with
 |true=>
  have HR:=Lib.hid (H8.out.1 rfl)
  clear H8
  go_wp2_with fail
  go_ret2
  exact ⟨n,0,rfl,.inl ⟨rfl,HR.out⟩,HB.out⟩
 |false=>
  have HR:=Lib.hid (H8.out.2 rfl)
  clear H8
  go_wp2_with fail
  go_ret2
  exact ⟨0,240,rfl,.inr ⟨rfl,HR.out,rfl⟩,HB.out⟩
structure Ws(w:World)(x:Sl)(ws:List Wd):Prop where
 n:x.n=ws.length
 c:ws.length<=x.c
 c63:x.c<=9223372036854775807
 rd:RdW w x.a ws
 wb:WB ws
theorem Ws.below{w w':World}{x:Sl}{ws:List Wd}(h:Ws w x ws)(hb:Below w.heap.size w w'):Ws w' x ws:=⟨h.n,h.c,h.c63,h.rd.below hb,h.wb⟩
abbrev enV(x:Sl)(e:En):Value:=.agg #[.int .i64 e.line,.bool e.blank,.slice x.a x.n x.c]
theorem opn_size(e:En)(h:WB e.ws):(opnF e).size<=1000000:=by
 unfold opnF
 split
 ·exact Nat.zero_le _
 ·split
  ·rename_i s r hs
   exact h.2 (s,false) (by rw[hs];simp)
  ·exact Nat.zero_le _
theorem opening_any(x:Sl)(e:En)(w:World)(h:Ws w x e.ws):Calls Tryz.prog 63 #[enV x e] w fun r w'=>r=.returned (.string (opnF e))/\Hid (Below w.heap.size w w'):=by
 obtain ⟨ln,bl,ws⟩:=e
 obtain ⟨a,n,c⟩:=x
 have HN:Hid (n=ws.length):=h.n
 have hrd:RdW w a ws:=h.rd
 have HB:Hid (Below w.heap.size w (w.alloc (.cells #[.int .i64 ln,.bool bl,.slice a n c] 75))):=(Below.refl _ _).alloc (Nat.le_refl _) _
 clear h
 cases bl with
 |true=>
  have HO:Hid (opnF ⟨ln,true,ws⟩=⟨#[]⟩):=rfl
  rw[HO.out]
  go_enter Tryz.func63,Tryz.ntmps63
  go_wp2_with fail
  go_ret
  exact ⟨rfl,HB.out⟩
 |false=>
  cases ws with
  |nil=>
   have HO:Hid (opnF ⟨ln,false,[]⟩=⟨#[]⟩):=rfl
   rw[HO.out]
   have hn:n=0:=HN.out
   subst hn
   go_enter Tryz.func63,Tryz.ntmps63
   go_wp2_with fail
   go_ret
   exact ⟨rfl,HB.out⟩
  |cons p r=>
   obtain ⟨s,q⟩:=p
   obtain ⟨b,o,rfl,hb,c1,c2,-⟩:=hrd.head
   have hn0:¬ (n:Int)=0:=by have:=HN.out;simp at this;omega
   have hn1:((n:Int) == 0)=false:=by rw[beq_eq_false_iff_ne];exact hn0
   have hn2:(0:Int)<(n:Int):=by omega
   have hne:¬ w.heap.size=b:=by omega
   have hne2:¬ b=w.heap.size:=by omega
   clear hrd
   cases q with
   |true=>
    have HO:Hid (opnF ⟨ln,false,(s,true)::r⟩=⟨#[]⟩):=rfl
    rw[HO.out]
    go_enter Tryz.func63,Tryz.ntmps63
    go_wp2_with fail
    go_ret
    exact ⟨rfl,HB.out⟩
   |false=>
    have HO:Hid (opnF ⟨ln,false,(s,false)::r⟩=s):=rfl
    rw[HO.out]
    go_enter Tryz.func63,Tryz.ntmps63
    go_wp2_with fail
    go_ret
    exact ⟨rfl,HB.out⟩
theorem cmdword_any(x:Sl)(e:En)(w:World)(h:Ws w x e.ws):Calls Tryz.prog 36 #[enV x e] w fun r w'=>r=.returned (.string (foldL (opnF e)))/\Hid (Below w.heap.size w w'):=by
 have HB:Hid (Below w.heap.size w (w.alloc (.cells #[.int .i64 e.line,.bool e.blank,.slice x.a x.n x.c] 75))):=(Below.refl _ _).alloc (Nat.le_refl _) _
 have KO:=Lib.hid (opening_any x e _ (h.below HB.out))
 have KF:=Lib.hid (fun W=>fold_any (opnF e) W (by have:=opn_size e h.wb;omega))
 obtain ⟨F,hF⟩:∃F,foldL (opnF e)=F:=⟨_,rfl⟩
 have e1:(⟨(txt ((nums (opnF e)).map fz)).toArray⟩:ByteArray)=F:=hF
 rw[e1] at KF
 rw[hF]
 clear hF e1 h
 generalize opnF e=op at*
 obtain ⟨ln,bl,ws⟩:=e
 go_enter Tryz.func36,Tryz.ntmps36
 go_wp2_with fail
 refine KO.out.mono ?_
 rintro e w1 ⟨rfl,H1⟩
 have HB1:Hid (Below w.heap.size w w1):=HB.out.trans (H1.out.mono HB.out.size)
 clear KO H1
 go_wp2_with fail
 refine (KF.out _).mono ?_
 rintro e w2 ⟨rfl,H2⟩
 have HB2:Hid (Below w.heap.size w w2):=HB1.out.trans (H2.out.mono HB1.out.size)
 clear KF H2
 go_wp2_with fail
 go_ret
 exact ⟨rfl,HB2.out⟩
theorem pre_marked(e:En):Lib.hasPrefix (opnF e).data.toList [36]=marked e:=by
 unfold marked Lib.hasPrefix
 rw[nums_bi]
 generalize (opnF e).data.toList=l
 cases l with
 |nil=>rfl
 |cons c r=>
  rw[bi_cons]
  simp only[List.isPrefixOf,Bool.and_true,List.head?_cons]
  by_cases h:c=36
  ·subst h;rfl
  ·have h2:¬ ((c.toNat:Int)=36):=fun e=>h (u8i e)
   have h3:((36:UInt8) == c)=false:=by rw[beq_eq_false_iff_ne];exact fun e=>h e.symm
   rw[h3]
   symm
   rw[beq_eq_false_iff_ne]
   intro e
   injection e with e
   exact h2 e
theorem marked_any(x:Sl)(e:En)(w:World)(h:Ws w x e.ws):Calls Tryz.prog 86 #[enV x e] w fun r w'=>r=.returned (.bool (marked e))/\Hid (Below w.heap.size w w'):=by
 have HB:Hid (Below w.heap.size w (w.alloc (.cells #[.int .i64 e.line,.bool e.blank,.slice x.a x.n x.c] 75))):=(Below.refl _ _).alloc (Nat.le_refl _) _
 have KO:=Lib.hid (opening_any x e _ (h.below HB.out))
 have KP:=Lib.hid (fun W=>Tryz.strings_HasPrefix (opnF e) ⟨#[36]⟩ W)
 rw[pre_marked e] at KP
 clear h
 generalize opnF e=op at*
 generalize marked e=mk at*
 obtain ⟨ln,bl,ws⟩:=e
 go_enter Tryz.func86,Tryz.ntmps86
 go_wp2_with fail
 refine KO.out.mono ?_
 rintro e w1 ⟨rfl,H1⟩
 have HB1:Hid (Below w.heap.size w w1):=HB.out.trans (H1.out.mono HB.out.size)
 clear KO H1
 go_wp2_with fail
 refine (KP.out _).mono ?_
 rintro e w2 ⟨rfl,hw⟩
 subst w2
 clear KP
 go_wp2_with fail
 go_ret
 exact ⟨rfl,HB1.out⟩
theorem isT_nil{s:ByteArray}(h:s.data.toList=[]):isT s=false:=by
 unfold isT
 rw[nums_bi,h];rfl
theorem isT_at{s:ByteArray}(h:0<s.size):isT s=xdig (s[0].toNat:Int):=by
 unfold isT
 have:=nums_from s 0 h
 rw[List.drop_zero] at this
 rw[this]
theorem isT_any(s:ByteArray)(w:World):Calls Tryz.prog 130 #[.string s] w fun e w'=>e=.returned (.bool (isT s))/\w'=w:=by
 by_cases h0:s.data.toList=[]
 ·have e:=ba_nil h0
  rw[isT_nil h0]
  subst e
  go_enter Tryz.func130,Tryz.ntmps130
  go_wp2_with fail
  go_ret
  exact ⟨rfl,rfl⟩
 ·have hne:(s.toList == [])=false:=by rw[beq_eq_false_iff_ne,Lib.toList_data];exact h0
  have h1:0<s.size:=by have:=size_ne h0;omega
  have h1':(0:Int)<(s.size:Int):=by omega
  rw[isT_at h1]
  clear h0
  by_cases ha:48<=s[0].toNat
  ·have ha':(48:Int)<=(s[0].toNat:Int):=by omega
   by_cases hb:s[0].toNat<=57
   ·have hb':(s[0].toNat:Int)<=57:=by omega
    have e:xdig (s[0].toNat:Int)=true:=by unfold xdig;simp;omega
    rw[e]
    go_enter Tryz.func130,Tryz.ntmps130
    go_wp2_with fail
    go_ret
    exact ⟨rfl,rfl⟩
   ·have hb':¬ (s[0].toNat:Int)<=57:=by omega
    have e:xdig (s[0].toNat:Int)=false:=by unfold xdig;simp;omega
    rw[e]
    go_enter Tryz.func130,Tryz.ntmps130
    go_wp2_with fail
    go_ret
    exact ⟨rfl,rfl⟩
  ·have ha':¬ (48:Int)<=(s[0].toNat:Int):=by omega
   have e:xdig (s[0].toNat:Int)=false:=by unfold xdig;simp;omega
   rw[e]
   go_enter Tryz.func130,Tryz.ntmps130
   go_wp2_with fail
   go_ret
   exact ⟨rfl,rfl⟩
theorem res_err{o:Option Nat}{x y:Int}(h:Res o x y):(o.isSome=true/\y=0/\∃n:Nat,o=some n/\x=n)∨(o.isSome=false/\y=6/\x=0/\o=none):=by
 cases o with
 |none=>exact .inr ⟨rfl,(h.2 rfl).2,(h.2 rfl).1,rfl⟩
 |some n=>exact .inl ⟨rfl,(h.1 n rfl).2,n,rfl,(h.1 n rfl).1⟩
theorem isC_any(s:ByteArray)(hs:s.size<=1000000)(w:World)(hL:LayT w)(hE:LayE w):Calls Tryz.prog 131 #[.string s] w fun e w'=>e=.returned (.bool (isC s))/\Hid (Below w.heap.size w w'):=by
 have KT:Hid (∀W,Below w.heap.size w W->Calls Tryz.prog 147 #[.string s] W fun e w'=>∃x y,e=.returned (.tuple #[.int .u16 x,.int .i64 y])/\Hid (Res (tyF s) x y)/\Hid (Below W.heap.size W w')):=fun W hW=>ptype_any s (by omega) W (hL.below hW) (hE.below hW)
 have HI:Hid (isC s=((clF s).isSome && (tyF s).isNone)):=rfl
 have KC:Hid (Calls Tryz.prog 132 #[.string s] w fun e w'=>∃x y,e=.returned (.tuple #[.int .u16 x,.int .i64 y])/\Hid (Res (clF s) x y)/\Hid (Below w.heap.size w w')):=pclass_any s (by omega) w hL hE
 clear hL hE
 generalize isC s=ic at*
 generalize clF s=oc at*
 generalize tyF s=ot at*
 go_enter Tryz.func131,Tryz.ntmps131
 go_wp2_with fail
 refine KC.out.mono ?_
 rintro e w1 ⟨x,y,rfl,HR,HB⟩
 clear KC
 go_wp2_with fail
 refine (KT.out _ HB.out).mono ?_
 rintro e w2 ⟨x2,y2,rfl,HR2,HB2⟩
 have HB3:Hid (Below w.heap.size w w2):=HB.out.trans (HB2.out.mono HB.out.size)
 clear KT HB HB2
 rcases res_err HR.out with ⟨a1,rfl,-⟩|⟨a1,rfl,-⟩
 ·rcases res_err HR2.out with ⟨a2,rfl,-⟩|⟨a2,rfl,-⟩
  ·have hic:ic=false:=by rw[HI.out,a1];cases ot <;> simp at a2 ⊢
   subst hic
   clear a1 a2 HR HR2 HI
   go_wp2_with fail
   go_ret
   exact ⟨rfl,HB3.out⟩
  ·have hic:ic=true:=by rw[HI.out,a1];cases ot <;> simp at a2 ⊢
   subst hic
   clear a1 a2 HR HR2 HI
   go_wp2_with fail
   go_ret
   exact ⟨rfl,HB3.out⟩
 ·have hic:ic=false:=by rw[HI.out,a1];rfl
  subst hic
  clear a1 HR HR2 HI
  go_wp2_with fail
  go_ret
  exact ⟨rfl,HB3.out⟩
def styF(s:ByteArray):Nat × Int:=match tyF s with
 |some n=>if storedF n then (n,0) else (n,6)
 |none=>(0,6)
theorem stype_any(s:ByteArray)(hs:s.size<=1000000)(w:World)(hL:LayT w)(hE:LayE w):Calls Tryz.prog 133 #[.string s] w fun e w'=>e=.returned (.tuple #[.int .u16 ((styF s).1:Int),.int .i64 (styF s).2])/\Hid (Below w.heap.size w w'):=by
 have KT:Hid (Calls Tryz.prog 147 #[.string s] w fun e w'=>∃x y,e=.returned (.tuple #[.int .u16 x,.int .i64 y])/\Hid (Res (tyF s) x y)/\Hid (Below w.heap.size w w')):=ptype_any s (by omega) w hL hE
 have HI:Hid (∀n,tyF s=some n->styF s=if storedF n then (n,0) else (n,6)):=fun n h=>by unfold styF;rw[h]
 have HI2:Hid (tyF s=none->styF s=(0,6)):=fun h=>by unfold styF;rw[h]
 clear hL hE
 generalize tyF s=ot at*
 generalize styF s=st at*
 go_enter Tryz.func133,Tryz.ntmps133
 go_wp2_with fail
 refine KT.out.mono ?_
 rintro e w2 ⟨x2,y2,rfl,HR2,HB2⟩
 clear KT
 rcases res_err HR2.out with ⟨a2,rfl,n,hn,rfl⟩|⟨a2,rfl,rfl,hn⟩
 ·have hs:=HI.out n hn
  have KS:=Lib.hid (fun W=>stored_any (n:Int) W)
  cases hst:storedF (n:Int) with
  |true=>
   rw[hst] at hs KS
   simp only[if_true] at hs
   subst hs
   clear HI HI2 HR2 a2 hn hst
   go_wp2_with fail
   refine (KS.out _).mono ?_
   rintro e W ⟨rfl,rfl⟩
   go_wp2_with fail
   go_ret2
   exact ⟨rfl,HB2.out⟩
  |false=>
   rw[hst] at hs KS
   simp only[Bool.false_eq_true,if_false] at hs
   subst hs
   clear HI HI2 HR2 a2 hn hst
   go_wp2_with fail
   refine (KS.out _).mono ?_
   rintro e W ⟨rfl,rfl⟩
   go_wp2_with fail
   go_ret2
   exact ⟨rfl,HB2.out⟩
 ·have hs:=HI2.out hn
  subst hs
  clear HI HI2 HR2 a2 hn
  go_wp2_with fail
  go_ret2
  exact ⟨rfl,HB2.out⟩
def SyB(w:World)(b:Nat)(y:Say):Prop:=w.heap[b]?=some (.cells #[.int .u16 (y.k:Int),.int .u16 (y.c:Int),.int .u32 (y.t:Int),.bool y.hk,.bool y.hc,.bool y.ht] 143 (0,0))
theorem SyB.lt{w:World}{b:Nat}{y:Say}(h:SyB w b y):b<w.heap.size:=(Array.getElem?_eq_some_iff.1 h).1
theorem SyB.c0{w:World}{b:Nat}{y:Say}(h:SyB w b y):w.cell? ⟨b,0,none⟩=some (.int .u16 (y.k:Int)):=by unfold World.cell?;rw[show w.heap[b]?=_ from h];rfl
theorem SyB.c1{w:World}{b:Nat}{y:Say}(h:SyB w b y):w.cell? ⟨b,1,none⟩=some (.int .u16 (y.c:Int)):=by unfold World.cell?;rw[show w.heap[b]?=_ from h];rfl
theorem SyB.c2{w:World}{b:Nat}{y:Say}(h:SyB w b y):w.cell? ⟨b,2,none⟩=some (.int .u32 (y.t:Int)):=by unfold World.cell?;rw[show w.heap[b]?=_ from h];rfl
theorem SyB.c3{w:World}{b:Nat}{y:Say}(h:SyB w b y):w.cell? ⟨b,3,none⟩=some (.bool y.hk):=by unfold World.cell?;rw[show w.heap[b]?=_ from h];rfl
theorem SyB.c4{w:World}{b:Nat}{y:Say}(h:SyB w b y):w.cell? ⟨b,4,none⟩=some (.bool y.hc):=by unfold World.cell?;rw[show w.heap[b]?=_ from h];rfl
theorem SyB.c5{w:World}{b:Nat}{y:Say}(h:SyB w b y):w.cell? ⟨b,5,none⟩=some (.bool y.ht):=by unfold World.cell?;rw[show w.heap[b]?=_ from h];rfl
theorem SyB.fz{w:World}{b:Nat}{y:Say}(h:SyB w b y)(i:Nat):w.frozen? ⟨b,i,none⟩=false:=by
 unfold World.frozen?
 rw[show w.heap[b]?=_ from h]
 simp
theorem SyB.set0{w:World}{b:Nat}{y:Say}(h:SyB w b y)(n:Nat):SyB (w.setCell ⟨b,0,none⟩ (.int .u16 (n:Int))) b { y with k:=n }:=by
 have:=heap_set h 0 (.int .u16 (n:Int));simpa [SyB] using this
theorem SyB.set1{w:World}{b:Nat}{y:Say}(h:SyB w b y)(n:Nat):SyB (w.setCell ⟨b,1,none⟩ (.int .u16 (n:Int))) b { y with c:=n }:=by
 have:=heap_set h 1 (.int .u16 (n:Int));simpa [SyB] using this
theorem SyB.set2{w:World}{b:Nat}{y:Say}(h:SyB w b y)(n:Nat):SyB (w.setCell ⟨b,2,none⟩ (.int .u32 (n:Int))) b { y with t:=n }:=by
 have:=heap_set h 2 (.int .u32 (n:Int));simpa [SyB] using this
theorem SyB.set3{w:World}{b:Nat}{y:Say}(h:SyB w b y)(q:Bool):SyB (w.setCell ⟨b,3,none⟩ (.bool q)) b { y with hk:=q }:=by
 have:=heap_set h 3 (.bool q);simpa [SyB] using this
theorem SyB.set4{w:World}{b:Nat}{y:Say}(h:SyB w b y)(q:Bool):SyB (w.setCell ⟨b,4,none⟩ (.bool q)) b { y with hc:=q }:=by
 have:=heap_set h 4 (.bool q);simpa [SyB] using this
theorem SyB.set5{w:World}{b:Nat}{y:Say}(h:SyB w b y)(q:Bool):SyB (w.setCell ⟨b,5,none⟩ (.bool q)) b { y with ht:=q }:=by
 have:=heap_set h 5 (.bool q);simpa [SyB] using this
structure TS(w0 w1 w:World)(b bx:Nat)(y:Say)(s:ByteArray)(q:Bool):Prop where
 sy:SyB w b y
 bxh:w.heap[bx]?=some (.cells #[.string s,.bool q] 77 (0,0))
 bel:Below w0.heap.size w0 w
 bb:Below b w1 w
 hb:w0.heap.size<=b
 hx:b≠bx
theorem TS.b0{w0 w1 w:World}{b bx:Nat}{y:Say}{s:ByteArray}{q:Bool}(h:TS w0 w1 w b bx y s q):w.cell? ⟨bx,0,none⟩=some (.string s):=by unfold World.cell?;rw[h.bxh];rfl
theorem TS.b1{w0 w1 w:World}{b bx:Nat}{y:Say}{s:ByteArray}{q:Bool}(h:TS w0 w1 w b bx y s q):w.cell? ⟨bx,1,none⟩=some (.bool q):=by unfold World.cell?;rw[h.bxh];rfl
theorem TS.step{w0 w1 w w':World}{b bx:Nat}{y:Say}{s:ByteArray}{q:Bool}(h:TS w0 w1 w b bx y s q)(hb:Below w.heap.size w w'):TS w0 w1 w' b bx y s q:=
 ⟨(hb.block _ h.sy.lt).trans h.sy,(hb.block _ (Array.getElem?_eq_some_iff.1 h.bxh).1).trans h.bxh,h.bel.trans (hb.mono h.bel.size),h.bb.trans (hb.mono (Nat.le_of_lt h.sy.lt)),h.hb,h.hx⟩
theorem TS.set{w0 w1 w:World}{b bx:Nat}{y y':Say}{s:ByteArray}{q:Bool}(h:TS w0 w1 w b bx y s q){i:Nat}{v:Value}(hs:SyB (w.setCell ⟨b,i,none⟩ v) b y'):TS w0 w1 (w.setCell ⟨b,i,none⟩ v) b bx y' s q:=
 ⟨hs,(Below.heap_setCell _ _ _ bx (by show bx≠b;exact fun e=>h.hx e.symm)).trans h.bxh,h.bel.setCell (p:=⟨b,i,none⟩) h.hb _,h.bb.setCell (p:=⟨b,i,none⟩) (Nat.le_refl _) _,h.hb,h.hx⟩
theorem set_al(w:World)(b i:Nat)(v:Value)(o:Obj)(hb:b<w.heap.size):(w.alloc o).setCell ⟨b,i,none⟩ v=(w.setCell ⟨b,i,none⟩ v).alloc o:=by
 first
 |exact World.setCell_alloc_past _ _ _ _ hb
 |simp[hb]
def TakP(b:Nat)(r:Except Int Say)(w:World)(e:Ending)(w':World):Prop:=
 ∃er:Int,e=.returned (.int .i64 er)/\Hid (Below b w w')/\Hid ((er=0/\∃y',r=.ok y'/\SyB w' b y')∨(er≠0/\r=.error er/\∃y',SyB w' b y'))
theorem sty_cases(s:ByteArray):(styF s).2=0∨(styF s).2=6:=by
 unfold styF
 split
 ·split
  ·exact .inl rfl
  ·exact .inr rfl
 ·exact .inr rfl
theorem tk_eq(y:Say)(s:ByteArray):tkF y (s,false)=if (y.ht && isT s)=true then .error 240 else if (y.hc && isC s)=true then .error 240 else if isT s=true then (match ttlF s with|some n=>.ok { y with t:=n,ht:=true }|none=>.error 240)
  else if isC s=true then (match clF s with|some n=>.ok { y with c:=n,hc:=true }|none=>.error 6) else if (styF s).2=0 then .ok { y with k:=(styF s).1,hk:=true } else .error 6:=by
 unfold tkF
 simp only[Bool.false_eq_true,if_false]
 split
 ·rfl
 split
 ·rfl
 split
 ·rfl
 split
 ·rfl
 unfold styF
 cases tyF s with
 |none=>simp
 |some n=>
  simp only
  cases h:storedF (n:Int) <;> simp
theorem take_any(w0 w:World)(b:Nat)(y:Say)(s:ByteArray)(q:Bool)(hy:SyB w b y)(hb0:w0.heap.size<=b)(h0:Below w0.heap.size w0 w)(hs:s.size<=1000000)(hL:LayT w0)(hE:LayE w0) :
  Calls Tryz.prog 109 #[.pointer (some ⟨b,0,none⟩),.agg #[.string s,.bool q]] w (TakP b (tkF y (s,q)) w):=by
 have HBX:Hid (Below w.heap.size w (w.alloc (.cells #[.string s,.bool q] 77))):=(Below.refl _ _).alloc (Nat.le_refl _) _
 have HS:Hid (TS w0 w (w.alloc (.cells #[.string s,.bool q] 77)) b w.heap.size y s q):=⟨(HBX.out.block _ hy.lt).trans hy,heap_alloc_new _ _,h0.trans (HBX.out.mono h0.size),HBX.out.mono (Nat.le_of_lt hy.lt),hb0,by have:=hy.lt;omega⟩
 obtain ⟨k,c,t,hk,hc,ht⟩:=y
 have hne:¬ w.heap.size=b:=by have:=hy.lt;omega
 have hne2:¬ b=w.heap.size:=fun e=>hne e.symm
 have hlt:=hy.lt
 cases q with
 |true=>
  have HR:Hid (tkF ⟨k,c,t,hk,hc,ht⟩ (s,true)=.error 240):=rfl
  rw[HR.out]
  clear hy h0 hL hE
  go_enter Tryz.func109,Tryz.ntmps109
  go_wp2_with fail
  go_ret
  exact ⟨240,rfl,HS.out.bb,.inr ⟨by decide,rfl,_,HS.out.sy⟩⟩
 |false=>
  have KT:Hid (∀W,Calls Tryz.prog 130 #[.string s] W fun e w'=>e=.returned (.bool (isT s))/\w'=W):=fun W=>isT_any s W
  have KC:Hid (∀W,Below w0.heap.size w0 W->Calls Tryz.prog 131 #[.string s] W fun e w'=>e=.returned (.bool (isC s))/\Hid (Below W.heap.size W w')):=fun W hW=>isC_any s hs W (hL.below hW) (hE.below hW)
  have KS:Hid (∀W,Below w0.heap.size w0 W->Calls Tryz.prog 16 #[.string s] W (TtO (ttlF s) W)):=fun W hW=>ttl_any s (by omega) W (hE.below hW) (hL.below hW)
  have KP:Hid (∀W,Below w0.heap.size w0 W->Calls Tryz.prog 132 #[.string s] W fun e w'=>∃x y,e=.returned (.tuple #[.int .u16 x,.int .i64 y])/\Hid (Res (clF s) x y)/\Hid (Below W.heap.size W w')):=fun W hW=>pclass_any s (by omega) W (hL.below hW) (hE.below hW)
  have KY:Hid (∀W,Below w0.heap.size w0 W->Calls Tryz.prog 133 #[.string s] W fun e w'=>e=.returned (.tuple #[.int .u16 ((styF s).1:Int),.int .i64 (styF s).2])/\Hid (Below W.heap.size W w')):=fun W hW=>stype_any s hs W (hL.below hW) (hE.below hW)
  have HY:=Lib.hid (sty_cases s)
  have HR:=Lib.hid (tk_eq ⟨k,c,t,hk,hc,ht⟩ s)
  clear hy h0 hL hE
  generalize tkF ⟨k,c,t,hk,hc,ht⟩ (s,false)=R at*
  generalize isT s=tT at*
  generalize isC s=cC at*
  generalize ttlF s=ot at*
  generalize clF s=oc at*
  generalize (styF s).1=sy1 at*
  generalize (styF s).2=sy2 at*
  cases ht with
  |false=>
   cases hc with
   |false=>
    cases tT with
    |false=>
     cases cC with
     |false=>
      have k3:(w.alloc (.cells #[.string s,.bool false] 77)).cell? ⟨b,3,none⟩=some (.bool hk):=HS.out.sy.c3
      have k4:(w.alloc (.cells #[.string s,.bool false] 77)).cell? ⟨b,4,none⟩=some (.bool false):=HS.out.sy.c4
      have k5:(w.alloc (.cells #[.string s,.bool false] 77)).cell? ⟨b,5,none⟩=some (.bool false):=HS.out.sy.c5
      have x0:(w.alloc (.cells #[.string s,.bool false] 77)).cell? ⟨w.heap.size,0,none⟩=some (.string s):=HS.out.b0
      have x1:(w.alloc (.cells #[.string s,.bool false] 77)).cell? ⟨w.heap.size,1,none⟩=some (.bool false):=HS.out.b1
      have f0:=HS.out.sy.fz 0
      have f1:=HS.out.sy.fz 1
      have f2:=HS.out.sy.fz 2
      have f3:=HS.out.sy.fz 3
      have f4:=HS.out.sy.fz 4
      have f5:=HS.out.sy.fz 5
      go_enter Tryz.func109,Tryz.ntmps109
      go_wp2_with (first|(go_at_call 130;refine (KT.out _).mono ?_;rintro e W ⟨rfl,rfl⟩)|(go_at_call 131;refine (KC.out _ HS.out.bel).mono ?_;rintro e w1 ⟨rfl,H1⟩;have HS:Hid (TS w0 w w1 b w.heap.size ⟨k,c,t,hk,false,false⟩ s false):=HS.out.step H1.out;have k3:w1.cell? ⟨b,3,none⟩=some (.bool hk):=HS.out.sy.c3;have k4:w1.cell? ⟨b,4,none⟩=some (.bool false):=HS.out.sy.c4;have k5:w1.cell? ⟨b,5,none⟩=some (.bool false):=HS.out.sy.c5;have x0:w1.cell? ⟨w.heap.size,0,none⟩=some (.string s):=HS.out.b0;have x1:w1.cell? ⟨w.heap.size,1,none⟩=some (.bool false):=HS.out.b1;have f0:=HS.out.sy.fz 0;have f1:=HS.out.sy.fz 1;have f2:=HS.out.sy.fz 2;have f3:=HS.out.sy.fz 3;have f4:=HS.out.sy.fz 4;have f5:=HS.out.sy.fz 5))
      have HS5:=Lib.hid (HS.out.set (HS.out.sy.set3 true))
      refine (KY.out _ HS5.out.bel).mono ?_
      rintro e w2 ⟨rfl,H2⟩
      have HS:=Lib.hid (HS5.out.step H2.out)
      have f0:=HS.out.sy.fz 0
      have g0:=HS.out.sy.c0
      have HS7:=Lib.hid (HS.out.set (HS.out.sy.set0 sy1))
      go_wp2_with fail
      go_ret
      refine ⟨sy2,rfl,HS7.out.bb,?_⟩
      rcases HY.out with h|h
      ·exact .inl ⟨h,_,by rw[HR.out];simp[h],HS7.out.sy⟩
      ·exact .inr ⟨by omega,by rw[HR.out];simp[h],_,HS7.out.sy⟩
     |true=>
      have k3:(w.alloc (.cells #[.string s,.bool false] 77)).cell? ⟨b,3,none⟩=some (.bool hk):=HS.out.sy.c3
      have k4:(w.alloc (.cells #[.string s,.bool false] 77)).cell? ⟨b,4,none⟩=some (.bool false):=HS.out.sy.c4
      have k5:(w.alloc (.cells #[.string s,.bool false] 77)).cell? ⟨b,5,none⟩=some (.bool false):=HS.out.sy.c5
      have x0:(w.alloc (.cells #[.string s,.bool false] 77)).cell? ⟨w.heap.size,0,none⟩=some (.string s):=HS.out.b0
      have x1:(w.alloc (.cells #[.string s,.bool false] 77)).cell? ⟨w.heap.size,1,none⟩=some (.bool false):=HS.out.b1
      have f0:=HS.out.sy.fz 0
      have f1:=HS.out.sy.fz 1
      have f2:=HS.out.sy.fz 2
      have f3:=HS.out.sy.fz 3
      have f4:=HS.out.sy.fz 4
      have f5:=HS.out.sy.fz 5
      go_enter Tryz.func109,Tryz.ntmps109
      go_wp2_with (first|(go_at_call 130;refine (KT.out _).mono ?_;rintro e W ⟨rfl,rfl⟩)|(go_at_call 131;refine (KC.out _ HS.out.bel).mono ?_;rintro e w1 ⟨rfl,H1⟩;have HS:Hid (TS w0 w w1 b w.heap.size ⟨k,c,t,hk,false,false⟩ s false):=HS.out.step H1.out;have k3:w1.cell? ⟨b,3,none⟩=some (.bool hk):=HS.out.sy.c3;have k4:w1.cell? ⟨b,4,none⟩=some (.bool false):=HS.out.sy.c4;have k5:w1.cell? ⟨b,5,none⟩=some (.bool false):=HS.out.sy.c5;have x0:w1.cell? ⟨w.heap.size,0,none⟩=some (.string s):=HS.out.b0;have x1:w1.cell? ⟨w.heap.size,1,none⟩=some (.bool false):=HS.out.b1;have f0:=HS.out.sy.fz 0;have f1:=HS.out.sy.fz 1;have f2:=HS.out.sy.fz 2;have f3:=HS.out.sy.fz 3;have f4:=HS.out.sy.fz 4;have f5:=HS.out.sy.fz 5))
      have HS5:=Lib.hid (HS.out.set (HS.out.sy.set4 true))
      refine (KP.out _ HS5.out.bel).mono ?_
      rintro e w2 ⟨x,er,rfl,H8,H2⟩
      have HS:=Lib.hid (HS5.out.step H2.out)
      have f1:=HS.out.sy.fz 1
      have g1:=HS.out.sy.c1
      rcases res_err H8.out with ⟨-,rfl,n,h,rfl⟩|⟨-,rfl,rfl,h⟩
      ·have HO:=Lib.hid h
       clear h H8
       have HS7:=Lib.hid (HS.out.set (HS.out.sy.set1 n))
       go_wp2_with fail
       go_ret
       exact ⟨0,rfl,HS7.out.bb,.inl ⟨rfl,_,by rw[HR.out,HO.out];rfl,HS7.out.sy⟩⟩
      ·have HO:=Lib.hid h
       clear h H8
       have HS7:=Lib.hid (HS.out.set (HS.out.sy.set1 0))
       go_wp2_with fail
       go_ret
       exact ⟨6,rfl,HS7.out.bb,.inr ⟨by decide,by rw[HR.out,HO.out];rfl,_,HS7.out.sy⟩⟩
    |true=>
     cases cC with
     |false=>
      have k3:(w.alloc (.cells #[.string s,.bool false] 77)).cell? ⟨b,3,none⟩=some (.bool hk):=HS.out.sy.c3
      have k4:(w.alloc (.cells #[.string s,.bool false] 77)).cell? ⟨b,4,none⟩=some (.bool false):=HS.out.sy.c4
      have k5:(w.alloc (.cells #[.string s,.bool false] 77)).cell? ⟨b,5,none⟩=some (.bool false):=HS.out.sy.c5
      have x0:(w.alloc (.cells #[.string s,.bool false] 77)).cell? ⟨w.heap.size,0,none⟩=some (.string s):=HS.out.b0
      have x1:(w.alloc (.cells #[.string s,.bool false] 77)).cell? ⟨w.heap.size,1,none⟩=some (.bool false):=HS.out.b1
      have f0:=HS.out.sy.fz 0
      have f1:=HS.out.sy.fz 1
      have f2:=HS.out.sy.fz 2
      have f3:=HS.out.sy.fz 3
      have f4:=HS.out.sy.fz 4
      have f5:=HS.out.sy.fz 5
      go_enter Tryz.func109,Tryz.ntmps109
      go_wp2_with (first|(go_at_call 130;refine (KT.out _).mono ?_;rintro e W ⟨rfl,rfl⟩)|(go_at_call 131;refine (KC.out _ HS.out.bel).mono ?_;rintro e w1 ⟨rfl,H1⟩;have HS:Hid (TS w0 w w1 b w.heap.size ⟨k,c,t,hk,false,false⟩ s false):=HS.out.step H1.out;have k3:w1.cell? ⟨b,3,none⟩=some (.bool hk):=HS.out.sy.c3;have k4:w1.cell? ⟨b,4,none⟩=some (.bool false):=HS.out.sy.c4;have k5:w1.cell? ⟨b,5,none⟩=some (.bool false):=HS.out.sy.c5;have x0:w1.cell? ⟨w.heap.size,0,none⟩=some (.string s):=HS.out.b0;have x1:w1.cell? ⟨w.heap.size,1,none⟩=some (.bool false):=HS.out.b1;have f0:=HS.out.sy.fz 0;have f1:=HS.out.sy.fz 1;have f2:=HS.out.sy.fz 2;have f3:=HS.out.sy.fz 3;have f4:=HS.out.sy.fz 4;have f5:=HS.out.sy.fz 5))
      have HS5:Hid (TS w0 w ((w.setCell ⟨b,5,none⟩ (.bool true)).alloc (.cells #[.string s,.bool false] 77)) b w.heap.size ⟨k,c,t,hk,false,true⟩ s false):=by rw[<- set_al w b 5 (.bool true) _ hlt];exact HS.out.set (HS.out.sy.set5 true)
      refine (KS.out _ HS5.out.bel).mono ?_
      rintro e w2 ⟨n,er,rfl,H8,H2⟩
      have HS:=Lib.hid (HS5.out.step H2.out)
      have f2:=HS.out.sy.fz 2
      have g2:=HS.out.sy.c2
      have HS7:=Lib.hid (HS.out.set (HS.out.sy.set2 n))
      go_wp2_with fail
      go_ret
      refine ⟨er,rfl,HS7.out.bb,?_⟩
      rcases H8.out with ⟨rfl,h⟩|⟨rfl,h,-⟩
      ·exact .inl ⟨rfl,_,by rw[HR.out,h];rfl,HS7.out.sy⟩
      ·exact .inr ⟨by decide,by rw[HR.out,h];rfl,_,HS7.out.sy⟩
     |true=>
      have k3:(w.alloc (.cells #[.string s,.bool false] 77)).cell? ⟨b,3,none⟩=some (.bool hk):=HS.out.sy.c3
      have k4:(w.alloc (.cells #[.string s,.bool false] 77)).cell? ⟨b,4,none⟩=some (.bool false):=HS.out.sy.c4
      have k5:(w.alloc (.cells #[.string s,.bool false] 77)).cell? ⟨b,5,none⟩=some (.bool false):=HS.out.sy.c5
      have x0:(w.alloc (.cells #[.string s,.bool false] 77)).cell? ⟨w.heap.size,0,none⟩=some (.string s):=HS.out.b0
      have x1:(w.alloc (.cells #[.string s,.bool false] 77)).cell? ⟨w.heap.size,1,none⟩=some (.bool false):=HS.out.b1
      have f0:=HS.out.sy.fz 0
      have f1:=HS.out.sy.fz 1
      have f2:=HS.out.sy.fz 2
      have f3:=HS.out.sy.fz 3
      have f4:=HS.out.sy.fz 4
      have f5:=HS.out.sy.fz 5
      go_enter Tryz.func109,Tryz.ntmps109
      go_wp2_with (first|(go_at_call 130;refine (KT.out _).mono ?_;rintro e W ⟨rfl,rfl⟩)|(go_at_call 131;refine (KC.out _ HS.out.bel).mono ?_;rintro e w1 ⟨rfl,H1⟩;have HS:Hid (TS w0 w w1 b w.heap.size ⟨k,c,t,hk,false,false⟩ s false):=HS.out.step H1.out;have k3:w1.cell? ⟨b,3,none⟩=some (.bool hk):=HS.out.sy.c3;have k4:w1.cell? ⟨b,4,none⟩=some (.bool false):=HS.out.sy.c4;have k5:w1.cell? ⟨b,5,none⟩=some (.bool false):=HS.out.sy.c5;have x0:w1.cell? ⟨w.heap.size,0,none⟩=some (.string s):=HS.out.b0;have x1:w1.cell? ⟨w.heap.size,1,none⟩=some (.bool false):=HS.out.b1;have f0:=HS.out.sy.fz 0;have f1:=HS.out.sy.fz 1;have f2:=HS.out.sy.fz 2;have f3:=HS.out.sy.fz 3;have f4:=HS.out.sy.fz 4;have f5:=HS.out.sy.fz 5))
      have HS5:Hid (TS w0 w ((w.setCell ⟨b,5,none⟩ (.bool true)).alloc (.cells #[.string s,.bool false] 77)) b w.heap.size ⟨k,c,t,hk,false,true⟩ s false):=by rw[<- set_al w b 5 (.bool true) _ hlt];exact HS.out.set (HS.out.sy.set5 true)
      refine (KS.out _ HS5.out.bel).mono ?_
      rintro e w2 ⟨n,er,rfl,H8,H2⟩
      have HS:=Lib.hid (HS5.out.step H2.out)
      have f2:=HS.out.sy.fz 2
      have g2:=HS.out.sy.c2
      have HS7:=Lib.hid (HS.out.set (HS.out.sy.set2 n))
      go_wp2_with fail
      go_ret
      refine ⟨er,rfl,HS7.out.bb,?_⟩
      rcases H8.out with ⟨rfl,h⟩|⟨rfl,h,-⟩
      ·exact .inl ⟨rfl,_,by rw[HR.out,h];rfl,HS7.out.sy⟩
      ·exact .inr ⟨by decide,by rw[HR.out,h];rfl,_,HS7.out.sy⟩
   |true=>
    cases tT with
    |false=>
     cases cC with
     |false=>
      have k3:(w.alloc (.cells #[.string s,.bool false] 77)).cell? ⟨b,3,none⟩=some (.bool hk):=HS.out.sy.c3
      have k4:(w.alloc (.cells #[.string s,.bool false] 77)).cell? ⟨b,4,none⟩=some (.bool true):=HS.out.sy.c4
      have k5:(w.alloc (.cells #[.string s,.bool false] 77)).cell? ⟨b,5,none⟩=some (.bool false):=HS.out.sy.c5
      have x0:(w.alloc (.cells #[.string s,.bool false] 77)).cell? ⟨w.heap.size,0,none⟩=some (.string s):=HS.out.b0
      have x1:(w.alloc (.cells #[.string s,.bool false] 77)).cell? ⟨w.heap.size,1,none⟩=some (.bool false):=HS.out.b1
      have f0:=HS.out.sy.fz 0
      have f1:=HS.out.sy.fz 1
      have f2:=HS.out.sy.fz 2
      have f3:=HS.out.sy.fz 3
      have f4:=HS.out.sy.fz 4
      have f5:=HS.out.sy.fz 5
      go_enter Tryz.func109,Tryz.ntmps109
      go_wp2_with (first|(go_at_call 130;refine (KT.out _).mono ?_;rintro e W ⟨rfl,rfl⟩)|(go_at_call 131;refine (KC.out _ HS.out.bel).mono ?_;rintro e w1 ⟨rfl,H1⟩;have HS:Hid (TS w0 w w1 b w.heap.size ⟨k,c,t,hk,true,false⟩ s false):=HS.out.step H1.out;have k3:w1.cell? ⟨b,3,none⟩=some (.bool hk):=HS.out.sy.c3;have k4:w1.cell? ⟨b,4,none⟩=some (.bool true):=HS.out.sy.c4;have k5:w1.cell? ⟨b,5,none⟩=some (.bool false):=HS.out.sy.c5;have x0:w1.cell? ⟨w.heap.size,0,none⟩=some (.string s):=HS.out.b0;have x1:w1.cell? ⟨w.heap.size,1,none⟩=some (.bool false):=HS.out.b1;have f0:=HS.out.sy.fz 0;have f1:=HS.out.sy.fz 1;have f2:=HS.out.sy.fz 2;have f3:=HS.out.sy.fz 3;have f4:=HS.out.sy.fz 4;have f5:=HS.out.sy.fz 5))
      have HS5:=Lib.hid (HS.out.set (HS.out.sy.set3 true))
      refine (KY.out _ HS5.out.bel).mono ?_
      rintro e w2 ⟨rfl,H2⟩
      have HS:=Lib.hid (HS5.out.step H2.out)
      have f0:=HS.out.sy.fz 0
      have g0:=HS.out.sy.c0
      have HS7:=Lib.hid (HS.out.set (HS.out.sy.set0 sy1))
      go_wp2_with fail
      go_ret
      refine ⟨sy2,rfl,HS7.out.bb,?_⟩
      rcases HY.out with h|h
      ·exact .inl ⟨h,_,by rw[HR.out];simp[h],HS7.out.sy⟩
      ·exact .inr ⟨by omega,by rw[HR.out];simp[h],_,HS7.out.sy⟩
     |true=>
      have k3:(w.alloc (.cells #[.string s,.bool false] 77)).cell? ⟨b,3,none⟩=some (.bool hk):=HS.out.sy.c3
      have k4:(w.alloc (.cells #[.string s,.bool false] 77)).cell? ⟨b,4,none⟩=some (.bool true):=HS.out.sy.c4
      have k5:(w.alloc (.cells #[.string s,.bool false] 77)).cell? ⟨b,5,none⟩=some (.bool false):=HS.out.sy.c5
      have x0:(w.alloc (.cells #[.string s,.bool false] 77)).cell? ⟨w.heap.size,0,none⟩=some (.string s):=HS.out.b0
      have x1:(w.alloc (.cells #[.string s,.bool false] 77)).cell? ⟨w.heap.size,1,none⟩=some (.bool false):=HS.out.b1
      have f0:=HS.out.sy.fz 0
      have f1:=HS.out.sy.fz 1
      have f2:=HS.out.sy.fz 2
      have f3:=HS.out.sy.fz 3
      have f4:=HS.out.sy.fz 4
      have f5:=HS.out.sy.fz 5
      go_enter Tryz.func109,Tryz.ntmps109
      go_wp2_with (first|(go_at_call 130;refine (KT.out _).mono ?_;rintro e W ⟨rfl,rfl⟩)|(go_at_call 131;refine (KC.out _ HS.out.bel).mono ?_;rintro e w1 ⟨rfl,H1⟩;have HS:Hid (TS w0 w w1 b w.heap.size ⟨k,c,t,hk,true,false⟩ s false):=HS.out.step H1.out;have k3:w1.cell? ⟨b,3,none⟩=some (.bool hk):=HS.out.sy.c3;have k4:w1.cell? ⟨b,4,none⟩=some (.bool true):=HS.out.sy.c4;have k5:w1.cell? ⟨b,5,none⟩=some (.bool false):=HS.out.sy.c5;have x0:w1.cell? ⟨w.heap.size,0,none⟩=some (.string s):=HS.out.b0;have x1:w1.cell? ⟨w.heap.size,1,none⟩=some (.bool false):=HS.out.b1;have f0:=HS.out.sy.fz 0;have f1:=HS.out.sy.fz 1;have f2:=HS.out.sy.fz 2;have f3:=HS.out.sy.fz 3;have f4:=HS.out.sy.fz 4;have f5:=HS.out.sy.fz 5))
      go_ret
      exact ⟨240,rfl,HS.out.bb,.inr ⟨by decide,by rw[HR.out];rfl,_,HS.out.sy⟩⟩
    |true=>
     cases cC with
     |false=>
      have k3:(w.alloc (.cells #[.string s,.bool false] 77)).cell? ⟨b,3,none⟩=some (.bool hk):=HS.out.sy.c3
      have k4:(w.alloc (.cells #[.string s,.bool false] 77)).cell? ⟨b,4,none⟩=some (.bool true):=HS.out.sy.c4
      have k5:(w.alloc (.cells #[.string s,.bool false] 77)).cell? ⟨b,5,none⟩=some (.bool false):=HS.out.sy.c5
      have x0:(w.alloc (.cells #[.string s,.bool false] 77)).cell? ⟨w.heap.size,0,none⟩=some (.string s):=HS.out.b0
      have x1:(w.alloc (.cells #[.string s,.bool false] 77)).cell? ⟨w.heap.size,1,none⟩=some (.bool false):=HS.out.b1
      have f0:=HS.out.sy.fz 0
      have f1:=HS.out.sy.fz 1
      have f2:=HS.out.sy.fz 2
      have f3:=HS.out.sy.fz 3
      have f4:=HS.out.sy.fz 4
      have f5:=HS.out.sy.fz 5
      go_enter Tryz.func109,Tryz.ntmps109
      go_wp2_with (first|(go_at_call 130;refine (KT.out _).mono ?_;rintro e W ⟨rfl,rfl⟩)|(go_at_call 131;refine (KC.out _ HS.out.bel).mono ?_;rintro e w1 ⟨rfl,H1⟩;have HS:Hid (TS w0 w w1 b w.heap.size ⟨k,c,t,hk,true,false⟩ s false):=HS.out.step H1.out;have k3:w1.cell? ⟨b,3,none⟩=some (.bool hk):=HS.out.sy.c3;have k4:w1.cell? ⟨b,4,none⟩=some (.bool true):=HS.out.sy.c4;have k5:w1.cell? ⟨b,5,none⟩=some (.bool false):=HS.out.sy.c5;have x0:w1.cell? ⟨w.heap.size,0,none⟩=some (.string s):=HS.out.b0;have x1:w1.cell? ⟨w.heap.size,1,none⟩=some (.bool false):=HS.out.b1;have f0:=HS.out.sy.fz 0;have f1:=HS.out.sy.fz 1;have f2:=HS.out.sy.fz 2;have f3:=HS.out.sy.fz 3;have f4:=HS.out.sy.fz 4;have f5:=HS.out.sy.fz 5))
      have HS5:=Lib.hid (HS.out.set (HS.out.sy.set5 true))
      refine (KS.out _ HS5.out.bel).mono ?_
      rintro e w2 ⟨n,er,rfl,H8,H2⟩
      have HS:=Lib.hid (HS5.out.step H2.out)
      have f2:=HS.out.sy.fz 2
      have g2:=HS.out.sy.c2
      have HS7:=Lib.hid (HS.out.set (HS.out.sy.set2 n))
      go_wp2_with fail
      go_ret
      refine ⟨er,rfl,HS7.out.bb,?_⟩
      rcases H8.out with ⟨rfl,h⟩|⟨rfl,h,-⟩
      ·exact .inl ⟨rfl,_,by rw[HR.out,h];rfl,HS7.out.sy⟩
      ·exact .inr ⟨by decide,by rw[HR.out,h];rfl,_,HS7.out.sy⟩
     |true=>
      have k3:(w.alloc (.cells #[.string s,.bool false] 77)).cell? ⟨b,3,none⟩=some (.bool hk):=HS.out.sy.c3
      have k4:(w.alloc (.cells #[.string s,.bool false] 77)).cell? ⟨b,4,none⟩=some (.bool true):=HS.out.sy.c4
      have k5:(w.alloc (.cells #[.string s,.bool false] 77)).cell? ⟨b,5,none⟩=some (.bool false):=HS.out.sy.c5
      have x0:(w.alloc (.cells #[.string s,.bool false] 77)).cell? ⟨w.heap.size,0,none⟩=some (.string s):=HS.out.b0
      have x1:(w.alloc (.cells #[.string s,.bool false] 77)).cell? ⟨w.heap.size,1,none⟩=some (.bool false):=HS.out.b1
      have f0:=HS.out.sy.fz 0
      have f1:=HS.out.sy.fz 1
      have f2:=HS.out.sy.fz 2
      have f3:=HS.out.sy.fz 3
      have f4:=HS.out.sy.fz 4
      have f5:=HS.out.sy.fz 5
      go_enter Tryz.func109,Tryz.ntmps109
      go_wp2_with (first|(go_at_call 130;refine (KT.out _).mono ?_;rintro e W ⟨rfl,rfl⟩)|(go_at_call 131;refine (KC.out _ HS.out.bel).mono ?_;rintro e w1 ⟨rfl,H1⟩;have HS:Hid (TS w0 w w1 b w.heap.size ⟨k,c,t,hk,true,false⟩ s false):=HS.out.step H1.out;have k3:w1.cell? ⟨b,3,none⟩=some (.bool hk):=HS.out.sy.c3;have k4:w1.cell? ⟨b,4,none⟩=some (.bool true):=HS.out.sy.c4;have k5:w1.cell? ⟨b,5,none⟩=some (.bool false):=HS.out.sy.c5;have x0:w1.cell? ⟨w.heap.size,0,none⟩=some (.string s):=HS.out.b0;have x1:w1.cell? ⟨w.heap.size,1,none⟩=some (.bool false):=HS.out.b1;have f0:=HS.out.sy.fz 0;have f1:=HS.out.sy.fz 1;have f2:=HS.out.sy.fz 2;have f3:=HS.out.sy.fz 3;have f4:=HS.out.sy.fz 4;have f5:=HS.out.sy.fz 5))
      go_ret
      exact ⟨240,rfl,HS.out.bb,.inr ⟨by decide,by rw[HR.out];rfl,_,HS.out.sy⟩⟩
  |true=>
   cases hc with
   |false=>
    cases tT with
    |false=>
     cases cC with
     |false=>
      have k3:(w.alloc (.cells #[.string s,.bool false] 77)).cell? ⟨b,3,none⟩=some (.bool hk):=HS.out.sy.c3
      have k4:(w.alloc (.cells #[.string s,.bool false] 77)).cell? ⟨b,4,none⟩=some (.bool false):=HS.out.sy.c4
      have k5:(w.alloc (.cells #[.string s,.bool false] 77)).cell? ⟨b,5,none⟩=some (.bool true):=HS.out.sy.c5
      have x0:(w.alloc (.cells #[.string s,.bool false] 77)).cell? ⟨w.heap.size,0,none⟩=some (.string s):=HS.out.b0
      have x1:(w.alloc (.cells #[.string s,.bool false] 77)).cell? ⟨w.heap.size,1,none⟩=some (.bool false):=HS.out.b1
      have f0:=HS.out.sy.fz 0
      have f1:=HS.out.sy.fz 1
      have f2:=HS.out.sy.fz 2
      have f3:=HS.out.sy.fz 3
      have f4:=HS.out.sy.fz 4
      have f5:=HS.out.sy.fz 5
      go_enter Tryz.func109,Tryz.ntmps109
      go_wp2_with (first|(go_at_call 130;refine (KT.out _).mono ?_;rintro e W ⟨rfl,rfl⟩)|(go_at_call 131;refine (KC.out _ HS.out.bel).mono ?_;rintro e w1 ⟨rfl,H1⟩;have HS:Hid (TS w0 w w1 b w.heap.size ⟨k,c,t,hk,false,true⟩ s false):=HS.out.step H1.out;have k3:w1.cell? ⟨b,3,none⟩=some (.bool hk):=HS.out.sy.c3;have k4:w1.cell? ⟨b,4,none⟩=some (.bool false):=HS.out.sy.c4;have k5:w1.cell? ⟨b,5,none⟩=some (.bool true):=HS.out.sy.c5;have x0:w1.cell? ⟨w.heap.size,0,none⟩=some (.string s):=HS.out.b0;have x1:w1.cell? ⟨w.heap.size,1,none⟩=some (.bool false):=HS.out.b1;have f0:=HS.out.sy.fz 0;have f1:=HS.out.sy.fz 1;have f2:=HS.out.sy.fz 2;have f3:=HS.out.sy.fz 3;have f4:=HS.out.sy.fz 4;have f5:=HS.out.sy.fz 5))
      have HS5:=Lib.hid (HS.out.set (HS.out.sy.set3 true))
      refine (KY.out _ HS5.out.bel).mono ?_
      rintro e w2 ⟨rfl,H2⟩
      have HS:=Lib.hid (HS5.out.step H2.out)
      have f0:=HS.out.sy.fz 0
      have g0:=HS.out.sy.c0
      have HS7:=Lib.hid (HS.out.set (HS.out.sy.set0 sy1))
      go_wp2_with fail
      go_ret
      refine ⟨sy2,rfl,HS7.out.bb,?_⟩
      rcases HY.out with h|h
      ·exact .inl ⟨h,_,by rw[HR.out];simp[h],HS7.out.sy⟩
      ·exact .inr ⟨by omega,by rw[HR.out];simp[h],_,HS7.out.sy⟩
     |true=>
      have k3:(w.alloc (.cells #[.string s,.bool false] 77)).cell? ⟨b,3,none⟩=some (.bool hk):=HS.out.sy.c3
      have k4:(w.alloc (.cells #[.string s,.bool false] 77)).cell? ⟨b,4,none⟩=some (.bool false):=HS.out.sy.c4
      have k5:(w.alloc (.cells #[.string s,.bool false] 77)).cell? ⟨b,5,none⟩=some (.bool true):=HS.out.sy.c5
      have x0:(w.alloc (.cells #[.string s,.bool false] 77)).cell? ⟨w.heap.size,0,none⟩=some (.string s):=HS.out.b0
      have x1:(w.alloc (.cells #[.string s,.bool false] 77)).cell? ⟨w.heap.size,1,none⟩=some (.bool false):=HS.out.b1
      have f0:=HS.out.sy.fz 0
      have f1:=HS.out.sy.fz 1
      have f2:=HS.out.sy.fz 2
      have f3:=HS.out.sy.fz 3
      have f4:=HS.out.sy.fz 4
      have f5:=HS.out.sy.fz 5
      go_enter Tryz.func109,Tryz.ntmps109
      go_wp2_with (first|(go_at_call 130;refine (KT.out _).mono ?_;rintro e W ⟨rfl,rfl⟩)|(go_at_call 131;refine (KC.out _ HS.out.bel).mono ?_;rintro e w1 ⟨rfl,H1⟩;have HS:Hid (TS w0 w w1 b w.heap.size ⟨k,c,t,hk,false,true⟩ s false):=HS.out.step H1.out;have k3:w1.cell? ⟨b,3,none⟩=some (.bool hk):=HS.out.sy.c3;have k4:w1.cell? ⟨b,4,none⟩=some (.bool false):=HS.out.sy.c4;have k5:w1.cell? ⟨b,5,none⟩=some (.bool true):=HS.out.sy.c5;have x0:w1.cell? ⟨w.heap.size,0,none⟩=some (.string s):=HS.out.b0;have x1:w1.cell? ⟨w.heap.size,1,none⟩=some (.bool false):=HS.out.b1;have f0:=HS.out.sy.fz 0;have f1:=HS.out.sy.fz 1;have f2:=HS.out.sy.fz 2;have f3:=HS.out.sy.fz 3;have f4:=HS.out.sy.fz 4;have f5:=HS.out.sy.fz 5))
      have HS5:=Lib.hid (HS.out.set (HS.out.sy.set4 true))
      refine (KP.out _ HS5.out.bel).mono ?_
      rintro e w2 ⟨x,er,rfl,H8,H2⟩
      have HS:=Lib.hid (HS5.out.step H2.out)
      have f1:=HS.out.sy.fz 1
      have g1:=HS.out.sy.c1
      rcases res_err H8.out with ⟨-,rfl,n,h,rfl⟩|⟨-,rfl,rfl,h⟩
      ·have HO:=Lib.hid h
       clear h H8
       have HS7:=Lib.hid (HS.out.set (HS.out.sy.set1 n))
       go_wp2_with fail
       go_ret
       exact ⟨0,rfl,HS7.out.bb,.inl ⟨rfl,_,by rw[HR.out,HO.out];rfl,HS7.out.sy⟩⟩
      ·have HO:=Lib.hid h
       clear h H8
       have HS7:=Lib.hid (HS.out.set (HS.out.sy.set1 0))
       go_wp2_with fail
       go_ret
       exact ⟨6,rfl,HS7.out.bb,.inr ⟨by decide,by rw[HR.out,HO.out];rfl,_,HS7.out.sy⟩⟩
    |true=>
     cases cC with
     |false=>
      have k3:(w.alloc (.cells #[.string s,.bool false] 77)).cell? ⟨b,3,none⟩=some (.bool hk):=HS.out.sy.c3
      have k4:(w.alloc (.cells #[.string s,.bool false] 77)).cell? ⟨b,4,none⟩=some (.bool false):=HS.out.sy.c4
      have k5:(w.alloc (.cells #[.string s,.bool false] 77)).cell? ⟨b,5,none⟩=some (.bool true):=HS.out.sy.c5
      have x0:(w.alloc (.cells #[.string s,.bool false] 77)).cell? ⟨w.heap.size,0,none⟩=some (.string s):=HS.out.b0
      have x1:(w.alloc (.cells #[.string s,.bool false] 77)).cell? ⟨w.heap.size,1,none⟩=some (.bool false):=HS.out.b1
      have f0:=HS.out.sy.fz 0
      have f1:=HS.out.sy.fz 1
      have f2:=HS.out.sy.fz 2
      have f3:=HS.out.sy.fz 3
      have f4:=HS.out.sy.fz 4
      have f5:=HS.out.sy.fz 5
      go_enter Tryz.func109,Tryz.ntmps109
      go_wp2_with (first|(go_at_call 130;refine (KT.out _).mono ?_;rintro e W ⟨rfl,rfl⟩)|(go_at_call 131;refine (KC.out _ HS.out.bel).mono ?_;rintro e w1 ⟨rfl,H1⟩;have HS:Hid (TS w0 w w1 b w.heap.size ⟨k,c,t,hk,false,true⟩ s false):=HS.out.step H1.out;have k3:w1.cell? ⟨b,3,none⟩=some (.bool hk):=HS.out.sy.c3;have k4:w1.cell? ⟨b,4,none⟩=some (.bool false):=HS.out.sy.c4;have k5:w1.cell? ⟨b,5,none⟩=some (.bool true):=HS.out.sy.c5;have x0:w1.cell? ⟨w.heap.size,0,none⟩=some (.string s):=HS.out.b0;have x1:w1.cell? ⟨w.heap.size,1,none⟩=some (.bool false):=HS.out.b1;have f0:=HS.out.sy.fz 0;have f1:=HS.out.sy.fz 1;have f2:=HS.out.sy.fz 2;have f3:=HS.out.sy.fz 3;have f4:=HS.out.sy.fz 4;have f5:=HS.out.sy.fz 5))
      go_ret
      exact ⟨240,rfl,HS.out.bb,.inr ⟨by decide,by rw[HR.out];rfl,_,HS.out.sy⟩⟩
     |true=>
      have k3:(w.alloc (.cells #[.string s,.bool false] 77)).cell? ⟨b,3,none⟩=some (.bool hk):=HS.out.sy.c3
      have k4:(w.alloc (.cells #[.string s,.bool false] 77)).cell? ⟨b,4,none⟩=some (.bool false):=HS.out.sy.c4
      have k5:(w.alloc (.cells #[.string s,.bool false] 77)).cell? ⟨b,5,none⟩=some (.bool true):=HS.out.sy.c5
      have x0:(w.alloc (.cells #[.string s,.bool false] 77)).cell? ⟨w.heap.size,0,none⟩=some (.string s):=HS.out.b0
      have x1:(w.alloc (.cells #[.string s,.bool false] 77)).cell? ⟨w.heap.size,1,none⟩=some (.bool false):=HS.out.b1
      have f0:=HS.out.sy.fz 0
      have f1:=HS.out.sy.fz 1
      have f2:=HS.out.sy.fz 2
      have f3:=HS.out.sy.fz 3
      have f4:=HS.out.sy.fz 4
      have f5:=HS.out.sy.fz 5
      go_enter Tryz.func109,Tryz.ntmps109
      go_wp2_with (first|(go_at_call 130;refine (KT.out _).mono ?_;rintro e W ⟨rfl,rfl⟩)|(go_at_call 131;refine (KC.out _ HS.out.bel).mono ?_;rintro e w1 ⟨rfl,H1⟩;have HS:Hid (TS w0 w w1 b w.heap.size ⟨k,c,t,hk,false,true⟩ s false):=HS.out.step H1.out;have k3:w1.cell? ⟨b,3,none⟩=some (.bool hk):=HS.out.sy.c3;have k4:w1.cell? ⟨b,4,none⟩=some (.bool false):=HS.out.sy.c4;have k5:w1.cell? ⟨b,5,none⟩=some (.bool true):=HS.out.sy.c5;have x0:w1.cell? ⟨w.heap.size,0,none⟩=some (.string s):=HS.out.b0;have x1:w1.cell? ⟨w.heap.size,1,none⟩=some (.bool false):=HS.out.b1;have f0:=HS.out.sy.fz 0;have f1:=HS.out.sy.fz 1;have f2:=HS.out.sy.fz 2;have f3:=HS.out.sy.fz 3;have f4:=HS.out.sy.fz 4;have f5:=HS.out.sy.fz 5))
      go_ret
      exact ⟨240,rfl,HS.out.bb,.inr ⟨by decide,by rw[HR.out];rfl,_,HS.out.sy⟩⟩
   |true=>
    cases tT with
    |false=>
     cases cC with
     |false=>
      have k3:(w.alloc (.cells #[.string s,.bool false] 77)).cell? ⟨b,3,none⟩=some (.bool hk):=HS.out.sy.c3
      have k4:(w.alloc (.cells #[.string s,.bool false] 77)).cell? ⟨b,4,none⟩=some (.bool true):=HS.out.sy.c4
      have k5:(w.alloc (.cells #[.string s,.bool false] 77)).cell? ⟨b,5,none⟩=some (.bool true):=HS.out.sy.c5
      have x0:(w.alloc (.cells #[.string s,.bool false] 77)).cell? ⟨w.heap.size,0,none⟩=some (.string s):=HS.out.b0
      have x1:(w.alloc (.cells #[.string s,.bool false] 77)).cell? ⟨w.heap.size,1,none⟩=some (.bool false):=HS.out.b1
      have f0:=HS.out.sy.fz 0
      have f1:=HS.out.sy.fz 1
      have f2:=HS.out.sy.fz 2
      have f3:=HS.out.sy.fz 3
      have f4:=HS.out.sy.fz 4
      have f5:=HS.out.sy.fz 5
      go_enter Tryz.func109,Tryz.ntmps109
      go_wp2_with (first|(go_at_call 130;refine (KT.out _).mono ?_;rintro e W ⟨rfl,rfl⟩)|(go_at_call 131;refine (KC.out _ HS.out.bel).mono ?_;rintro e w1 ⟨rfl,H1⟩;have HS:Hid (TS w0 w w1 b w.heap.size ⟨k,c,t,hk,true,true⟩ s false):=HS.out.step H1.out;have k3:w1.cell? ⟨b,3,none⟩=some (.bool hk):=HS.out.sy.c3;have k4:w1.cell? ⟨b,4,none⟩=some (.bool true):=HS.out.sy.c4;have k5:w1.cell? ⟨b,5,none⟩=some (.bool true):=HS.out.sy.c5;have x0:w1.cell? ⟨w.heap.size,0,none⟩=some (.string s):=HS.out.b0;have x1:w1.cell? ⟨w.heap.size,1,none⟩=some (.bool false):=HS.out.b1;have f0:=HS.out.sy.fz 0;have f1:=HS.out.sy.fz 1;have f2:=HS.out.sy.fz 2;have f3:=HS.out.sy.fz 3;have f4:=HS.out.sy.fz 4;have f5:=HS.out.sy.fz 5))
      have HS5:=Lib.hid (HS.out.set (HS.out.sy.set3 true))
      refine (KY.out _ HS5.out.bel).mono ?_
      rintro e w2 ⟨rfl,H2⟩
      have HS:=Lib.hid (HS5.out.step H2.out)
      have f0:=HS.out.sy.fz 0
      have g0:=HS.out.sy.c0
      have HS7:=Lib.hid (HS.out.set (HS.out.sy.set0 sy1))
      go_wp2_with fail
      go_ret
      refine ⟨sy2,rfl,HS7.out.bb,?_⟩
      rcases HY.out with h|h
      ·exact .inl ⟨h,_,by rw[HR.out];simp[h],HS7.out.sy⟩
      ·exact .inr ⟨by omega,by rw[HR.out];simp[h],_,HS7.out.sy⟩
     |true=>
      have k3:(w.alloc (.cells #[.string s,.bool false] 77)).cell? ⟨b,3,none⟩=some (.bool hk):=HS.out.sy.c3
      have k4:(w.alloc (.cells #[.string s,.bool false] 77)).cell? ⟨b,4,none⟩=some (.bool true):=HS.out.sy.c4
      have k5:(w.alloc (.cells #[.string s,.bool false] 77)).cell? ⟨b,5,none⟩=some (.bool true):=HS.out.sy.c5
      have x0:(w.alloc (.cells #[.string s,.bool false] 77)).cell? ⟨w.heap.size,0,none⟩=some (.string s):=HS.out.b0
      have x1:(w.alloc (.cells #[.string s,.bool false] 77)).cell? ⟨w.heap.size,1,none⟩=some (.bool false):=HS.out.b1
      have f0:=HS.out.sy.fz 0
      have f1:=HS.out.sy.fz 1
      have f2:=HS.out.sy.fz 2
      have f3:=HS.out.sy.fz 3
      have f4:=HS.out.sy.fz 4
      have f5:=HS.out.sy.fz 5
      go_enter Tryz.func109,Tryz.ntmps109
      go_wp2_with (first|(go_at_call 130;refine (KT.out _).mono ?_;rintro e W ⟨rfl,rfl⟩)|(go_at_call 131;refine (KC.out _ HS.out.bel).mono ?_;rintro e w1 ⟨rfl,H1⟩;have HS:Hid (TS w0 w w1 b w.heap.size ⟨k,c,t,hk,true,true⟩ s false):=HS.out.step H1.out;have k3:w1.cell? ⟨b,3,none⟩=some (.bool hk):=HS.out.sy.c3;have k4:w1.cell? ⟨b,4,none⟩=some (.bool true):=HS.out.sy.c4;have k5:w1.cell? ⟨b,5,none⟩=some (.bool true):=HS.out.sy.c5;have x0:w1.cell? ⟨w.heap.size,0,none⟩=some (.string s):=HS.out.b0;have x1:w1.cell? ⟨w.heap.size,1,none⟩=some (.bool false):=HS.out.b1;have f0:=HS.out.sy.fz 0;have f1:=HS.out.sy.fz 1;have f2:=HS.out.sy.fz 2;have f3:=HS.out.sy.fz 3;have f4:=HS.out.sy.fz 4;have f5:=HS.out.sy.fz 5))
      go_ret
      exact ⟨240,rfl,HS.out.bb,.inr ⟨by decide,by rw[HR.out];rfl,_,HS.out.sy⟩⟩
    |true=>
     cases cC with
     |false=>
      have k3:(w.alloc (.cells #[.string s,.bool false] 77)).cell? ⟨b,3,none⟩=some (.bool hk):=HS.out.sy.c3
      have k4:(w.alloc (.cells #[.string s,.bool false] 77)).cell? ⟨b,4,none⟩=some (.bool true):=HS.out.sy.c4
      have k5:(w.alloc (.cells #[.string s,.bool false] 77)).cell? ⟨b,5,none⟩=some (.bool true):=HS.out.sy.c5
      have x0:(w.alloc (.cells #[.string s,.bool false] 77)).cell? ⟨w.heap.size,0,none⟩=some (.string s):=HS.out.b0
      have x1:(w.alloc (.cells #[.string s,.bool false] 77)).cell? ⟨w.heap.size,1,none⟩=some (.bool false):=HS.out.b1
      have f0:=HS.out.sy.fz 0
      have f1:=HS.out.sy.fz 1
      have f2:=HS.out.sy.fz 2
      have f3:=HS.out.sy.fz 3
      have f4:=HS.out.sy.fz 4
      have f5:=HS.out.sy.fz 5
      go_enter Tryz.func109,Tryz.ntmps109
      go_wp2_with (first|(go_at_call 130;refine (KT.out _).mono ?_;rintro e W ⟨rfl,rfl⟩)|(go_at_call 131;refine (KC.out _ HS.out.bel).mono ?_;rintro e w1 ⟨rfl,H1⟩;have HS:Hid (TS w0 w w1 b w.heap.size ⟨k,c,t,hk,true,true⟩ s false):=HS.out.step H1.out;have k3:w1.cell? ⟨b,3,none⟩=some (.bool hk):=HS.out.sy.c3;have k4:w1.cell? ⟨b,4,none⟩=some (.bool true):=HS.out.sy.c4;have k5:w1.cell? ⟨b,5,none⟩=some (.bool true):=HS.out.sy.c5;have x0:w1.cell? ⟨w.heap.size,0,none⟩=some (.string s):=HS.out.b0;have x1:w1.cell? ⟨w.heap.size,1,none⟩=some (.bool false):=HS.out.b1;have f0:=HS.out.sy.fz 0;have f1:=HS.out.sy.fz 1;have f2:=HS.out.sy.fz 2;have f3:=HS.out.sy.fz 3;have f4:=HS.out.sy.fz 4;have f5:=HS.out.sy.fz 5))
      go_ret
      exact ⟨240,rfl,HS.out.bb,.inr ⟨by decide,by rw[HR.out];rfl,_,HS.out.sy⟩⟩
     |true=>
      have k3:(w.alloc (.cells #[.string s,.bool false] 77)).cell? ⟨b,3,none⟩=some (.bool hk):=HS.out.sy.c3
      have k4:(w.alloc (.cells #[.string s,.bool false] 77)).cell? ⟨b,4,none⟩=some (.bool true):=HS.out.sy.c4
      have k5:(w.alloc (.cells #[.string s,.bool false] 77)).cell? ⟨b,5,none⟩=some (.bool true):=HS.out.sy.c5
      have x0:(w.alloc (.cells #[.string s,.bool false] 77)).cell? ⟨w.heap.size,0,none⟩=some (.string s):=HS.out.b0
      have x1:(w.alloc (.cells #[.string s,.bool false] 77)).cell? ⟨w.heap.size,1,none⟩=some (.bool false):=HS.out.b1
      have f0:=HS.out.sy.fz 0
      have f1:=HS.out.sy.fz 1
      have f2:=HS.out.sy.fz 2
      have f3:=HS.out.sy.fz 3
      have f4:=HS.out.sy.fz 4
      have f5:=HS.out.sy.fz 5
      go_enter Tryz.func109,Tryz.ntmps109
      go_wp2_with (first|(go_at_call 130;refine (KT.out _).mono ?_;rintro e W ⟨rfl,rfl⟩)|(go_at_call 131;refine (KC.out _ HS.out.bel).mono ?_;rintro e w1 ⟨rfl,H1⟩;have HS:Hid (TS w0 w w1 b w.heap.size ⟨k,c,t,hk,true,true⟩ s false):=HS.out.step H1.out;have k3:w1.cell? ⟨b,3,none⟩=some (.bool hk):=HS.out.sy.c3;have k4:w1.cell? ⟨b,4,none⟩=some (.bool true):=HS.out.sy.c4;have k5:w1.cell? ⟨b,5,none⟩=some (.bool true):=HS.out.sy.c5;have x0:w1.cell? ⟨w.heap.size,0,none⟩=some (.string s):=HS.out.b0;have x1:w1.cell? ⟨w.heap.size,1,none⟩=some (.bool false):=HS.out.b1;have f0:=HS.out.sy.fz 0;have f1:=HS.out.sy.fz 1;have f2:=HS.out.sy.fz 2;have f3:=HS.out.sy.fz 3;have f4:=HS.out.sy.fz 4;have f5:=HS.out.sy.fz 5))
      go_ret
      exact ⟨240,rfl,HS.out.bb,.inr ⟨by decide,by rw[HR.out];rfl,_,HS.out.sy⟩⟩
abbrev syV(y:Say):Value:=.agg #[.int .u16 (y.k:Int),.int .u16 (y.c:Int),.int .u32 (y.t:Int),.bool y.hk,.bool y.hc,.bool y.ht]
def SayP(r:Except Int (Say × List Wd))(w:World)(e:Ending)(w':World):Prop:=
 ∃(y:Say) (x:Sl) (er:Int),e=.returned (.tuple #[syV y,.slice x.a x.n x.c,.int .i64 er])/\Hid (Below w.heap.size w w')/\Hid ((er=0/\∃r',r=.ok (y,r')/\Ws w' x r')∨(er≠0/\r=.error er))
theorem SyB.drew{w:World}{b:Nat}{y:Say}(h:SyB w b y):SyB w.drew b y:=h
theorem syb_new(w:World):SyB (w.alloc (.cells #[.int .u16 0,.int .u16 0,.int .u32 0,.bool false,.bool false,.bool false] 143)) w.heap.size say0:=heap_alloc_new _ _
theorem says_cons(y:Say)(w:Wd)(r:List Wd):saysF y (w::r)=match tkF y w with
  | .error e=>.error e
  | .ok y'=>if y'.hk then .ok (y',r) else saysF y' r:=rfl
theorem RdW.atk{w:World}{b o:Nat}{ws:List Wd}(h:RdW w (some ⟨b,o,none⟩) ws)(k:Nat)(hk:k<ws.length):b<w.heap.size/\w.cell? ⟨b,o+k*2,none⟩=some (.string ws[k].1)/\w.cell? ⟨b,o+k*2+1,none⟩=some (.bool ws[k].2):=by
 rcases h with h|⟨b',o',e,hb,h3⟩
 ·subst h;simp at hk
 ·injection e with e
  injection e with e1 e2
  subst e1;subst e2
  have:=h3 k hk
  rw[Nat.mul_comm 2 k] at this
  exact ⟨hb,this.1,this.2⟩
theorem RdW.from{w:World}{b o:Nat}{ws:List Wd}(h:RdW w (some ⟨b,o,none⟩) ws)(k:Nat):RdW w (some ⟨b,o+k*2,none⟩) (ws.drop k):=by
 rcases h with h|⟨b',o',e,hb,h3⟩
 ·subst h;exact .inl (by simp)
 ·injection e with e
  injection e with e1 e2
  subst e1;subst e2
  refine .inr ⟨b,o+k*2,rfl,hb,fun i hi=>?_⟩
  have hi':k+i<ws.length:=by simp at hi;omega
  have:=h3 (k+i) hi'
  rw[show o+2*(k+i)=o+k*2+2*i by omega] at this
  simpa using this
theorem WB.drop{ws:List Wd}(h:WB ws)(k:Nat):WB (ws.drop k):=⟨by have:=h.1;simp;omega,fun p hp=>h.2 p (List.mem_of_mem_drop hp)⟩
theorem says_any(x:Sl)(ws:List Wd)(w:World)(h:Ws w x ws)(hL:LayT w)(hE:LayE w):Calls Tryz.prog 88 #[.slice x.a x.n x.c] w (SayP (saysF say0 ws) w):=by
 obtain ⟨a,n,c⟩:=x
 have hn:n=ws.length:=h.n
 have hc:ws.length<=c:=h.c
 have h63:c<=9223372036854775807:=h.c63
 have hrd:RdW w a ws:=h.rd
 have HWB:Hid (WB ws):=h.wb
 have HE:Hid (LayT w/\LayE w):=⟨hL,hE⟩
 have HA:Hid (ws=[]∨∃b o,a=some ⟨b,o,none⟩):=by
  rcases hrd with h|⟨b,o,e,-,-⟩
  ·exact .inl h
  ·exact .inr ⟨b,o,e⟩
 have HRD:Hid (RdW w a ws):=hrd
 clear h hL hE hrd
 rw[<- hn] at hc
 have HN:Hid (ws.length=n):=hn.symm
 clear hn
 have HN5:Hid (n<=500):=by have:=HWB.out.1;have:=HN.out;show _<=_;omega
 have hn5:=HN5.out
 have HW2:Hid (SyB ((w.alloc (.cells #[.int .u16 0,.int .u16 0,.int .u32 0,.bool false,.bool false,.bool false] 143)).alloc (.cells #[.int .u16 0,.int .u16 0,.int .u32 0,.bool false,.bool false,.bool false] 143)) w.heap.size say0/\SyB ((w.alloc (.cells #[.int .u16 0,.int .u16 0,.int .u32 0,.bool false,.bool false,.bool false] 143)).alloc (.cells #[.int .u16 0,.int .u16 0,.int .u32 0,.bool false,.bool false,.bool false] 143)) (w.heap.size+1) say0/\Below w.heap.size w ((w.alloc (.cells #[.int .u16 0,.int .u16 0,.int .u32 0,.bool false,.bool false,.bool false] 143)).alloc (.cells #[.int .u16 0,.int .u16 0,.int .u32 0,.bool false,.bool false,.bool false] 143))):=by
  have h1:=syb_new (w.alloc (.cells #[.int .u16 0,.int .u16 0,.int .u32 0,.bool false,.bool false,.bool false] 143))
  rw[World.size_alloc] at h1
  refine ⟨((new_below _ _).block _ (by simp)).trans (syb_new w),h1,(new_below w _).trans ((new_below _ _).mono (by simp))⟩
 go_enter Tryz.func88,Tryz.ntmps88
 go_wp2_with fail
 go_loopw [11] (fun vk wr=>∃k:Nat,k<=n/\vk=.int .i64 (k:Int)/\Hid (∃y:Say,y.hk=false/\saysF say0 ws=saysF y (ws.drop k)/\SyB wr w.heap.size say0/\SyB wr (w.heap.size+1) y/\Below w.heap.size w wr)) (fun vk _=>n - (intOf vk).toNat)
 case atStart=>exact ⟨0,Nat.zero_le _,rfl,say0,rfl,rfl,HW2.out.1,HW2.out.2.1,HW2.out.2.2⟩
 case round=>
  obtain ⟨k,hk,rfl,HW⟩:=hrel
  obtain ⟨y,hy0,hy1,hr,hy,hb⟩:=HW.out
  clear HW
  have HRB:Hid (SyB wr w.heap.size say0):=hr
  have HB:Hid (Below w.heap.size w wr):=hb
  have hws:=hr.lt
  have hys:=hy.lt
  by_cases hlt:k<n
  ·have hlt':(k:Int)<(n:Int):=by omega
   have hkw:k<ws.length:=by rw[HN.out];exact hlt
   obtain ⟨b0,o,rfl⟩:∃b o,a=some ⟨b,o,none⟩:=by
    rcases HA.out with h|h
    ·subst h;simp at hkw
    ·exact h
   obtain ⟨hb0,q1,q2⟩:=HRD.out.atk k hkw
   have q1':=(hb.cell (p:=⟨b0,o+k*2,none⟩) hb0).trans q1
   have q2':=(hb.cell (p:=⟨b0,o+k*2+1,none⟩) hb0).trans q2
   have hdrop:ws.drop k=ws[k]::ws.drop (k+1):=List.drop_eq_getElem_cons hkw
   have hsz:=HWB.out.2 ws[k] (List.getElem_mem hkw)
   rw[hdrop] at hy1
   clear q1 q2 hdrop
   generalize ws[k]=wd at*
   obtain ⟨s,q⟩:=wd
   simp only at q1' q2' hsz
   have HBA:Hid (Below w.heap.size w (wr.alloc (.cells #[.string s,.bool q] 77))):=hb.trans ((new_below wr _).mono hb.size)
   have HRB2:Hid (SyB (wr.alloc (.cells #[.string s,.bool q] 77)) w.heap.size say0):=((new_below wr _).block _ hws).trans hr
   have KT:=Lib.hid (take_any w (wr.alloc (.cells #[.string s,.bool q] 77)) (w.heap.size+1) y s q (((new_below wr _).block _ hys).trans hy) (by omega) HBA.out hsz HE.out.1 HE.out.2)
   have HY1:Hid (saysF say0 ws=saysF y ((s,q)::ws.drop (k+1))):=hy1
   rw[says_cons] at hy1
   have HY2:Hid (saysF say0 ws=match tkF y (s,q) with
     | .error e=>.error e
     | .ok y'=>if y'.hk then .ok (y',ws.drop (k+1)) else saysF y' (ws.drop (k+1))):=hy1
   generalize saysF say0 ws=SS at*
   clear hy0 hy1 hr hy hb HRB HY1 hsz hkw
   go_wp2_with fail
   refine KT.out.mono ?_
   rintro e w2 ⟨er,rfl,HB2,HQ⟩
   have HRB:Hid (SyB w2 w.heap.size say0):=(HB2.out.block _ (by omega)).trans HRB2.out
   have HBW:Hid (Below w.heap.size w w2):=HBA.out.trans (HB2.out.mono (by omega))
   clear KT HB2 HRB2 HBA
   rcases HQ.out with ⟨rfl,y',hok,hsy⟩|⟨hne,herr,-⟩
   ·have HOK:=Lib.hid hok
    have HSY:Hid (SyB w2 (w.heap.size+1) y'):=hsy
    have g3:=hsy.c3
    have hyl:=hsy.lt
    clear HQ hok hsy
    cases hhk:y'.hk with
    |false=>
     rw[hhk] at g3
     go_wp2_with fail
     refine ⟨⟨k+1,by omega,by go_num,y',hhk,?_,HRB.out,HSY.out,HBW.out⟩,by simp[intOf];omega⟩
     rw[HY2.out,HOK.out]
     simp[hhk]
    |true=>
     obtain ⟨k1,c1,t1,hk1,hc1,ht1⟩:=y'
     simp only at hhk
     subst hhk
     have g0:=HSY.out.c0
     have g1:=HSY.out.c1
     have g2:=HSY.out.c2
     have g4:=HSY.out.c4
     have g5:=HSY.out.c5
     simp only at g0 g1 g2 g3 g4 g5
     have r0:=HRB.out.c0
     have r1:=HRB.out.c1
     have r2:=HRB.out.c2
     have r3:=HRB.out.c3
     have r4:=HRB.out.c4
     have r5:=HRB.out.c5
     have rf0:=HRB.out.fz 0
     have rf1:=HRB.out.fz 1
     have rf2:=HRB.out.fz 2
     have rf3:=HRB.out.fz 3
     have rf4:=HRB.out.fz 4
     have rf5:=HRB.out.fz 5
     simp only[say0] at r0 r1 r2 r3 r4 r5
     have hne1:¬ w.heap.size=w.heap.size+1:=by omega
     have HFIN:Hid (SS=.ok (⟨k1,c1,t1,true,hc1,ht1⟩,ws.drop (k+1))):=by
      show _=_
      rw[HY2.out,HOK.out]
      rfl
     have HX0:Hid (SyB (((((((w2.setCell ⟨w.heap.size,0,none⟩ (.int .u16 (k1:Int))).setCell ⟨w.heap.size,1,none⟩ (.int .u16 (c1:Int))).setCell ⟨w.heap.size,2,none⟩ (.int .u32 (t1:Int))).setCell ⟨w.heap.size,3,none⟩ (.bool true)).setCell ⟨w.heap.size,4,none⟩ (.bool hc1)).setCell ⟨w.heap.size,5,none⟩ (.bool ht1))) w.heap.size ⟨k1,c1,t1,true,hc1,ht1⟩/\Below w.heap.size w (((((((w2.setCell ⟨w.heap.size,0,none⟩ (.int .u16 (k1:Int))).setCell ⟨w.heap.size,1,none⟩ (.int .u16 (c1:Int))).setCell ⟨w.heap.size,2,none⟩ (.int .u32 (t1:Int))).setCell ⟨w.heap.size,3,none⟩ (.bool true)).setCell ⟨w.heap.size,4,none⟩ (.bool hc1)).setCell ⟨w.heap.size,5,none⟩ (.bool ht1)))):=⟨((((((HRB.out.set0 k1).set1 c1).set2 t1).set3 true).set4 hc1).set5 ht1),((((((HBW.out.setCell (p:=⟨w.heap.size,0,none⟩) (Nat.le_refl _) _).setCell (p:=⟨w.heap.size,1,none⟩) (Nat.le_refl _) _).setCell (p:=⟨w.heap.size,2,none⟩) (Nat.le_refl _) _).setCell (p:=⟨w.heap.size,3,none⟩) (Nat.le_refl _) _).setCell (p:=⟨w.heap.size,4,none⟩) (Nat.le_refl _) _).setCell (p:=⟨w.heap.size,5,none⟩) (Nat.le_refl _) _)⟩
     have HWS:Hid (∀W c',Below w.heap.size w W->n - (k+1)<=c'->c'<=9223372036854775807->Ws W ⟨some ⟨b0,o+(k+1)*2,none⟩,n - (k+1),c'⟩ (ws.drop (k+1))):=fun W c' hW h1 h2=>⟨by simp[HN.out],by simp[HN.out];omega,h2,(HRD.out.from (k+1)).below hW,HWB.out.drop _⟩
     have HWS0:Hid (∀W a',n=k+1->Ws W ⟨a',0,0⟩ (ws.drop (k+1))):=fun W a' h=>by
      have e:ws.drop (k+1)=[]:=List.drop_eq_nil_of_le (by rw[HN.out];omega)
      exact ⟨by rw[e];rfl,by rw[e];simp,by simp,by rw[e];exact .inl rfl,HWB.out.drop _⟩
     clear HY2 HOK HSY HRD
     obtain ⟨K1,hK1⟩:∃K1,K1=k+1:=⟨_,rfl⟩
     have HK1:Hid (K1=k+1):=hK1
     have hwk:IntKind.i64.wrap ((k:Int)+1)=(K1:Int):=by rw[IntKind.wrap_i64];omega
     have hK0:(0:Int)<=(K1:Int):=by omega
     have hKn:(K1:Int)<=(n:Int):=by omega
     rw[<- hK1] at HWS HWS0 HFIN
     have hKn':K1<=n:=by omega
     clear hK1
     by_cases hcc:c=K1
     ·subst hcc
      have hnk:n=c:=by omega
      subst hnk
      go_wp2_with fail
      go_region_law (fail)
      all_goals
       go_wp2_with fail
       have HX:Hid (SyB (((((((w2.setCell ⟨w.heap.size,0,none⟩ (.int .u16 (k1:Int))).setCell ⟨w.heap.size,1,none⟩ (.int .u16 (c1:Int))).setCell ⟨w.heap.size,2,none⟩ (.int .u32 (t1:Int))).setCell ⟨w.heap.size,3,none⟩ (.bool true)).setCell ⟨w.heap.size,4,none⟩ (.bool hc1)).setCell ⟨w.heap.size,5,none⟩ (.bool ht1)).drew) w.heap.size ⟨k1,c1,t1,true,hc1,ht1⟩/\Below w.heap.size w (((((((w2.setCell ⟨w.heap.size,0,none⟩ (.int .u16 (k1:Int))).setCell ⟨w.heap.size,1,none⟩ (.int .u16 (c1:Int))).setCell ⟨w.heap.size,2,none⟩ (.int .u32 (t1:Int))).setCell ⟨w.heap.size,3,none⟩ (.bool true)).setCell ⟨w.heap.size,4,none⟩ (.bool hc1)).setCell ⟨w.heap.size,5,none⟩ (.bool ht1)).drew)):=⟨HX0.out.1.drew,HX0.out.2.drew⟩
       have HWX:=Lib.hid (HWS0.out (((((((w2.setCell ⟨w.heap.size,0,none⟩ (.int .u16 (k1:Int))).setCell ⟨w.heap.size,1,none⟩ (.int .u16 (c1:Int))).setCell ⟨w.heap.size,2,none⟩ (.int .u32 (t1:Int))).setCell ⟨w.heap.size,3,none⟩ (.bool true)).setCell ⟨w.heap.size,4,none⟩ (.bool hc1)).setCell ⟨w.heap.size,5,none⟩ (.bool ht1)).drew) (some ⟨b0,o,none⟩) (by simp))
       generalize (((((((w2.setCell ⟨w.heap.size,0,none⟩ (.int .u16 (k1:Int))).setCell ⟨w.heap.size,1,none⟩ (.int .u16 (c1:Int))).setCell ⟨w.heap.size,2,none⟩ (.int .u32 (t1:Int))).setCell ⟨w.heap.size,3,none⟩ (.bool true)).setCell ⟨w.heap.size,4,none⟩ (.bool hc1)).setCell ⟨w.heap.size,5,none⟩ (.bool ht1)).drew)=W9 at*
       have z0:=HX.out.1.c0
       have z1:=HX.out.1.c1
       have z2:=HX.out.1.c2
       have z3:=HX.out.1.c3
       have z4:=HX.out.1.c4
       have z5:=HX.out.1.c5
       simp only at z0 z1 z2 z3 z4 z5
       exact bodyPost_ret (v:=.tuple #[.agg #[.int .u16 (k1:Int),.int .u16 (c1:Int),.int .u32 (t1:Int),.bool true,.bool hc1,.bool ht1],.slice (some ⟨b0,o,none⟩) 0 0,.int .i64 0]) (by simp[results,Tryz.results88,go_sem,z0,z1,z2,z3,z4,z5]) rfl ⟨⟨k1,c1,t1,true,hc1,ht1⟩,⟨some ⟨b0,o,none⟩,0,0⟩,0,rfl,HX.out.2,.inl ⟨rfl,_,HFIN.out,HWX.out⟩⟩
     ·have hcc1:¬ c - K1=0:=by omega
      go_wp2_with fail
      go_region_law (fail)
      all_goals
       go_wp2_with fail
       have HX:Hid (SyB (((((((w2.setCell ⟨w.heap.size,0,none⟩ (.int .u16 (k1:Int))).setCell ⟨w.heap.size,1,none⟩ (.int .u16 (c1:Int))).setCell ⟨w.heap.size,2,none⟩ (.int .u32 (t1:Int))).setCell ⟨w.heap.size,3,none⟩ (.bool true)).setCell ⟨w.heap.size,4,none⟩ (.bool hc1)).setCell ⟨w.heap.size,5,none⟩ (.bool ht1)).drew) w.heap.size ⟨k1,c1,t1,true,hc1,ht1⟩/\Below w.heap.size w (((((((w2.setCell ⟨w.heap.size,0,none⟩ (.int .u16 (k1:Int))).setCell ⟨w.heap.size,1,none⟩ (.int .u16 (c1:Int))).setCell ⟨w.heap.size,2,none⟩ (.int .u32 (t1:Int))).setCell ⟨w.heap.size,3,none⟩ (.bool true)).setCell ⟨w.heap.size,4,none⟩ (.bool hc1)).setCell ⟨w.heap.size,5,none⟩ (.bool ht1)).drew)):=⟨HX0.out.1.drew,HX0.out.2.drew⟩
       have HWX:=Lib.hid (HWS.out (((((((w2.setCell ⟨w.heap.size,0,none⟩ (.int .u16 (k1:Int))).setCell ⟨w.heap.size,1,none⟩ (.int .u16 (c1:Int))).setCell ⟨w.heap.size,2,none⟩ (.int .u32 (t1:Int))).setCell ⟨w.heap.size,3,none⟩ (.bool true)).setCell ⟨w.heap.size,4,none⟩ (.bool hc1)).setCell ⟨w.heap.size,5,none⟩ (.bool ht1)).drew) (c - K1) HX.out.2 (by omega) (by omega))
       generalize (((((((w2.setCell ⟨w.heap.size,0,none⟩ (.int .u16 (k1:Int))).setCell ⟨w.heap.size,1,none⟩ (.int .u16 (c1:Int))).setCell ⟨w.heap.size,2,none⟩ (.int .u32 (t1:Int))).setCell ⟨w.heap.size,3,none⟩ (.bool true)).setCell ⟨w.heap.size,4,none⟩ (.bool hc1)).setCell ⟨w.heap.size,5,none⟩ (.bool ht1)).drew)=W9 at*
       have z0:=HX.out.1.c0
       have z1:=HX.out.1.c1
       have z2:=HX.out.1.c2
       have z3:=HX.out.1.c3
       have z4:=HX.out.1.c4
       have z5:=HX.out.1.c5
       simp only at z0 z1 z2 z3 z4 z5
       exact bodyPost_ret (v:=.tuple #[.agg #[.int .u16 (k1:Int),.int .u16 (c1:Int),.int .u32 (t1:Int),.bool true,.bool hc1,.bool ht1],.slice (some ⟨b0,o+K1*2,none⟩) (n - K1) (c - K1),.int .i64 0]) (by simp[results,Tryz.results88,go_sem,z0,z1,z2,z3,z4,z5]) rfl ⟨⟨k1,c1,t1,true,hc1,ht1⟩,⟨some ⟨b0,o+K1*2,none⟩,n - K1,c - K1⟩,0,rfl,HX.out.2,.inl ⟨rfl,_,HFIN.out,HWX.out⟩⟩
   ·have hne2:(er == 0)=false:=by simpa using hne
    have hne3:(er != 0)=true:=by simpa using hne
    have HERR:Hid (SS=.error er):=by
     show _=_
     rw[HY2.out,herr]
    have HNE:Hid (er≠0):=hne
    have r0:=HRB.out.c0
    have r1:=HRB.out.c1
    have r2:=HRB.out.c2
    have r3:=HRB.out.c3
    have r4:=HRB.out.c4
    have r5:=HRB.out.c5
    have rf0:=HRB.out.fz 0
    have rf1:=HRB.out.fz 1
    have rf2:=HRB.out.fz 2
    have rf3:=HRB.out.fz 3
    have rf4:=HRB.out.fz 4
    have rf5:=HRB.out.fz 5
    simp only[say0] at r0 r1 r2 r3 r4 r5
    have HX0:Hid (SyB (((((((w2.setCell ⟨w.heap.size,0,none⟩ (.int .u16 0)).setCell ⟨w.heap.size,1,none⟩ (.int .u16 0)).setCell ⟨w.heap.size,2,none⟩ (.int .u32 0)).setCell ⟨w.heap.size,3,none⟩ (.bool false)).setCell ⟨w.heap.size,4,none⟩ (.bool false)).setCell ⟨w.heap.size,5,none⟩ (.bool false))) w.heap.size say0/\Below w.heap.size w (((((((w2.setCell ⟨w.heap.size,0,none⟩ (.int .u16 0)).setCell ⟨w.heap.size,1,none⟩ (.int .u16 0)).setCell ⟨w.heap.size,2,none⟩ (.int .u32 0)).setCell ⟨w.heap.size,3,none⟩ (.bool false)).setCell ⟨w.heap.size,4,none⟩ (.bool false)).setCell ⟨w.heap.size,5,none⟩ (.bool false)))):=⟨((((((HRB.out.set0 0).set1 0).set2 0).set3 false).set4 false).set5 false),((((((HBW.out.setCell (p:=⟨w.heap.size,0,none⟩) (Nat.le_refl _) _).setCell (p:=⟨w.heap.size,1,none⟩) (Nat.le_refl _) _).setCell (p:=⟨w.heap.size,2,none⟩) (Nat.le_refl _) _).setCell (p:=⟨w.heap.size,3,none⟩) (Nat.le_refl _) _).setCell (p:=⟨w.heap.size,4,none⟩) (Nat.le_refl _) _).setCell (p:=⟨w.heap.size,5,none⟩) (Nat.le_refl _) _)⟩
    clear HQ herr HY2
    go_wp2_with fail
    generalize (((((((w2.setCell ⟨w.heap.size,0,none⟩ (.int .u16 0)).setCell ⟨w.heap.size,1,none⟩ (.int .u16 0)).setCell ⟨w.heap.size,2,none⟩ (.int .u32 0)).setCell ⟨w.heap.size,3,none⟩ (.bool false)).setCell ⟨w.heap.size,4,none⟩ (.bool false)).setCell ⟨w.heap.size,5,none⟩ (.bool false)))=W9 at*
    have z0:=HX0.out.1.c0
    have z1:=HX0.out.1.c1
    have z2:=HX0.out.1.c2
    have z3:=HX0.out.1.c3
    have z4:=HX0.out.1.c4
    have z5:=HX0.out.1.c5
    simp only[say0] at z0 z1 z2 z3 z4 z5
    exact bodyPost_ret (v:=.tuple #[.agg #[.int .u16 0,.int .u16 0,.int .u32 0,.bool false,.bool false,.bool false],.slice none 0 0,.int .i64 er]) (by simp[results,Tryz.results88,go_sem,z0,z1,z2,z3,z4,z5]) rfl ⟨say0,⟨none,0,0⟩,er,rfl,HX0.out.2,.inr ⟨HNE.out,HERR.out⟩⟩
  ·have hge:¬ (k:Int)<(n:Int):=by omega
   have hkn:k=n:=by omega
   subst hkn
   have HERR:Hid (saysF say0 ws=.error 240):=by
    show _=_
    rw[hy1,List.drop_eq_nil_of_le (by rw[HN.out];exact Nat.le_refl _)]
    rfl
   have r0:=HRB.out.c0
   have r1:=HRB.out.c1
   have r2:=HRB.out.c2
   have r3:=HRB.out.c3
   have r4:=HRB.out.c4
   have r5:=HRB.out.c5
   have rf0:=HRB.out.fz 0
   have rf1:=HRB.out.fz 1
   have rf2:=HRB.out.fz 2
   have rf3:=HRB.out.fz 3
   have rf4:=HRB.out.fz 4
   have rf5:=HRB.out.fz 5
   simp only[say0] at r0 r1 r2 r3 r4 r5
   have HX0:Hid (SyB (((((((wr.setCell ⟨w.heap.size,0,none⟩ (.int .u16 0)).setCell ⟨w.heap.size,1,none⟩ (.int .u16 0)).setCell ⟨w.heap.size,2,none⟩ (.int .u32 0)).setCell ⟨w.heap.size,3,none⟩ (.bool false)).setCell ⟨w.heap.size,4,none⟩ (.bool false)).setCell ⟨w.heap.size,5,none⟩ (.bool false))) w.heap.size say0/\Below w.heap.size w (((((((wr.setCell ⟨w.heap.size,0,none⟩ (.int .u16 0)).setCell ⟨w.heap.size,1,none⟩ (.int .u16 0)).setCell ⟨w.heap.size,2,none⟩ (.int .u32 0)).setCell ⟨w.heap.size,3,none⟩ (.bool false)).setCell ⟨w.heap.size,4,none⟩ (.bool false)).setCell ⟨w.heap.size,5,none⟩ (.bool false)))):=⟨((((((HRB.out.set0 0).set1 0).set2 0).set3 false).set4 false).set5 false),((((((HB.out.setCell (p:=⟨w.heap.size,0,none⟩) (Nat.le_refl _) _).setCell (p:=⟨w.heap.size,1,none⟩) (Nat.le_refl _) _).setCell (p:=⟨w.heap.size,2,none⟩) (Nat.le_refl _) _).setCell (p:=⟨w.heap.size,3,none⟩) (Nat.le_refl _) _).setCell (p:=⟨w.heap.size,4,none⟩) (Nat.le_refl _) _).setCell (p:=⟨w.heap.size,5,none⟩) (Nat.le_refl _) _)⟩
   clear hy0 hy1 hr hy hb
   go_wp2_with fail
   generalize (((((((wr.setCell ⟨w.heap.size,0,none⟩ (.int .u16 0)).setCell ⟨w.heap.size,1,none⟩ (.int .u16 0)).setCell ⟨w.heap.size,2,none⟩ (.int .u32 0)).setCell ⟨w.heap.size,3,none⟩ (.bool false)).setCell ⟨w.heap.size,4,none⟩ (.bool false)).setCell ⟨w.heap.size,5,none⟩ (.bool false)))=W9 at*
   have z0:=HX0.out.1.c0
   have z1:=HX0.out.1.c1
   have z2:=HX0.out.1.c2
   have z3:=HX0.out.1.c3
   have z4:=HX0.out.1.c4
   have z5:=HX0.out.1.c5
   simp only[say0] at z0 z1 z2 z3 z4 z5
   exact bodyPost_ret (v:=.tuple #[.agg #[.int .u16 0,.int .u16 0,.int .u32 0,.bool false,.bool false,.bool false],.slice none 0 0,.int .i64 240]) (by simp[results,Tryz.results88,go_sem,z0,z1,z2,z3,z4,z5]) rfl ⟨say0,⟨none,0,0⟩,240,rfl,HX0.out.2,.inr ⟨by decide,HERR.out⟩⟩
theorem ws_tail{w:World}{b o n c:Nat}{p:Wd}{r:List Wd}(h:Ws w ⟨some ⟨b,o,none⟩,n,c⟩ (p::r)):n=r.length+1/\(∀c',n - 1<=c'->c'<=9223372036854775807->Ws w ⟨some ⟨b,o+2,none⟩,n - 1,c'⟩ r)/\(c=1->∀a',Ws w ⟨a',0,0⟩ r):=by
 have hn:n=r.length+1:=h.n
 have hc:r.length+1<=c:=h.c
 obtain ⟨b',o',e,hb,-,-,hr⟩:=h.rd.head
 simp only[Option.some.injEq,Addr.mk.injEq,and_true] at e
 obtain ⟨rfl,rfl⟩:=e
 refine ⟨hn,fun c' h1 h2=>⟨by simp;omega,by simp;omega,h2,hr,h.wb.tail⟩,fun hc1 a'=>?_⟩
 have:r=[]:=List.length_eq_zero_iff.1 (by omega)
 subst this
 exact ⟨rfl,by simp,by simp,.inl rfl,h.wb.tail⟩
structure CA where
 g:Sl
 o:Sl
abbrev caV(a:CA)(c:Cy):Value:=.agg #[.slice a.g.a a.g.n a.g.c,.slice a.o.a a.o.n a.o.c,.int .u16 (c.cl:Int),.int .u32 (c.df:Int),.int .u32 (c.tt:Int),.bool c.ho,.bool c.hc,.bool c.ht,.bool c.sd]
structure CRd(w:World)(a:CA)(c:Cy):Prop where
 g:Nm w a.g.a a.g.n c.og
 o:Nm w a.o.a a.o.n c.ow
 k:nck c.og=0
theorem CRd.below{w w':World}{a:CA}{c:Cy}(h:CRd w a c)(hb:Below w.heap.size w w'):CRd w' a c:=⟨h.g.below hb,h.o.below hb,h.k⟩
theorem class_any(y:Say)(a:CA)(c:Cy)(w:World):Calls Tryz.prog 91 #[syV y,caV a c] w fun e w'=>e=.returned (.int .u16 (csF y c:Int))/\Hid (Below w.heap.size w w'):=by
 obtain ⟨k,y1,t,hk,hc,ht⟩:=y
 obtain ⟨⟨ga,gn,gc⟩,⟨oa,on,oc⟩⟩:=a
 obtain ⟨og,ow,cl,df,tt,ho,hc',ht',sd⟩:=c
 have HB:Hid (Below w.heap.size w ((w.alloc (.cells #[.int .u16 (k:Int),.int .u16 (y1:Int),.int .u32 (t:Int),.bool hk,.bool hc,.bool ht] 143)).alloc (.cells #[.slice ga gn gc,.slice oa on oc,.int .u16 (cl:Int),.int .u32 (df:Int),.int .u32 (tt:Int),.bool ho,.bool hc',.bool ht',.bool sd] 63))):=
  (new_below _ _).trans ((new_below _ _).mono (by simp))
 cases hc with
 |true=>
  have HC:Hid (csF ⟨k,y1,t,hk,true,ht⟩ ⟨og,ow,cl,df,tt,ho,hc',ht',sd⟩=y1):=rfl
  rw[HC.out]
  go_enter Tryz.func91,Tryz.ntmps91
  go_wp2_with fail
  go_ret
  exact ⟨rfl,HB.out⟩
 |false=>
  cases hc' with
  |true=>
   have HC:Hid (csF ⟨k,y1,t,hk,false,ht⟩ ⟨og,ow,cl,df,tt,ho,true,ht',sd⟩=cl):=rfl
   rw[HC.out]
   go_enter Tryz.func91,Tryz.ntmps91
   go_wp2_with fail
   go_ret
   exact ⟨rfl,HB.out⟩
  |false=>
   have HC:Hid (csF ⟨k,y1,t,hk,false,ht⟩ ⟨og,ow,cl,df,tt,ho,false,ht',sd⟩=1):=rfl
   rw[HC.out]
   go_enter Tryz.func91,Tryz.ntmps91
   go_wp2_with fail
   go_ret
   exact ⟨rfl,HB.out⟩
def TmP(o:Option (Nat × Cy))(a:CA)(w:World)(e:Ending)(w':World):Prop:=
 ∃(n:Nat) (c':Cy) (er:Int),e=.returned (.tuple #[.int .u32 (n:Int),caV a c',.int .i64 er])/\Hid (Below w.heap.size w w')/\Hid ((er=0/\o=some (n,c'))∨(er=9/\o=none))
theorem time_any(y:Say)(x:DA)(d:Dat)(a:CA)(c:Cy)(w:World)(hd:DRd w x d)(h5:y.k=6->d.us.length=5):Calls Tryz.prog 90 #[syV y,DA.val x,caV a c] w (TmP (tmF y d c) a w):=by
 obtain ⟨k,y1,t,hk,hc,ht⟩:=y
 obtain ⟨⟨ga,gn,gc⟩,⟨oa,on,oc⟩⟩:=a
 obtain ⟨og,ow,cl,df,tt,ho,hc',ht',sd⟩:=c
 have HU:Hid (URd w x.p2 d.us):=hd.h2
 obtain ⟨⟨d1,d2,d3⟩,⟨d4,d5,d6⟩,⟨d7,d8,d9⟩,⟨e1,e2,e3⟩⟩:=x
 clear hd
 simp only at h5
 have HB:Hid (∀o1 o2 o3 o4:Obj,Below w.heap.size w ((((w.alloc o1).alloc o2).alloc o3).alloc o4).drew):=fun o1 o2 o3 o4=>
  (((new_below w o1).trans ((new_below _ o2).mono (by simp))).trans (((new_below _ o3).mono (by simp;omega)).trans ((new_below _ o4).mono (by simp;omega)))).drew
 have HB0:Hid (∀o1 o2 o3 o4:Obj,Below w.heap.size w ((((w.alloc o1).alloc o2).alloc o3).alloc o4)):=fun o1 o2 o3 o4=>
  (((new_below w o1).trans ((new_below _ o2).mono (by simp))).trans (((new_below _ o3).mono (by simp;omega)).trans ((new_below _ o4).mono (by simp;omega))))
 cases ht with
 |true=>
  have HR:Hid (tmF ⟨k,y1,t,hk,hc,true⟩ d ⟨og,ow,cl,df,tt,ho,hc',ht',sd⟩=some (t,⟨og,ow,cl,df,t,ho,hc',true,sd⟩)):=rfl
  rw[HR.out]
  clear h5 HU
  go_enter Tryz.func90,Tryz.ntmps90
  go_wp2_with fail
  go_region_law (fail)
  all_goals
   go_wp2_with fail
   exact bodyPost_ret (v:=.tuple #[.int .u32 (t:Int),.agg #[.slice ga gn gc,.slice oa on oc,.int .u16 (cl:Int),.int .u32 (df:Int),.int .u32 (t:Int),.bool ho,.bool hc',.bool true,.bool sd],.int .i64 0]) (by simp[results,Tryz.results90,go_sem]) rfl ⟨t,⟨og,ow,cl,df,t,ho,hc',true,sd⟩,0,rfl,HB.out _ _ _ _,.inl ⟨rfl,rfl⟩⟩
 |false=>
  cases sd with
  |true=>
   have HR:Hid (tmF ⟨k,y1,t,hk,hc,false⟩ d ⟨og,ow,cl,df,tt,ho,hc',ht',true⟩=some (df,⟨og,ow,cl,df,tt,ho,hc',ht',true⟩)):=rfl
   rw[HR.out]
   clear h5 HU
   go_enter Tryz.func90,Tryz.ntmps90
   go_wp2_with fail
   go_region_law (fail)
   all_goals
    go_wp2_with fail
    exact bodyPost_ret (v:=.tuple #[.int .u32 (df:Int),.agg #[.slice ga gn gc,.slice oa on oc,.int .u16 (cl:Int),.int .u32 (df:Int),.int .u32 (tt:Int),.bool ho,.bool hc',.bool ht',.bool true],.int .i64 0]) (by simp[results,Tryz.results90,go_sem]) rfl ⟨df,⟨og,ow,cl,df,tt,ho,hc',ht',true⟩,0,rfl,HB.out _ _ _ _,.inl ⟨rfl,rfl⟩⟩
  |false=>
   cases ht' with
   |true=>
    have HR:Hid (tmF ⟨k,y1,t,hk,hc,false⟩ d ⟨og,ow,cl,df,tt,ho,hc',true,false⟩=some (tt,⟨og,ow,cl,df,tt,ho,hc',true,false⟩)):=rfl
    rw[HR.out]
    clear h5 HU
    go_enter Tryz.func90,Tryz.ntmps90
    go_wp2_with fail
    go_region_law (fail)
    all_goals
     go_wp2_with fail
     exact bodyPost_ret (v:=.tuple #[.int .u32 (tt:Int),.agg #[.slice ga gn gc,.slice oa on oc,.int .u16 (cl:Int),.int .u32 (df:Int),.int .u32 (tt:Int),.bool ho,.bool hc',.bool true,.bool false],.int .i64 0]) (by simp[results,Tryz.results90,go_sem]) rfl ⟨tt,⟨og,ow,cl,df,tt,ho,hc',true,false⟩,0,rfl,HB.out _ _ _ _,.inl ⟨rfl,rfl⟩⟩
   |false=>
    by_cases hk6:k=6
    ·subst hk6
     have hl:=h5 rfl
     obtain ⟨b,o,ha,hb,hcell⟩:=HU.out.at 4 (by omega)
     simp only at ha
     subst ha
     have hn5:d5=5:=by have:=HU.out.len;simp only at this;omega
     subst hn5
     have hbd:d.us[4]<=4294967295:=HU.out.bd _ (List.getElem_mem _)
     have hgd:d.us.getD 4 0=d.us[4]:=by simp[List.getD,hl]
     have HR:Hid (tmF ⟨6,y1,t,hk,hc,false⟩ d ⟨og,ow,cl,df,tt,ho,hc',false,false⟩=if d.us[4]<2147483648 then some (d.us[4],⟨og,ow,cl,df,d.us[4],ho,hc',true,false⟩) else none):=by
      show _=_
      rw[<- hgd]
      show (if 6=6/\d.us.getD 4 0<2147483648 then _ else _)=_
      simp
     rw[HR.out]
     clear h5 hgd HR HU
     generalize d.us[4]=m at*
     clear hl
     have hu:IntKind.u64.wrap (m:Int)=(m:Int):=by rw[IntKind.wrap_u64];omega
     have hne0:¬ b=w.heap.size:=by omega
     have hne1:¬ b=w.heap.size+1:=by omega
     have hne2:¬ b=w.heap.size+1+1:=by omega
     have hne3:¬ b=w.heap.size+1+1+1:=by omega
     have gne0:¬ w.heap.size=b:=by omega
     have gne1:¬ w.heap.size+1=b:=by omega
     have gne2:¬ w.heap.size+1+1=b:=by omega
     have gne3:¬ w.heap.size+1+1+1=b:=by omega
     have q:=(HB0.out (.cells #[.int .u16 6,.int .u16 (y1:Int),.int .u32 (t:Int),.bool hk,.bool hc,.bool false] 143) (.cells #[.slice d1 d2 d3,.slice (some ⟨b,o,none⟩) 5 d6,.slice d7 d8 d9,.slice e1 e2 e3] 48) (.cells #[.slice ga gn gc,.slice oa on oc,.int .u16 (cl:Int),.int .u32 (df:Int),.int .u32 (tt:Int),.bool ho,.bool hc',.bool false,.bool false] 63) (.cells #[.slice none 0 0,.slice none 0 0,.int .u16 0,.int .u32 0,.int .u32 0,.bool false,.bool false,.bool false,.bool false] 63)).cell (p:=⟨b,o+4,none⟩) hb
     rw[hcell] at q
     have KF:=Lib.hid (fun W=>fits_any m (by omega) W)
     by_cases hf:m<2147483648
     ·rw[if_pos hf]
      rw[decide_eq_true hf] at KF
      go_enter Tryz.func90,Tryz.ntmps90
      go_wp2_with fail
      refine (KF.out _).mono ?_
      rintro e w1 ⟨rfl,rfl⟩
      go_wp2_with fail
      go_region_law (fail)
      all_goals
       go_wp2_with fail
       exact bodyPost_ret (v:=.tuple #[.int .u32 (m:Int),.agg #[.slice ga gn gc,.slice oa on oc,.int .u16 (cl:Int),.int .u32 (df:Int),.int .u32 (m:Int),.bool ho,.bool hc',.bool true,.bool false],.int .i64 0]) (by simp[results,Tryz.results90,go_sem]) rfl ⟨m,⟨og,ow,cl,df,m,ho,hc',true,false⟩,0,rfl,HB.out _ _ _ _,.inl ⟨rfl,rfl⟩⟩
     ·rw[if_neg hf]
      rw[decide_eq_false hf] at KF
      go_enter Tryz.func90,Tryz.ntmps90
      go_wp2_with fail
      refine (KF.out _).mono ?_
      rintro e w1 ⟨rfl,rfl⟩
      go_wp2_with fail
      go_region_law (fail)
      all_goals
       go_wp2_with fail
       exact bodyPost_ret (v:=.tuple #[.int .u32 (0:Int),.agg #[.slice ga gn gc,.slice oa on oc,.int .u16 (cl:Int),.int .u32 (df:Int),.int .u32 (tt:Int),.bool ho,.bool hc',.bool false,.bool false],.int .i64 9]) (by simp[results,Tryz.results90,go_sem]) rfl ⟨0,⟨og,ow,cl,df,tt,ho,hc',false,false⟩,9,rfl,HB.out _ _ _ _,.inr ⟨rfl,rfl⟩⟩
    ·have hk6':¬ (k:Int)=6:=by omega
     have hk6'':((k:Int) == 6)=false:=by simpa using hk6'
     have HR:Hid (tmF ⟨k,y1,t,hk,hc,false⟩ d ⟨og,ow,cl,df,tt,ho,hc',false,false⟩=none):=by
      show (if k=6/\d.us.getD 4 0<2147483648 then _ else _)=_
      rw[if_neg (fun h=>hk6 h.1)]
     rw[HR.out]
     clear h5 HU
     go_enter Tryz.func90,Tryz.ntmps90
     go_wp2_with fail
     go_region_law (fail)
     all_goals
      go_wp2_with fail
      exact bodyPost_ret (v:=.tuple #[.int .u32 (0:Int),.agg #[.slice ga gn gc,.slice oa on oc,.int .u16 (cl:Int),.int .u32 (df:Int),.int .u32 (tt:Int),.bool ho,.bool hc',.bool false,.bool false],.int .i64 9]) (by simp[results,Tryz.results90,go_sem]) rfl ⟨0,⟨og,ow,cl,df,tt,ho,hc',false,false⟩,9,rfl,HB.out _ _ _ _,.inr ⟨rfl,rfl⟩⟩
def OwP(r:List ByteArray × List Wd × Int)(w:World)(e:Ending)(w':World):Prop:=
 ∃(v:Value) (ys:List ByteArray) (x:Sl),e=.returned (.tuple #[v,.slice x.a x.n x.c,.int .i64 r.2.2])/\Hid (Below w.heap.size w w'/\OwnT w.heap.size w' v r.1.length ys 1000000000000/\ys.take r.1.length=r.1)/\Hid (r.2.2=0->Ws w' x r.2.1)
theorem own_fin{w X W2:World}{v:Value}{ss ys:List ByteArray}{M:Nat}(hX:Below w.heap.size w X)(H:OwnT X.heap.size W2 v ss.length ys M/\ys.take ss.length=ss/\Below X.heap.size X W2):Below w.heap.size w W2/\OwnT w.heap.size W2 v ss.length ys M/\ys.take ss.length=ss:=⟨hX.trans (H.2.2.mono hX.size),H.1.mono hX.size,H.2.1⟩
theorem own_drew{w W2:World}{v:Value}{ss ys:List ByteArray}{M:Nat}(H:Below w.heap.size w W2/\OwnT w.heap.size W2 v ss.length ys M/\ys.take ss.length=ss):Below w.heap.size w W2.drew/\OwnT w.heap.size W2.drew v ss.length ys M/\ys.take ss.length=ss:=⟨H.1.drew,H.2.1.below (Below.refl _ _).drew,H.2.2⟩
theorem Ws.drew{w:World}{x:Sl}{ws:List Wd}(h:Ws w x ws):Ws w.drew x ws:=h.below (Below.refl _ _).drew
theorem two_cell(w:World)(xs:Array Value)(t:TypeId)(o2:Obj)(i:Nat)(v:Value)(h:xs[i]?=some v):((w.alloc (.cells xs t)).alloc o2).cell? ⟨w.heap.size,i,none⟩=some v:=
 ((new_below _ o2).cell (p:=⟨w.heap.size,i,none⟩) (by simp)).trans (by unfold World.cell?;rw[heap_alloc_new];exact h)
theorem owner_any(x:Sl)(e:En)(a:CA)(c:Cy)(w:World)(h:Ws w x e.ws)(hc:CRd w a c)(hne:e.ws≠[]):Calls Tryz.prog 87 #[enV x e,caV a c] w (OwP (ownF e c) w):=by
 obtain ⟨ln,bl,ws⟩:=e
 obtain ⟨xa,xn,xc⟩:=x
 obtain ⟨⟨ga,gn,gc⟩,⟨oa,on,oc⟩⟩:=a
 obtain ⟨og,ow,cl,df,tt,ho,hc',ht',sd⟩:=c
 have HW:Hid (Ws w ⟨xa,xn,xc⟩ ws):=h
 have HG:Hid (Nm w ga gn og):=hc.g
 have HO:Hid (Nm w oa on ow):=hc.o
 have HB:Hid (∀o1 o2:Obj,Below w.heap.size w ((w.alloc o1).alloc o2)):=fun o1 o2=>(new_below w o1).trans ((new_below _ o2).mono (by simp))
 have HB1:Hid (∀o1 o2:Obj,Below w.heap.size w ((w.alloc o1).alloc o2).drew):=fun o1 o2=>(HB.out o1 o2).drew
 simp only at hne
 clear h hc
 cases bl with
 |true=>
  cases ho with
  |false=>
   have HR:Hid (ownF ⟨ln,true,ws⟩ ⟨og,ow,cl,df,tt,false,hc',ht',sd⟩=([],[],9)):=rfl
   rw[HR.out]
   go_enter Tryz.func87,Tryz.ntmps87
   go_wp2_with fail
   exact bodyPost_ret (v:=.tuple #[.slice none 0 0,.slice none 0 0,.int .i64 9]) (by simp[results,Tryz.results87,go_sem]) rfl ⟨_,[],⟨none,0,0⟩,rfl,⟨HB.out _ _,OwnT.nil _ _ _,rfl⟩,fun h=>absurd h (by decide)⟩
  |true=>
   have HR:Hid (ownF ⟨ln,true,ws⟩ ⟨og,ow,cl,df,tt,true,hc',ht',sd⟩=(ow,ws,0)):=rfl
   rw[HR.out]
   have KC:Hid (∀W,Below w.heap.size w W->Calls Tryz.prog 107 #[.slice oa on oc] W (CopyPost ow 1000000000000 W)):=fun W hW=>pcopy_any oa on oc ow W (HO.out.below hW)
   go_enter Tryz.func87,Tryz.ntmps87
   go_wp2_with fail
   go_region_with (first
    |(go_at_call 107;refine (KC.out _ (by first|exact HB.out _ _|exact HB1.out _ _)).mono ?_;rintro e W2 ⟨v,ys,rfl,H2⟩;have e0:W2.cell? ⟨w.heap.size,2,none⟩=some (.slice xa xn xc):=(H2.out.2.2.cell (p:=⟨w.heap.size,2,none⟩) (by simp;try omega)).trans (two_cell _ _ _ _ _ _ rfl))
    |fail)
   all_goals
    go_wp2_with fail
    have HF:=own_fin (by first|exact HB.out _ _|exact HB1.out _ _) H2.out
    exact bodyPost_ret (v:=.tuple #[v,.slice xa xn xc,.int .i64 0]) (by simp[results,Tryz.results87,go_sem]) rfl ⟨v,ys,⟨xa,xn,xc⟩,rfl,HF,fun _=>HW.out.below HF.1⟩
 |false=>
  cases ws with
  |nil=>exact absurd rfl hne
  |cons p r=>
   obtain ⟨s,q⟩:=p
   obtain ⟨b,o,e0,hb,q1,q2,-⟩:=HW.out.rd.head
   simp only at e0
   subst e0
   clear hne
   have hxn:=(ws_tail HW.out).1
   subst hxn
   have hcx:r.length+1<=xc:=HW.out.c
   have hx63:xc<=9223372036854775807:=HW.out.c63
   have hsz:s.size<=1000000:=HW.out.wb.2 (s,q) (by simp)
   have Q1:Hid (∀o1 o2:Obj,((w.alloc o1).alloc o2).cell? ⟨b,o,none⟩=some (.string s)):=fun o1 o2=>((HB.out o1 o2).cell (p:=⟨b,o,none⟩) hb).trans q1
   have Q2:Hid (∀o1 o2:Obj,((w.alloc o1).alloc o2).cell? ⟨b,o+1,none⟩=some (.bool q)):=fun o1 o2=>((HB.out o1 o2).cell (p:=⟨b,o+1,none⟩) hb).trans q2
   have d2:=Q2.out (.cells #[.int .i64 ln,.bool false,.slice (some ⟨b,o,none⟩) (r.length+1) xc] 75) (.cells #[.slice ga gn gc,.slice oa on oc,.int .u16 (cl:Int),.int .u32 (df:Int),.int .u32 (tt:Int),.bool ho,.bool hc',.bool ht',.bool sd] 63)
   have d1:=Q1.out (.cells #[.int .i64 ln,.bool false,.slice (some ⟨b,o,none⟩) (r.length+1) xc] 75) (.cells #[.slice ga gn gc,.slice oa on oc,.int .u16 (cl:Int),.int .u32 (df:Int),.int .u32 (tt:Int),.bool ho,.bool hc',.bool ht',.bool sd] 63)
   clear q1 q2
   have HT:Hid (∀W,Below w.heap.size w W->(∀c',r.length<=c'->c'<=9223372036854775807->Ws W ⟨some ⟨b,o+2,none⟩,r.length,c'⟩ r)/\(xc=1->∀a',Ws W ⟨a',0,0⟩ r)):=fun W hW=>(ws_tail (HW.out.below hW)).2
   clear HW HO
   generalize hL:r.length=L at*
   cases q with
   |true=>
    have HR:Hid (ownF ⟨ln,false,(s,true)::r⟩ ⟨og,ow,cl,df,tt,ho,hc',ht',sd⟩=([],[],240)):=rfl
    rw[HR.out]
    go_enter Tryz.func87,Tryz.ntmps87
    go_wp2_with fail
    exact bodyPost_ret (v:=.tuple #[.slice none 0 0,.slice none 0 0,.int .i64 240]) (by simp[results,Tryz.results87,go_sem]) rfl ⟨_,[],⟨none,0,0⟩,rfl,⟨HB.out _ _,OwnT.nil _ _ _,rfl⟩,fun h=>absurd h (by decide)⟩
   |false=>
    have HR:Hid (ownF ⟨ln,false,(s,false)::r⟩ ⟨og,ow,cl,df,tt,ho,hc',ht',sd⟩=((nrel s og).1,r,(nrel s og).2)):=rfl
    rw[HR.out]
    clear HR
    have KR:Hid (∀W,Below w.heap.size w W->Calls Tryz.prog 85 #[.string s,.slice ga gn gc] W (NPost (nrel s og).1 (nrel s og).2 W)):=fun W hW=>prel_any s ga gn gc og W (by omega) (HG.out.below hW)
    obtain ⟨R1,hR1⟩:∃R1,(nrel s og).1=R1:=⟨_,rfl⟩
    obtain ⟨R2,hR2⟩:∃R2,(nrel s og).2=R2:=⟨_,rfl⟩
    rw[hR1,hR2] at KR
    rw[hR1,hR2]
    clear hR1 hR2
    go_enter Tryz.func87,Tryz.ntmps87
    go_wp2_with fail
    go_region_with (first
     |(go_at_call 85;refine (KR.out _ (by first|exact HB.out _ _|exact HB1.out _ _)).mono ?_;rintro e W2 ⟨v,ys,rfl,H2⟩;have e0:W2.cell? ⟨w.heap.size,2,none⟩=some (.slice (some ⟨b,o,none⟩) (L+1) xc):=(H2.out.2.2.cell (p:=⟨w.heap.size,2,none⟩) (by simp;try omega)).trans (two_cell _ _ _ _ _ _ rfl))
     |fail)
    all_goals
     have HF:=Lib.hid (own_fin (by first|exact HB.out _ _|exact HB1.out _ _) H2.out)
     have HT2:=Lib.hid (HT.out W2 HF.out.1)
     clear H2 HB HB1 Q1 Q2 d1 d2 HT KR
     by_cases hx1:xc=1
     ·have hL0:L=0:=by omega
      subst hx1
      subst hL0
      go_wp2_with fail
      go_region_law (fail)
      all_goals
       go_wp2_with fail
       exact bodyPost_ret (v:=.tuple #[v,.slice (some ⟨b,o,none⟩) 0 0,.int .i64 R2]) (by simp[results,Tryz.results87,go_sem]) rfl ⟨v,ys,⟨some ⟨b,o,none⟩,0,0⟩,rfl,own_drew HF.out,fun _=>(HT2.out.2 (by simp) _).drew⟩
     ·have hx2:¬ xc - 1=0:=by omega
      have hx3:1<xc:=by omega
      have hx4:¬ xc<=1:=by omega
      have hx5:(1:Int)<=(L:Int)+1:=by omega
      go_wp2_with fail
      go_region_law (fail)
      all_goals
       go_wp2_with fail
       exact bodyPost_ret (v:=.tuple #[v,.slice (some ⟨b,o+2,none⟩) L (xc - 1),.int .i64 R2]) (by simp[results,Tryz.results87,go_sem]) rfl ⟨v,ys,⟨some ⟨b,o+2,none⟩,L,xc - 1⟩,rfl,own_drew HF.out,fun _=>(HT2.out.1 _ (by omega) (by omega)).drew⟩
def CyB(w:World)(b:Nat)(a:CA)(c:Cy):Prop:=w.heap[b]?=some (.cells #[.slice a.g.a a.g.n a.g.c,.slice a.o.a a.o.n a.o.c,.int .u16 (c.cl:Int),.int .u32 (c.df:Int),.int .u32 (c.tt:Int),.bool c.ho,.bool c.hc,.bool c.ht,.bool c.sd] 63 (0,0))
theorem CyB.lt{w:World}{b:Nat}{a:CA}{c:Cy}(h:CyB w b a c):b<w.heap.size:=(Array.getElem?_eq_some_iff.1 h).1
theorem CyB.c0{w:World}{b:Nat}{a:CA}{c:Cy}(h:CyB w b a c):w.cell? ⟨b,0,none⟩=some (.slice a.g.a a.g.n a.g.c):=by unfold World.cell?;rw[show w.heap[b]?=_ from h];rfl
theorem CyB.c1{w:World}{b:Nat}{a:CA}{c:Cy}(h:CyB w b a c):w.cell? ⟨b,1,none⟩=some (.slice a.o.a a.o.n a.o.c):=by unfold World.cell?;rw[show w.heap[b]?=_ from h];rfl
theorem CyB.c2{w:World}{b:Nat}{a:CA}{c:Cy}(h:CyB w b a c):w.cell? ⟨b,2,none⟩=some (.int .u16 (c.cl:Int)):=by unfold World.cell?;rw[show w.heap[b]?=_ from h];rfl
theorem CyB.c3{w:World}{b:Nat}{a:CA}{c:Cy}(h:CyB w b a c):w.cell? ⟨b,3,none⟩=some (.int .u32 (c.df:Int)):=by unfold World.cell?;rw[show w.heap[b]?=_ from h];rfl
theorem CyB.c4{w:World}{b:Nat}{a:CA}{c:Cy}(h:CyB w b a c):w.cell? ⟨b,4,none⟩=some (.int .u32 (c.tt:Int)):=by unfold World.cell?;rw[show w.heap[b]?=_ from h];rfl
theorem CyB.c5{w:World}{b:Nat}{a:CA}{c:Cy}(h:CyB w b a c):w.cell? ⟨b,5,none⟩=some (.bool c.ho):=by unfold World.cell?;rw[show w.heap[b]?=_ from h];rfl
theorem CyB.c6{w:World}{b:Nat}{a:CA}{c:Cy}(h:CyB w b a c):w.cell? ⟨b,6,none⟩=some (.bool c.hc):=by unfold World.cell?;rw[show w.heap[b]?=_ from h];rfl
theorem CyB.c7{w:World}{b:Nat}{a:CA}{c:Cy}(h:CyB w b a c):w.cell? ⟨b,7,none⟩=some (.bool c.ht):=by unfold World.cell?;rw[show w.heap[b]?=_ from h];rfl
theorem CyB.c8{w:World}{b:Nat}{a:CA}{c:Cy}(h:CyB w b a c):w.cell? ⟨b,8,none⟩=some (.bool c.sd):=by unfold World.cell?;rw[show w.heap[b]?=_ from h];rfl
theorem CyB.fz{w:World}{b:Nat}{a:CA}{c:Cy}(h:CyB w b a c)(i:Nat):w.frozen? ⟨b,i,none⟩=false:=by
 unfold World.frozen?
 rw[show w.heap[b]?=_ from h]
 simp
theorem CyB.drew{w:World}{b:Nat}{a:CA}{c:Cy}(h:CyB w b a c):CyB w.drew b a c:=h
def ca0:CA:=⟨⟨none,0,0⟩,⟨none,0,0⟩⟩
theorem CyB.zero(w:World):CyB (w.alloc (.cells #[.slice none 0 0,.slice none 0 0,.int .u16 0,.int .u32 0,.int .u32 0,.bool false,.bool false,.bool false,.bool false] 63)) w.heap.size ca0 (cy0 []):=heap_alloc_new _ _
theorem CyB.new(w:World)(a:CA)(c:Cy):CyB (w.alloc (.cells #[.slice a.g.a a.g.n a.g.c,.slice a.o.a a.o.n a.o.c,.int .u16 (c.cl:Int),.int .u32 (c.df:Int),.int .u32 (c.tt:Int),.bool c.ho,.bool c.hc,.bool c.ht,.bool c.sd] 63)) w.heap.size a c:=heap_alloc_new _ _
theorem CyB.below{w w':World}{b:Nat}{a:CA}{c:Cy}(h:CyB w b a c)(hb:Below w.heap.size w w'):CyB w' b a c:=(hb.block b h.lt).trans h
theorem nine_set(x0 x1 x2 x3 x4 x5 x6 x7 x8 v0 v1 v2 v3 v4 v5 v6 v7 v8:Value):(((((((((#[x0,x1,x2,x3,x4,x5,x6,x7,x8].setIfInBounds 0 v0).setIfInBounds 1 v1).setIfInBounds 2 v2).setIfInBounds 3 v3).setIfInBounds 4 v4).setIfInBounds 5 v5).setIfInBounds 6 v6).setIfInBounds 7 v7).setIfInBounds 8 v8)=#[v0,v1,v2,v3,v4,v5,v6,v7,v8]:=by simp
theorem CyB.all{w:World}{b:Nat}{a:CA}{c:Cy}(h:CyB w b a c)(a':CA)(c':Cy):CyB (((((((((w.setCell ⟨b,0,none⟩ (.slice a'.g.a a'.g.n a'.g.c)).setCell ⟨b,1,none⟩ (.slice a'.o.a a'.o.n a'.o.c)).setCell ⟨b,2,none⟩ (.int .u16 (c'.cl:Int))).setCell ⟨b,3,none⟩ (.int .u32 (c'.df:Int))).setCell ⟨b,4,none⟩ (.int .u32 (c'.tt:Int))).setCell ⟨b,5,none⟩ (.bool c'.ho)).setCell ⟨b,6,none⟩ (.bool c'.hc)).setCell ⟨b,7,none⟩ (.bool c'.ht)).setCell ⟨b,8,none⟩ (.bool c'.sd)) b a' c':=by
 unfold CyB at h ⊢
 have h0:=heap_set h 0 (.slice a'.g.a a'.g.n a'.g.c)
 have h1:=heap_set h0 1 (.slice a'.o.a a'.o.n a'.o.c)
 have h2:=heap_set h1 2 (.int .u16 (c'.cl:Int))
 have h3:=heap_set h2 3 (.int .u32 (c'.df:Int))
 have h4:=heap_set h3 4 (.int .u32 (c'.tt:Int))
 have h5:=heap_set h4 5 (.bool c'.ho)
 have h6:=heap_set h5 6 (.bool c'.hc)
 have h7:=heap_set h6 7 (.bool c'.ht)
 have h8:=heap_set h7 8 (.bool c'.sd)
 rw[nine_set] at h8
 exact h8
theorem below_nine{w0 w:World}{B b:Nat}(h:Below B w0 w)(hB:B<=b)(v0 v1 v2 v3 v4 v5 v6 v7 v8:Value):Below B w0 (((((((((w.setCell ⟨b,0,none⟩ (v0)).setCell ⟨b,1,none⟩ (v1)).setCell ⟨b,2,none⟩ (v2)).setCell ⟨b,3,none⟩ (v3)).setCell ⟨b,4,none⟩ (v4)).setCell ⟨b,5,none⟩ (v5)).setCell ⟨b,6,none⟩ (v6)).setCell ⟨b,7,none⟩ (v7)).setCell ⟨b,8,none⟩ (v8)):=
 ((((((((h.setCell (p:=⟨b,0,none⟩) hB _).setCell (p:=⟨b,1,none⟩) hB _).setCell (p:=⟨b,2,none⟩) hB _).setCell (p:=⟨b,3,none⟩) hB _).setCell (p:=⟨b,4,none⟩) hB _).setCell (p:=⟨b,5,none⟩) hB _).setCell (p:=⟨b,6,none⟩) hB _).setCell (p:=⟨b,7,none⟩) hB _).setCell (p:=⟨b,8,none⟩) hB _
end Go.Proofs.YtjkljpdolhglcaaGreatDoor
