/- Jo Lay14. -/
import Derived.Test.YtjkljpdolhglcaaGreatDoorWol
import Derived.Laws.Concat
import Derived.Test.YtjkljpdolhglcaaGreatDoorCards
import Derived.Test.YtjkljpdolhglcaaGreatDoorTie
import Derived.ProofKit
import Derived.OpenShut
import Derived.LaidMore
import Derived.LaidOnce
import Derived.LaidSub
import Derived.MakeChecks
import Derived.Stop.LaidErr
import Derived.Deep.DeepHandedRow
import Derived.Deep.DeepWitnessRowRef
import Derived.Lay
set_option maxRecDepth 100000
set_option maxHeartbeats 8000000
set_option linter.unusedVariables false
set_option linter.unusedSimpArgs false
namespace Go.Proofs.YtjkljpdolhglcaaGreatDoor
open Go.Proofs.Tryz(prog)
open Go.ChangeShapes Go.WideShapes Go.ChangeAt Go.RowKit
theorem join_sl{a b:Option Addr}{n m c d:Nat}{ss ts:List ByteArray}{w:World}(h:Nw w a n ss)(h':Nw w b m ts):Calls prog 13 #[.slice a n c,.slice b m d] w fun e w'=>∃s:Sl,e=.returned (.tuple #[.slice s.a s.n s.c,.int .i64 (njoin ss ts).2])/\Hid (Below w.heap.size w w'/\TRd w' s (njoin ss ts).1):=by
 refine (join_wide13 a b n m c d ss ts w h h').mono ?_
 rintro e w' ⟨v,ys,rfl,H⟩
 obtain ⟨ao,rfl,hn⟩:=H.out.1.shape
 refine ⟨⟨ao,_,ys.length⟩,rfl,H.out.2.2,?_⟩
 exact Own1.rd (B:=w.heap.size) (s:=⟨ao,(njoin ss ts).1.length,ys.length⟩) ⟨ys,H.out.1,H.out.2.1⟩
theorem trd_nw{w:World}{s:Sl}{ss:List ByteArray}(h:TRd w s ss)(hn:s.n<=1000):Nw w s.a s.n ss:=⟨h.rd,h.len,hn,h.z63⟩
theorem trd_nm{w:World}{s:Sl}{ss:List ByteArray}(h:TRd w s ss)(hk:nck ss=0):Nm w s.a s.n ss:=⟨h.rd,h.len,by have:=(nck_small hk).1;omega⟩
theorem ext_take(t:ByteArray)(i:Nat):(t.extract 0 i).data.toList=t.data.toList.take i:=by simp
theorem cut_o{ss:List ByteArray}(h:nck ss=0)(h0:ss≠[])(W:World):(Instr.slice 9 (.string (ntext ss).1) none (some (.int .i64 (((ntext ss).1.size:Int) - 1))) none).run prog W=.ok (.string (relT ss)) W:=by
 have h1:=rel_size h h0
 have e:(ntext ss).1.extract 0 ((((ntext ss).1.size:Int) - 1).toNat)=relT ss:=by
  apply ba_inj
  rw[ba_toList,ba_toList]
  have e1:((((ntext ss).1.size:Int) - 1).toNat)=(ntext ss).1.size - 1:=by omega
  rw[e1,<- rel_cut h h0]
  exact ext_take _ _
 have:=run_slice_string_h (P:=prog) W 9 (ntext ss).1 Tryz.underlying9 .i64 (((ntext ss).1.size:Int) - 1) (by omega) (by omega)
 rw[e] at this
 exact this
abbrev Z28:Obj:=.cells #[.int .i64 0,.int .i64 0] 28
abbrev R50(a:Option Addr)(n c:Nat)(w:World):Obj:=.cells #[.slice a n c,.int .u16 1,.int .u16 1,.int .u32 60,.slice none 0 0,.slice none 0 0,.slice none 0 0,.slice (some ⟨w.heap.size+1,0,none⟩) 4 4] 50
theorem originL(oa ga:Option Addr)(on oc gn gc:Nat)(own og:List ByteArray)(z:Int)(w:World)(h1:TRd w ⟨oa,on,oc⟩ own)(h2:TRd w ⟨ga,gn,gc⟩ og)(hE:LayE w)(hL:LayT w) :
  Calls prog 5 #[.slice oa on oc,.slice ga gn gc,.int .u8 z] w fun e w'=>e=.returned (.bool true)/\Hid (Below w.heap.size w w'):=by
 have H:Hid (∀W,Below w.heap.size w W->LayT W/\LayE W):=fun W hW=>⟨hL.below hW,hE.below hW⟩
 have K7:=Lib.hid (awake7 w hE hL)
 by_cases hA:200<on
 ·have hA':(200:Int)<(on:Int):=by omega
  clear H hE hL h1 h2
  go_enter Tryz.func5,Tryz.ntmps5
  go_wp2_with fail
  refine K7.out.mono ?_
  rintro e w1 ⟨rfl,H1⟩
  go_wp2_with fail
  go_ret
  exact ⟨rfl,H1.out⟩
 have hA':¬ (200:Int)<(on:Int):=by omega
 by_cases hB:200<gn
 ·have hB':(200:Int)<(gn:Int):=by omega
  clear H hE hL h1 h2
  go_enter Tryz.func5,Tryz.ntmps5
  go_wp2_with fail
  refine K7.out.mono ?_
  rintro e w1 ⟨rfl,H1⟩
  go_wp2_with fail
  go_ret
  exact ⟨rfl,H1.out⟩
 have hB':¬ (200:Int)<(gn:Int):=by omega
 have HO:Hid (∀W,Below w.heap.size w W->Nw W oa on own/\Nw W ga gn og):=fun W hW=>⟨(trd_nw (s:=⟨oa,on,oc⟩) h1 (by show on<=1000;omega)).below hW,(trd_nw (s:=⟨ga,gn,gc⟩) h2 (by show gn<=1000;omega)).below hW⟩
 have HLN:Hid (own.length=on/\og.length=gn):=⟨h1.len,h2.len⟩
 have KJ:Hid (∀W,Below w.heap.size w W->Calls prog 13 #[.slice oa on oc,.slice ga gn gc] W fun e w'=>∃s:Sl,e=.returned (.tuple #[.slice s.a s.n s.c,.int .i64 (njoin own og).2])/\Hid (Below W.heap.size W w'/\TRd w' s (njoin own og).1)):=fun W hW=>join_sl (HO.out W hW).1 (HO.out W hW).2
 clear h1 h2 hE hL
 by_cases hJ:(njoin own og).2=0
 case neg=>
  have hJ':((njoin own og).2 != 0)=true:=by simpa using hJ
  generalize njoin own og=J at*
  clear H HO HLN hJ
  go_enter Tryz.func5,Tryz.ntmps5
  go_wp2_with fail
  refine K7.out.mono ?_
  rintro e w1 ⟨rfl,H1⟩
  go_wp2_with fail
  refine (KJ.out w1 H1.out).mono ?_
  rintro e w2 ⟨s,rfl,H2⟩
  have HB:Hid (Below w.heap.size w w2):=H1.out.trans (H2.out.1.mono H1.out.size)
  clear K7 KJ H1 H2
  go_wp2_with fail
  go_ret
  exact ⟨rfl,HB.out⟩
 obtain ⟨all,hall⟩:∃all,njoin own og=(all,0):=⟨_,Prod.ext rfl hJ⟩
 rw[hall] at KJ
 clear hJ
 by_cases hC:on=0
 ·subst hC
  clear H HO HLN hall
  go_enter Tryz.func5,Tryz.ntmps5
  go_wp2_with fail
  refine K7.out.mono ?_
  rintro e w1 ⟨rfl,H1⟩
  go_wp2_with fail
  refine (KJ.out w1 H1.out).mono ?_
  rintro e w2 ⟨s,rfl,H2⟩
  have HB:Hid (Below w.heap.size w w2):=H1.out.trans (H2.out.1.mono H1.out.size)
  clear K7 KJ H1 H2
  go_wp2_with fail
  go_ret
  exact ⟨rfl,HB.out⟩
 by_cases hD:gn=0
 ·subst hD
  have hC':¬ (on:Int)=0:=by omega
  clear H HO HLN hall
  go_enter Tryz.func5,Tryz.ntmps5
  go_wp2_with fail
  refine K7.out.mono ?_
  rintro e w1 ⟨rfl,H1⟩
  go_wp2_with fail
  refine (KJ.out w1 H1.out).mono ?_
  rintro e w2 ⟨s,rfl,H2⟩
  have HB:Hid (Below w.heap.size w w2):=H1.out.trans (H2.out.1.mono H1.out.size)
  clear K7 KJ H1 H2
  go_wp2_with fail
  go_ret
  exact ⟨rfl,HB.out⟩
 have hC':((on:Int) == 0)=false:=by simp;omega
 have hD':((gn:Int) == 0)=false:=by simp;omega
 have hC2:¬ (on:Int)=0:=by omega
 have hD2:¬ (gn:Int)=0:=by omega
 obtain ⟨kw,kg,ka,kapp⟩:=njoin_nck hall
 have n1:own≠[]:=fun e=>hC (by rw[<- HLN.out.1,e];rfl)
 have n2:og≠[]:=fun e=>hD (by rw[<- HLN.out.2,e];rfl)
 have n3:all≠[]:=by rw[kapp];simp[n1]
 have e1:(ntext own).2=0:=by unfold ntext;rw[if_pos kw];split <;> rfl
 have e2:(ntext og).2=0:=by unfold ntext;rw[if_pos kg];split <;> rfl
 have e3:(ntext all).2=0:=by unfold ntext;rw[if_pos ka];split <;> rfl
 have KT1:Hid (∀W,Below w.heap.size w W->Calls prog 9 #[.slice oa on oc] W fun e w'=>e=.returned (.tuple #[.string (ntext own).1,.int .i64 0])/\Hid (Below W.heap.size W w')):=fun W hW=>(by have:=text_wide9 oa on oc own W (HO.out W hW).1;rw[e1] at this;exact this)
 have KT2:Hid (∀W,Below w.heap.size w W->Calls prog 9 #[.slice ga gn gc] W fun e w'=>e=.returned (.tuple #[.string (ntext og).1,.int .i64 0])/\Hid (Below W.heap.size W w')):=fun W hW=>(by have:=text_wide9 ga gn gc og W (HO.out W hW).2;rw[e2] at this;exact this)
 have KT3:Hid (∀W (s:Sl),TRd W s all->Calls prog 9 #[.slice s.a s.n s.c] W fun e w'=>e=.returned (.tuple #[.string (ntext all).1,.int .i64 0])/\Hid (Below W.heap.size W w')):=fun W s hs=>(by have:=ptext_any s.a s.n s.c all W (trd_nm hs ka);rw[e3] at this;exact this)
 have z1:=text_size kw
 have z2:=text_size kg
 have z3:=text_size ka
 have z4:=rel_size kw n1
 have hcut:=cut_o kw n1
 have M1:Hid (∀t:ByteArray,t.data.toList=cOrgSp++(ntext og).1.data.toList++[10]++(relT own).data.toList++tailT->∀W,Below w.heap.size w W->Calls prog 8 #[.string t,.slice none 0 0] W (AlP (.ok [adrR all 60 4]) W)):=fun t ht W hW=>(by
  have:=parse_any8 t none 0 0 [] W ⟨.inl rfl,rfl,by decide⟩ (H.out W hW).2 (H.out W hW).1
  rw[mst_with hall n1 ht] at this
  exact this)
 have M2:Hid (∀t:ByteArray,t.data.toList=(ntext all).1.data.toList++tailT->∀W,Below w.heap.size w W->Calls prog 8 #[.string t,.slice ga gn gc] W (AlP (.ok [adrR all 60 4]) W)):=fun t ht W hW=>(by
  have:=parse_wide8 t ga gn gc og W (HO.out W hW).2 (H.out W hW).2 (H.out W hW).1
  rw[mst_whole kg ka n3 ht] at this
  exact this)
 clear H HO HLN hall kw kg ka kapp n1 n2 n3 e1 e2 e3 hC hD hA hB
 generalize (ntext own).1=o at*
 generalize (ntext og).1=g at*
 generalize (ntext all).1=x at*
 generalize relT own=o1 at*
 obtain ⟨t1,ht1⟩:∃t,t=(⟨#[36,111,114,105,103,105,110,32]⟩:ByteArray)++g:=⟨_,rfl⟩
 obtain ⟨t2,ht2⟩:∃t,t=t1++(⟨#[10]⟩:ByteArray):=⟨_,rfl⟩
 obtain ⟨t3,ht3⟩:∃t,t=t2++o1:=⟨_,rfl⟩
 obtain ⟨t4,ht4⟩:∃t,t=t3++(⟨#[32,54,48,32,73,78,32,65,32,49,46,50,46,51,46,52,10]⟩:ByteArray):=⟨_,rfl⟩
 obtain ⟨t5,ht5⟩:∃t,t=x++(⟨#[32,54,48,32,73,78,32,65,32,49,46,50,46,51,46,52,10]⟩:ByteArray):=⟨_,rfl⟩
 have a1:t1.size=8+g.size:=by rw[ht1,ByteArray.size_append];rfl
 have a2:t2.size=t1.size+1:=by rw[ht2,ByteArray.size_append];rfl
 have a3:t3.size=t2.size+o1.size:=by rw[ht3,ByteArray.size_append]
 have s1:∀W,(Op.stringOp .add ⟨#[36,111,114,105,103,105,110,32]⟩ g).run prog W=.ok (.string t1) W:=fun W=>by rw[ht1];exact run_string_add_sum (P:=prog) W _ _ (by have e:(⟨#[36,111,114,105,103,105,110,32]⟩:ByteArray).size=8:=rfl;omega)
 have s2:∀W,(Op.stringOp .add t1 ⟨#[10]⟩).run prog W=.ok (.string t2) W:=fun W=>by rw[ht2];exact run_string_add_sum (P:=prog) W _ _ (by have e:(⟨#[10]⟩:ByteArray).size=1:=rfl;omega)
 have s3:∀W,(Op.stringOp .add t2 o1).run prog W=.ok (.string t3) W:=fun W=>by rw[ht3];exact run_string_add_sum (P:=prog) W _ _ (by omega)
 have e17:(⟨#[32,54,48,32,73,78,32,65,32,49,46,50,46,51,46,52,10]⟩:ByteArray).size=17:=rfl
 have s4:∀W,(Op.stringOp .add t3 ⟨#[32,54,48,32,73,78,32,65,32,49,46,50,46,51,46,52,10]⟩).run prog W=.ok (.string t4) W:=fun W=>by rw[ht4];exact run_string_add_sum (P:=prog) W _ _ (by omega)
 have s5:∀W,(Op.stringOp .add x ⟨#[32,54,48,32,73,78,32,65,32,49,46,50,46,51,46,52,10]⟩).run prog W=.ok (.string t5) W:=fun W=>by rw[ht5];exact run_string_add_sum (P:=prog) W _ _ (by omega)
 have KP1:Hid (∀W,Below w.heap.size w W->Calls prog 8 #[.string t4,.slice none 0 0] W (AlP (.ok [adrR all 60 4]) W)):=M1.out t4 (by rw[ht4,ht3,ht2,ht1];simp[cOrgSp,tailT])
 have KP2:Hid (∀W,Below w.heap.size w W->Calls prog 8 #[.string t5,.slice ga gn gc] W (AlP (.ok [adrR all 60 4]) W)):=M2.out t5 (by rw[ht5];simp[tailT])
 have hl1:¬ ((o.size:Int)<1):=by omega
 have hl2:(1:Int)<=(o.size:Int):=by omega
 have hl3:(o.size:Int)<=1020:=by omega
 clear e17 M1 M2 ht1 ht2 ht3 ht4 ht5 a1 a2 a3 z1 z2 z3 z4
 have KAD:Hid (∀W (s:Sl),TRd W s all->Calls prog 14 #[.slice s.a s.n s.c,.int .u32 60,.int .u8 4] W fun e w'=>e=.returned (.agg #[.slice s.a s.n s.c,.int .u16 1,.int .u16 1,.int .u32 60,.slice none 0 0,.slice none 0 0,.slice none 0 0,.slice (some ⟨W.heap.size+1,0,none⟩) 4 4])/\Hid (Below W.heap.size W w'/\RRd w' ⟨s,⟨⟨none,0,0⟩,⟨none,0,0⟩,⟨none,0,0⟩,⟨some ⟨W.heap.size+1,0,none⟩,4,4⟩⟩⟩ (adrR all 60 4))):=fun W s hs=>address14 s all 60 4 W hs (by omega)
 have hq:∀W,(binOp .eql 28 (.agg #[.int .i64 0,.int .i64 0]) (.agg #[.int .i64 0,.int .i64 0])).run prog W=.ok (.bool true) W:=fun W=>by rw[eqlF28];rfl
 go_enter Tryz.func5,Tryz.ntmps5
 go_wp2_with fail
 refine K7.out.mono ?_
 rintro e w1 ⟨rfl,H1⟩
 go_wp2_with fail
 refine (KJ.out w1 H1.out).mono ?_
 rintro e w2 ⟨⟨sa,sn,sc⟩,rfl,H2⟩
 have HB2:Hid (Below w.heap.size w w2/\TRd w2 ⟨sa,sn,sc⟩ all):=⟨H1.out.trans (H2.out.1.mono H1.out.size),H2.out.2⟩
 clear K7 KJ H1 H2
 go_wp2_with fail
 refine (KT1.out w2 HB2.out.1).mono ?_
 rintro e w3 ⟨rfl,H3⟩
 have HB3:Hid (Below w.heap.size w w3/\TRd w3 ⟨sa,sn,sc⟩ all):=⟨HB2.out.1.trans (H3.out.mono HB2.out.1.size),HB2.out.2.below H3.out⟩
 clear KT1 H3 HB2
 go_wp2_with fail
 refine (KT2.out w3 HB3.out.1).mono ?_
 rintro e w4 ⟨rfl,H4⟩
 have HB4:Hid (Below w.heap.size w w4/\TRd w4 ⟨sa,sn,sc⟩ all):=⟨HB3.out.1.trans (H4.out.mono HB3.out.1.size),HB3.out.2.below H4.out⟩
 clear KT2 H4 HB3
 have KT3':=Lib.hid (KT3.out w4 ⟨sa,sn,sc⟩ HB4.out.2)
 simp only at KT3'
 go_wp2_with fail
 refine KT3'.out.mono ?_
 rintro e w5 ⟨rfl,H5⟩
 have HB5:Hid (Below w.heap.size w w5/\TRd w5 ⟨sa,sn,sc⟩ all):=⟨HB4.out.1.trans (H5.out.mono HB4.out.1.size),HB4.out.2.below H5.out⟩
 clear KT3 KT3' H5 HB4
 go_wp2_with fail
 refine (KP1.out w5 HB5.out.1).mono ?_
 rintro e w6 ⟨⟨ya,yn,yc⟩,er,ln,rfl,HB6,HQ⟩
 obtain ⟨rfl,rfl,how,-⟩:=HQ.out
 have HB7:Hid (Below w.heap.size w (w6.alloc Z28)/\TRd (w6.alloc Z28) ⟨sa,sn,sc⟩ all/\LRd (w6.alloc Z28) ⟨ya,yn,yc⟩ [adrR all 60 4]/\(w6.alloc Z28).heap[w6.heap.size]?=some Z28):=by
  have b1:=HB5.out.1.trans (HB6.out.mono HB5.out.1.size)
  have b2:=new_below w6 Z28
  exact ⟨b1.trans (b2.mono b1.size),(HB5.out.2.below HB6.out).below b2,(OwR.lrd (x:=⟨ya,yn,yc⟩) how).below b2,alloc_at _ _⟩
 clear how HQ HB6 HB5 KP1
 go_wp2_with fail
 generalize w6.alloc Z28=w7 at*
 refine (KP2.out w7 HB7.out.1).mono ?_
 rintro e w8 ⟨⟨ua,un,uc⟩,er,ln,rfl,HB8,HQ⟩
 obtain ⟨rfl,rfl,how,-⟩:=HQ.out
 have HB9:Hid (Below w.heap.size w (w8.alloc Z28)/\TRd (w8.alloc Z28) ⟨sa,sn,sc⟩ all/\LRd (w8.alloc Z28) ⟨ya,yn,yc⟩ [adrR all 60 4]/\(w8.alloc Z28).heap[w6.heap.size]?=some Z28/\LRd (w8.alloc Z28) ⟨ua,un,uc⟩ [adrR all 60 4]/\(w8.alloc Z28).heap[w8.heap.size]?=some Z28):=by
  have b1:=HB7.out.1.trans (HB8.out.mono HB7.out.1.size)
  have b2:=new_below w8 Z28
  exact ⟨b1.trans (b2.mono b1.size),(HB7.out.2.1.below HB8.out).below b2,(HB7.out.2.2.1.below HB8.out).below b2,block_alloc ((HB8.out.block _ (block_lt HB7.out.2.2.2)).trans HB7.out.2.2.2) _,(OwR.lrd (x:=⟨ua,un,uc⟩) how).below b2,alloc_at _ _⟩
 clear how HQ HB8 HB7 KP2
 go_wp2_with fail
 generalize w8.alloc Z28=w9 at*
 have KAD':=Lib.hid (KAD.out w9 ⟨sa,sn,sc⟩ HB9.out.2.1)
 simp only at KAD'
 refine KAD'.out.mono ?_
 rintro e w10 ⟨rfl,H10⟩
 have BZ:Hid (Below w9.heap.size w9 (w10.alloc (R50 sa sn sc w9))):=H10.out.1.trans ((new_below _ _).mono H10.out.1.size)
 have HLL:Hid (LRd (w10.alloc (R50 sa sn sc w9)) ⟨some ⟨w10.heap.size,0,none⟩,1,1⟩ [adrR all 60 4]):=lrd_one H10.out.2
 have f1:=cell_of_block (i:=0) ((BZ.out.block _ (block_lt HB9.out.2.2.2.1)).trans HB9.out.2.2.2.1) rfl
 have f2:=cell_of_block (i:=1) ((BZ.out.block _ (block_lt HB9.out.2.2.2.1)).trans HB9.out.2.2.2.1) rfl
 have f3:=cell_of_block (i:=0) ((BZ.out.block _ (block_lt HB9.out.2.2.2.2.2)).trans HB9.out.2.2.2.2.2) rfl
 have f4:=cell_of_block (i:=1) ((BZ.out.block _ (block_lt HB9.out.2.2.2.2.2)).trans HB9.out.2.2.2.2.2) rfl
 have f5:=Nat.lt_of_lt_of_le (block_lt HB9.out.2.2.2.1) BZ.out.size
 have f6:=Nat.lt_of_lt_of_le (block_lt HB9.out.2.2.2.2.2) BZ.out.size
 have HBW:Hid (Below w.heap.size w (w10.alloc (R50 sa sn sc w9))):=HB9.out.1.trans (BZ.out.mono HB9.out.1.size)
 have KS1:=Lib.hid (same_lrd (HB9.out.2.2.1.below BZ.out) HLL.out)
 have KS2:=Lib.hid (same_lrd (HB9.out.2.2.2.2.1.below BZ.out) HLL.out)
 simp only at KS1 KS2
 clear H10 KAD KAD' HB9 BZ HLL
 go_wp2_with fail
 generalize w10.alloc (R50 sa sn sc w9)=w11 at*
 refine (KS1.out w11 (Below.refl _ _)).mono ?_
 rintro e w12 ⟨rfl,H12⟩
 have HB12:Hid (Below w.heap.size w w12/\Below w11.heap.size w11 w12):=⟨HBW.out.trans (H12.mono HBW.out.size),H12⟩
 clear H12 HBW KS1 f1 f2 f3 f4 f5 f6
 go_wp2_with fail
 refine (KS2.out w12 HB12.out.2).mono ?_
 rintro e w13 ⟨rfl,H13⟩
 have HB13:Hid (Below w.heap.size w w13):=HB12.out.1.trans (H13.mono HB12.out.1.size)
 clear H13 HB12 KS2
 go_wp2_with fail
 go_ret
 exact ⟨rfl,HB13.out⟩
theorem d_own:ownKnob prog.godebug=none:=by kernel_rfl
theorem tPow:(prog.globals[8]?).map (·.type)=some 264:=by kernel_rfl
theorem tLen:(prog.globals[1]?).map (·.type)=some 134:=by kernel_rfl
theorem tSp:(prog.globals[7]?).map (·.type)=some 174:=by kernel_rfl
theorem tSyn:(prog.globals[5]?).map (·.type)=some 68:=by kernel_rfl
theorem tRng:(prog.globals[6]?).map (·.type)=some 68:=by kernel_rfl
theorem c5:prog.cellsOf 5=1:=by kernel_rfl
theorem c174:prog.cellsOf 174=256:=by kernel_rfl
theorem c130:prog.cellsOf 130=1:=by kernel_rfl
theorem c264:prog.cellsOf 264=20:=by kernel_rfl
theorem c134:prog.cellsOf 134=5:=by kernel_rfl
theorem c229:prog.cellsOf 229=1:=by kernel_rfl
theorem c9:prog.cellsOf 9=1:=by kernel_rfl
abbrev LD:=List (String×DataW Unit)
theorem d_star : "*" ++ "errors.errorString" = "*errors.errorString" := by decide
theorem row227 (u : TypeId) (h : prog.typeName? 3 u = some "*errors.errorString") : u = 227 :=
 typeName_ptr_named (nm := "errors.errorString") (by rw[d_star]; kernel_rfl) (by kernel_rfl) (by decide) u (by rw[d_star]; exact h)
theorem powD:(Rows.laid_internal_strconv_uint64pow10:DataW Unit)=Lib.tabData .u64 Lib.pow10Tab:=by kernel_rfl
theorem lenD:(Rows.laid_nomenclator_master_lengths:DataW Unit)=Lib.tabData .u64 lenTab:=by kernel_rfl
theorem spD:(Rows.laid_strings_asciiSpace:DataW Unit)=Lib.tabData .u8 Lib.asciiSpaceTab:=by kernel_rfl
theorem met_pow {r:LD}{W:World}(h:laidMet prog (("internal/strconv.uint64pow10",Rows.laid_internal_strconv_uint64pow10)::r) W):Lib.TabIs prog W "internal/strconv.uint64pow10" .u64 Lib.pow10Tab:=by
 rw[powD] at h
 exact Lib.tabIs_of_head gPow tPow Tryz.underlying264 Tryz.underlying130 c130 c264 h
theorem met_len {r:LD}{W:World}(h:laidMet prog (("nomenclator/master.lengths",Rows.laid_nomenclator_master_lengths)::r) W):Lib.TabIs prog W "nomenclator/master.lengths" .u64 lenTab:=by
 rw[lenD] at h
 exact Lib.tabIs_of_head gLen tLen Tryz.underlying134 Tryz.underlying130 c130 c134 h
theorem met_sp {r:LD}{W:World}(h:laidMet prog (("strings.asciiSpace",Rows.laid_strings_asciiSpace)::r) W):Lib.TabIs prog W "strings.asciiSpace" .u8 Lib.asciiSpaceTab:=by
 rw[spD] at h
 exact Lib.tabIs_of_head gSp tSp Tryz.underlying174 Tryz.underlying5 c5 c174 h
theorem met_rng {r:LD}{W:World}(h:laidMet prog (("strconv.ErrRange",Rows.laid_strconv_ErrRange)::r) W):∃tp p,W.var? prog "strconv.ErrRange"=some #[.iface tp p]:=by
 obtain ⟨a,s,hv,_⟩:=laid_sentinel h gRng tRng Tryz.underlying68 row227 Tryz.underlying227 Tryz.underlying229 rfl rfl Tryz.underlying9 c229 c9
 exact ⟨_,_,hv⟩
theorem met_syn {r:LD}{W:World}(h:laidMet prog (("strconv.ErrSyntax",Rows.laid_strconv_ErrSyntax)::r) W):∃tp p,W.var? prog "strconv.ErrSyntax"=some #[.iface tp p]:=by
 obtain ⟨a,s,hv,_⟩:=laid_sentinel h gSyn tSyn Tryz.underlying68 row227 Tryz.underlying227 Tryz.underlying229 rfl rfl Tryz.underlying9 c229 c9
 exact ⟨_,_,hv⟩
theorem met_max{W:World}(h:W.ShapedOpen prog):0<W.heap.size/\∃m,W.cell? ⟨0,0,none⟩=some (.int .i64 m):=by
 have h0:((begin prog (fun _ _=>0) default).world.heap[0]?).bind Obj.row?=some (#[.int .i64 0],3):=by kernel_rfl
 have hb:prog.buildable 3=true:=by kernel_rfl
 have hc:prog.cellTypes prog.depth 3=some [3]:=by kernel_rfl
 have hg:0<prog.globals.size:=of_decide_eq_true (by kernel_rfl)
 obtain ⟨cs,hh,hs,hr⟩:=h.1 0 #[.int .i64 0] 3 hg h0
 refine ⟨(Array.getElem?_eq_some_iff.1 hh).1,?_⟩
 obtain ⟨ts,hts,hlen,hall⟩:=hr hb
 rw[hc] at hts
 cases hts
 have h1:0<cs.size:=by rw[hs];decide
 obtain ⟨u,hu',hok⟩:=hall 0 cs[0] (by simp[h1])
 have hu:u=3:=(Option.some.inj hu').symm
 have hcell:W.cell? ⟨0,0,none⟩=some cs[0]:=by simp[World.cell?,hh,h1]
 rw[hcell]
 unfold Cell.ok at hok
 rw[hu,Tryz.underlying3] at hok
 cases hv:cs[0] <;> rw[hv] at hok <;> first|simp at hok;done|skip
 all_goals (simp at hok;obtain ⟨rfl,_⟩:=hok;exact ⟨_,rfl⟩)
abbrev laid10:LD:=[("math/bits.deBruijn32tab",Rows.laid_math_bits_deBruijn32tab),("math/bits.deBruijn64tab",Rows.laid_math_bits_deBruijn64tab),("internal/strconv.uint64pow10",Rows.laid_internal_strconv_uint64pow10),("unicode/utf8.acceptRanges",Rows.laid_unicode_utf8_acceptRanges),("strconv.ErrRange",Rows.laid_strconv_ErrRange),("strconv.ErrSyntax",Rows.laid_strconv_ErrSyntax),("unicode.White_Space",Rows.laid_unicode_White_Space),("strings.asciiSpace",Rows.laid_strings_asciiSpace),("nomenclator/master.lengths",Rows.laid_nomenclator_master_lengths),("unicode/utf8.first",Rows.laid_unicode_utf8_first)]
theorem plain10:(laid10.all fun x=>x.2.handleName?.isNone)=true:=by kernel_rfl
theorem lay10{W:World}(h:laidMetH prog laid10 W)(hs:W.ShapedOpen prog):LayT W/\LayE W:=by
 rw[MakeChecks.laidMetH_plain _ _ _ plain10] at h
 exact ⟨⟨met_pow h.tail.tail,met_sp h.tail.tail.tail.tail.tail.tail.tail,met_len h.tail.tail.tail.tail.tail.tail.tail.tail⟩,met_syn h.tail.tail.tail.tail.tail,met_rng h.tail.tail.tail.tail,met_max hs⟩
theorem all_met10(os:Os)(args:Array Value):laidMetH prog laid10 ((World.laidAll prog os laid10).forCall (fun _ _=>0) ⟨#[],args,[]⟩).memory:=by
 rw[MakeChecks.laidMetH_plain _ _ _ plain10]
 exact laidMet_laidAll args (by kernel_rfl) (by kernel_rfl)
end Go.Proofs.YtjkljpdolhglcaaGreatDoor
