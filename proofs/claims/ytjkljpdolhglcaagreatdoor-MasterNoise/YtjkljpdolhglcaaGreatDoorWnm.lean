/- Texts laid together, in parts: Jn Lay14. -/
import Derived.Test.YtjkljpdolhglcaaGreatDoorWnl
import Derived.Test.YtjkljpdolhglcaaGreatDoorCards
import Derived.Test.YtjkljpdolhglcaaGreatDoorTie
import Derived.ProofKit
import Derived.OpenShut
import Derived.LaidMore
import Derived.LaidOnce
import Derived.LaidSub
import Derived.MakeChecks
import Derived.Stop.LaidErr
import Derived.Deep.DeepHandedRow
import Derived.Deep.DeepWitnessRowRef
import Derived.Lay
set_option maxRecDepth 100000
set_option maxHeartbeats 8000000
set_option linter.unusedVariables false
set_option linter.unusedSimpArgs false
namespace Go.Proofs.YtjkljpdolhglcaaGreatDoor
open Go.ChangeShapes Go.WideShapes Go.ChangeAt Go.RowKit
theorem trd_nwN{w:World}{s:Sl}{ss:List ByteArray}(h:TRd w s ss)(hn:s.n<=1000):Nw w s.a s.n ss:=⟨h.rd,h.len,hn,h.z63⟩
theorem noiseL(s rm:ByteArray)(ga:Option Addr)(gn gc:Nat)(og:List ByteArray)(w:World)(h2:TRd w ⟨ga,gn,gc⟩ og)(hE:LayE w)(hL:LayT w) :
  Calls Tryz.prog 4 #[.string s,.slice ga gn gc,.string rm] w fun e w'=>e=.returned (.bool true)/\Hid (Below w.heap.size w w'):=by
 have H:Hid (∀W,Below w.heap.size w W->LayT W/\LayE W):=fun W hW=>⟨hL.below hW,hE.below hW⟩
 have K7:=Lib.hid (awake7 w hE hL)
 by_cases hA:2000<s.size
 ·have hA':(2000:Int)<(s.size:Int):=by omega
  clear H hE hL h2
  go_enter Tryz.func4,Tryz.ntmps4
  go_wp2_with fail
  refine K7.out.mono ?_
  rintro e w1 ⟨rfl,H1⟩
  go_wp2_with fail
  go_ret
  exact ⟨rfl,H1.out⟩
 have hA':¬ (2000:Int)<(s.size:Int):=by omega
 by_cases hB:200<gn
 ·have hB':(200:Int)<(gn:Int):=by omega
  clear H hE hL h2
  go_enter Tryz.func4,Tryz.ntmps4
  go_wp2_with fail
  refine K7.out.mono ?_
  rintro e w1 ⟨rfl,H1⟩
  go_wp2_with fail
  go_ret
  exact ⟨rfl,H1.out⟩
 have hB':¬ (200:Int)<(gn:Int):=by omega
 by_cases hC:200<rm.size
 ·have hC':(200:Int)<(rm.size:Int):=by omega
  clear H hE hL h2
  go_enter Tryz.func4,Tryz.ntmps4
  go_wp2_with fail
  refine K7.out.mono ?_
  rintro e w1 ⟨rfl,H1⟩
  go_wp2_with fail
  go_ret
  exact ⟨rfl,H1.out⟩
 have hC':¬ (200:Int)<(rm.size:Int):=by omega
 have HO:Hid (∀W,Below w.heap.size w W->Nw W ga gn og):=fun W hW=>(trd_nwN (s:=⟨ga,gn,gc⟩) h2 (by show gn<=1000;omega)).below hW
 have KC:=Lib.hid (fun W=>Tryz.strings_Contains_one rm 10 W)
 by_cases hD:0<=Lib.indexByte rm.data.toList 10
 ·rw[decide_eq_true hD] at KC
  clear H hE hL h2 HO hD
  go_enter Tryz.func4,Tryz.ntmps4
  go_wp2_with fail
  refine K7.out.mono ?_
  rintro e w1 ⟨rfl,H1⟩
  go_wp2_with fail
  refine (KC.out _).mono ?_
  rintro e w2 ⟨rfl,rfl⟩
  go_wp2_with fail
  go_ret
  exact ⟨rfl,H1.out⟩
 rw[decide_eq_false hD] at KC
 have hrm:=idx_not _ _ hD
 have KP:Hid (∀W,Below w.heap.size w W->Calls Tryz.prog 8 #[.string s,.slice ga gn gc] W (AlP (mstF s og) W)):=fun W hW=>parse_wide8 s ga gn gc og W (HO.out W hW) (H.out W hW).2 (H.out W hW).1
 clear hD h2 hE hL
 cases hm:mstF s og with
 |er er ln=>
  have hne:=mst_er hm
  rw[hm] at KP
  have hq:∀W,(binOp .neq 28 (.agg #[.int .i64 er,.int .i64 ln]) (.agg #[.int .i64 0,.int .i64 0])).run Tryz.prog W=.ok (.bool true) W:=fun W=>by rw[neqF28];simp[hne]
  clear H HO hrm hm
  go_enter Tryz.func4,Tryz.ntmps4
  go_wp2_with fail
  refine K7.out.mono ?_
  rintro e w1 ⟨rfl,H1⟩
  go_wp2_with fail
  refine (KC.out _).mono ?_
  rintro e w2 ⟨rfl,rfl⟩
  go_wp2_with fail
  refine (KP.out _ H1.out).mono ?_
  rintro e w3 ⟨⟨ya,yn,yc⟩,a,b,rfl,HB3,HQ⟩
  obtain ⟨ra,rb,-⟩:=HQ.out
  have HBB:Hid (Below w.heap.size w (w3.alloc (.cells #[.int .i64 er,.int .i64 ln] 28))):=by
   have b1:=H1.out.trans (HB3.out.mono H1.out.size)
   exact b1.trans ((new_below _ _).mono b1.size)
  rw[ra,rb]
  clear HQ HB3 KP KC K7 H1 ra rb hne
  go_wp2_with fail
  go_ret
  exact ⟨rfl,HBB.out⟩
 |ok rs=>
  rw[hm] at KP
  have key:∀tl:ByteArray,endl s.data.toList=tl.data.toList->tl.size<=2001->∃t1 t2 t3 t4 t5 t6,Nz rm tl t1 t2 t3 t4 t5 t6/\Hid (∀W,Below w.heap.size w W->Calls Tryz.prog 8 #[.string t6,.slice ga gn gc] W (AlP (.ok rs) W)):=by
   intro tl h1 h2
   obtain ⟨t1,t2,t3,t4,t5,t6,hz,h6⟩:=nz_of (by omega) h2 h1 hm hrm
   refine ⟨t1,t2,t3,t4,t5,t6,hz,fun W hW=>?_⟩
   have:=parse_wide8 t6 ga gn gc og W (HO.out W hW) (H.out W hW).2 (H.out W hW).1
   rw[h6] at this
   exact this
  have hq:∀W,(binOp .eql 28 (.agg #[.int .i64 0,.int .i64 0]) (.agg #[.int .i64 0,.int .i64 0])).run Tryz.prog W=.ok (.bool true) W:=fun W=>by rw[eqlF28];rfl
  have hq2:∀W,(binOp .neq 28 (.agg #[.int .i64 0,.int .i64 0]) (.agg #[.int .i64 0,.int .i64 0])).run Tryz.prog W=.ok (.bool false) W:=fun W=>by rw[neqF28];rfl
  clear H HO hrm hm
  by_cases h0:s.size=0
  ·have h0':¬ (0:Int)<(s.size:Int):=by omega
   obtain ⟨t1,t2,t3,t4,t5,t6,⟨s1,s2,s3,s4,s5,s6⟩,KN⟩:=key s (endl_nil h0) (by omega)
   clear h0
   clear key hA hB hC
   go_enter Tryz.func4,Tryz.ntmps4
   go_wp2_with fail
   refine K7.out.mono ?_
   rintro e w1 ⟨rfl,H1⟩
   go_wp2_with fail
   refine (KC.out _).mono ?_
   rintro e w2 ⟨rfl,rfl⟩
   go_wp2_with fail
   refine (KP.out _ H1.out).mono ?_
   rintro e w3 ⟨⟨ya,yn,yc⟩,a,b,rfl,HB3,HQ⟩
   obtain ⟨rfl,rfl,how,-⟩:=HQ.out
   have HB4:Hid (Below w.heap.size w (w3.alloc (.cells #[.int .i64 0,.int .i64 0] 28))/\LRd (w3.alloc (.cells #[.int .i64 0,.int .i64 0] 28)) ⟨ya,yn,yc⟩ rs/\(w3.alloc (.cells #[.int .i64 0,.int .i64 0] 28)).heap[w3.heap.size]?=some (.cells #[.int .i64 0,.int .i64 0] 28)):=by
    have b1:=H1.out.trans (HB3.out.mono H1.out.size)
    have b2:=new_below w3 (.cells #[.int .i64 0,.int .i64 0] 28)
    exact ⟨b1.trans (b2.mono b1.size),(OwR.lrd (x:=⟨ya,yn,yc⟩) how).below b2,alloc_at _ _⟩
   clear how HQ HB3 KP KC K7 H1
   go_wp2_with fail
   generalize w3.alloc (.cells #[.int .i64 0,.int .i64 0] 28)=w4 at*
   refine (KN.out _ HB4.out.1).mono ?_
   rintro e w5 ⟨⟨ua,un,uc⟩,a,b,rfl,HB5,HQ⟩
   obtain ⟨rfl,rfl,how,-⟩:=HQ.out
   have HB6:Hid (Below w.heap.size w (w5.alloc (.cells #[.int .i64 0,.int .i64 0] 28))/\LRd (w5.alloc (.cells #[.int .i64 0,.int .i64 0] 28)) ⟨ya,yn,yc⟩ rs/\LRd (w5.alloc (.cells #[.int .i64 0,.int .i64 0] 28)) ⟨ua,un,uc⟩ rs):=by
    have b1:=HB4.out.1.trans (HB5.out.mono HB4.out.1.size)
    have b2:=new_below w5 (.cells #[.int .i64 0,.int .i64 0] 28)
    exact ⟨b1.trans (b2.mono b1.size),(HB4.out.2.1.below HB5.out).below b2,(OwR.lrd (x:=⟨ua,un,uc⟩) how).below b2⟩
   have KS:=Lib.hid (same_lrd HB6.out.2.1 HB6.out.2.2)
   simp only at KS
   clear how HQ HB5 HB4 KN
   go_wp2_with fail
   refine (KS.out _ (Below.refl _ _)).mono ?_
   rintro e w7 ⟨rfl,H7⟩
   have HB7:Hid (Below w.heap.size w w7):=HB6.out.1.trans (H7.mono HB6.out.1.size)
   clear H7 HB6 KS
   go_wp2_with fail
   go_ret
   exact ⟨rfl,HB7.out⟩
  have h0':(0:Int)<(s.size:Int):=by omega
  have hsz:(s.size:Int)<=2000:=by omega
  obtain ⟨c,hc,hidx⟩:=last_idx s (by omega)
  by_cases h10:c=10
  ·subst h10
   obtain ⟨t1,t2,t3,t4,t5,t6,⟨s1,s2,s3,s4,s5,s6⟩,KN⟩:=key s (endl_ten hc) (by omega)
   have hidx':∀W,(Instr.index 9 (.string s) (.int .i64 ((s.size:Int) - 1))).run Tryz.prog W=.ok (.int .u8 10) W:=hidx
   clear h0 hc hidx
   clear key hA hB hC
   go_enter Tryz.func4,Tryz.ntmps4
   go_wp2_with fail
   refine K7.out.mono ?_
   rintro e w1 ⟨rfl,H1⟩
   go_wp2_with fail
   refine (KC.out _).mono ?_
   rintro e w2 ⟨rfl,rfl⟩
   go_wp2_with fail
   refine (KP.out _ H1.out).mono ?_
   rintro e w3 ⟨⟨ya,yn,yc⟩,a,b,rfl,HB3,HQ⟩
   obtain ⟨rfl,rfl,how,-⟩:=HQ.out
   have HB4:Hid (Below w.heap.size w (w3.alloc (.cells #[.int .i64 0,.int .i64 0] 28))/\LRd (w3.alloc (.cells #[.int .i64 0,.int .i64 0] 28)) ⟨ya,yn,yc⟩ rs/\(w3.alloc (.cells #[.int .i64 0,.int .i64 0] 28)).heap[w3.heap.size]?=some (.cells #[.int .i64 0,.int .i64 0] 28)):=by
    have b1:=H1.out.trans (HB3.out.mono H1.out.size)
    have b2:=new_below w3 (.cells #[.int .i64 0,.int .i64 0] 28)
    exact ⟨b1.trans (b2.mono b1.size),(OwR.lrd (x:=⟨ya,yn,yc⟩) how).below b2,alloc_at _ _⟩
   clear how HQ HB3 KP KC K7 H1
   go_wp2_with fail
   generalize w3.alloc (.cells #[.int .i64 0,.int .i64 0] 28)=w4 at*
   refine (KN.out _ HB4.out.1).mono ?_
   rintro e w5 ⟨⟨ua,un,uc⟩,a,b,rfl,HB5,HQ⟩
   obtain ⟨rfl,rfl,how,-⟩:=HQ.out
   have HB6:Hid (Below w.heap.size w (w5.alloc (.cells #[.int .i64 0,.int .i64 0] 28))/\LRd (w5.alloc (.cells #[.int .i64 0,.int .i64 0] 28)) ⟨ya,yn,yc⟩ rs/\LRd (w5.alloc (.cells #[.int .i64 0,.int .i64 0] 28)) ⟨ua,un,uc⟩ rs):=by
    have b1:=HB4.out.1.trans (HB5.out.mono HB4.out.1.size)
    have b2:=new_below w5 (.cells #[.int .i64 0,.int .i64 0] 28)
    exact ⟨b1.trans (b2.mono b1.size),(HB4.out.2.1.below HB5.out).below b2,(OwR.lrd (x:=⟨ua,un,uc⟩) how).below b2⟩
   have KS:=Lib.hid (same_lrd HB6.out.2.1 HB6.out.2.2)
   simp only at KS
   clear how HQ HB5 HB4 KN
   go_wp2_with fail
   refine (KS.out _ (Below.refl _ _)).mono ?_
   rintro e w7 ⟨rfl,H7⟩
   have HB7:Hid (Below w.heap.size w w7):=HB6.out.1.trans (H7.mono HB6.out.1.size)
   clear H7 HB6 KS
   go_wp2_with fail
   go_ret
   exact ⟨rfl,HB7.out⟩
  obtain ⟨t1,t2,t3,t4,t5,t6,⟨s1,s2,s3,s4,s5,s6⟩,KN⟩:=key (s++(⟨#[10]⟩:ByteArray)) (endl_else hc h10) (by rw[ByteArray.size_append];have e:(⟨#[10]⟩:ByteArray).size=1:=rfl;omega)
  have s0:∀W,(Op.stringOp .add s ⟨#[10]⟩).run Tryz.prog W=.ok (.string (s++(⟨#[10]⟩:ByteArray))) W:=fun W=>run_string_add_sum (P:=Tryz.prog) W _ _ (by have e:(⟨#[10]⟩:ByteArray).size=1:=rfl;omega)
  obtain ⟨z,hz⟩:∃z:Int,z=(c.toNat:Int):=⟨_,rfl⟩
  have hz1:(z != 10)=true:=by
   rw[hz]
   simp only[bne_iff_ne,ne_eq]
   intro e
   apply h10
   apply UInt8.toNat_inj.1
   show c.toNat=10
   omega
  have hz2:¬ z=10:=by simpa using hz1
  rw[<- hz] at hidx
  generalize s++(⟨#[10]⟩:ByteArray)=tl at*
  clear h0 hc hz h10
  clear key hA hB hC
  go_enter Tryz.func4,Tryz.ntmps4
  go_wp2_with fail
  refine K7.out.mono ?_
  rintro e w1 ⟨rfl,H1⟩
  go_wp2_with fail
  refine (KC.out _).mono ?_
  rintro e w2 ⟨rfl,rfl⟩
  go_wp2_with fail
  refine (KP.out _ H1.out).mono ?_
  rintro e w3 ⟨⟨ya,yn,yc⟩,a,b,rfl,HB3,HQ⟩
  obtain ⟨rfl,rfl,how,-⟩:=HQ.out
  have HB4:Hid (Below w.heap.size w (w3.alloc (.cells #[.int .i64 0,.int .i64 0] 28))/\LRd (w3.alloc (.cells #[.int .i64 0,.int .i64 0] 28)) ⟨ya,yn,yc⟩ rs/\(w3.alloc (.cells #[.int .i64 0,.int .i64 0] 28)).heap[w3.heap.size]?=some (.cells #[.int .i64 0,.int .i64 0] 28)):=by
   have b1:=H1.out.trans (HB3.out.mono H1.out.size)
   have b2:=new_below w3 (.cells #[.int .i64 0,.int .i64 0] 28)
   exact ⟨b1.trans (b2.mono b1.size),(OwR.lrd (x:=⟨ya,yn,yc⟩) how).below b2,alloc_at _ _⟩
  clear how HQ HB3 KP KC K7 H1
  go_wp2_with fail
  generalize w3.alloc (.cells #[.int .i64 0,.int .i64 0] 28)=w4 at*
  refine (KN.out _ HB4.out.1).mono ?_
  rintro e w5 ⟨⟨ua,un,uc⟩,a,b,rfl,HB5,HQ⟩
  obtain ⟨rfl,rfl,how,-⟩:=HQ.out
  have HB6:Hid (Below w.heap.size w (w5.alloc (.cells #[.int .i64 0,.int .i64 0] 28))/\LRd (w5.alloc (.cells #[.int .i64 0,.int .i64 0] 28)) ⟨ya,yn,yc⟩ rs/\LRd (w5.alloc (.cells #[.int .i64 0,.int .i64 0] 28)) ⟨ua,un,uc⟩ rs):=by
   have b1:=HB4.out.1.trans (HB5.out.mono HB4.out.1.size)
   have b2:=new_below w5 (.cells #[.int .i64 0,.int .i64 0] 28)
   exact ⟨b1.trans (b2.mono b1.size),(HB4.out.2.1.below HB5.out).below b2,(OwR.lrd (x:=⟨ua,un,uc⟩) how).below b2⟩
  have KS:=Lib.hid (same_lrd HB6.out.2.1 HB6.out.2.2)
  simp only at KS
  clear how HQ HB5 HB4 KN
  go_wp2_with fail
  refine (KS.out _ (Below.refl _ _)).mono ?_
  rintro e w7 ⟨rfl,H7⟩
  have HB7:Hid (Below w.heap.size w w7):=HB6.out.1.trans (H7.mono HB6.out.1.size)
  clear H7 HB6 KS
  go_wp2_with fail
  go_ret
  exact ⟨rfl,HB7.out⟩
theorem d_own:ownKnob Tryz.prog.godebug=none:=by kernel_rfl
theorem tPow:(Tryz.prog.globals[8]?).map (·.type)=some 264:=by kernel_rfl
theorem tLen:(Tryz.prog.globals[1]?).map (·.type)=some 134:=by kernel_rfl
theorem tSp:(Tryz.prog.globals[7]?).map (·.type)=some 174:=by kernel_rfl
theorem tSyn:(Tryz.prog.globals[5]?).map (·.type)=some 68:=by kernel_rfl
theorem tRng:(Tryz.prog.globals[6]?).map (·.type)=some 68:=by kernel_rfl
theorem c5:Tryz.prog.cellsOf 5=1:=by kernel_rfl
theorem c174:Tryz.prog.cellsOf 174=256:=by kernel_rfl
theorem c130:Tryz.prog.cellsOf 130=1:=by kernel_rfl
theorem c264:Tryz.prog.cellsOf 264=20:=by kernel_rfl
theorem c134:Tryz.prog.cellsOf 134=5:=by kernel_rfl
theorem c229:Tryz.prog.cellsOf 229=1:=by kernel_rfl
theorem c9:Tryz.prog.cellsOf 9=1:=by kernel_rfl
theorem d_star : "*" ++ "errors.errorString" = "*errors.errorString" := by decide
theorem row227 (u : TypeId) (h : Tryz.prog.typeName? 3 u = some "*errors.errorString") : u = 227 :=
  typeName_ptr_named (nm := "errors.errorString") (by rw [d_star]; kernel_rfl) (by kernel_rfl) (by decide) u (by rw [d_star]; exact h)
theorem powD:(Rows.laid_internal_strconv_uint64pow10:DataW Unit)=Lib.tabData .u64 Lib.pow10Tab:=by kernel_rfl
theorem lenD:(Rows.laid_nomenclator_master_lengths:DataW Unit)=Lib.tabData .u64 lenTab:=by kernel_rfl
theorem spD:(Rows.laid_strings_asciiSpace:DataW Unit)=Lib.tabData .u8 Lib.asciiSpaceTab:=by kernel_rfl
theorem met_pow {r : List (String × DataW Unit)} {W : World} (h : laidMet Tryz.prog (("internal/strconv.uint64pow10", Rows.laid_internal_strconv_uint64pow10) :: r) W) : Lib.TabIs Tryz.prog W "internal/strconv.uint64pow10" .u64 Lib.pow10Tab := by
  rw [powD] at h
  exact Lib.tabIs_of_head gPow tPow Tryz.underlying264 Tryz.underlying130 c130 c264 h
theorem met_len {r : List (String × DataW Unit)} {W : World} (h : laidMet Tryz.prog (("nomenclator/master.lengths", Rows.laid_nomenclator_master_lengths) :: r) W) : Lib.TabIs Tryz.prog W "nomenclator/master.lengths" .u64 lenTab := by
  rw [lenD] at h
  exact Lib.tabIs_of_head gLen tLen Tryz.underlying134 Tryz.underlying130 c130 c134 h
theorem met_sp {r : List (String × DataW Unit)} {W : World} (h : laidMet Tryz.prog (("strings.asciiSpace", Rows.laid_strings_asciiSpace) :: r) W) : Lib.TabIs Tryz.prog W "strings.asciiSpace" .u8 Lib.asciiSpaceTab := by
  rw [spD] at h
  exact Lib.tabIs_of_head gSp tSp Tryz.underlying174 Tryz.underlying5 c5 c174 h
theorem met_rng {r : List (String × DataW Unit)} {W : World} (h : laidMet Tryz.prog (("strconv.ErrRange", Rows.laid_strconv_ErrRange) :: r) W) : ∃ tp p, W.var? Tryz.prog "strconv.ErrRange" = some #[.iface tp p] := by
  obtain ⟨a, s, hv, -, -, -⟩ := laid_sentinel h gRng tRng Tryz.underlying68 row227 Tryz.underlying227 Tryz.underlying229 rfl rfl Tryz.underlying9 c229 c9
  exact ⟨_, _, hv⟩
theorem met_syn {r : List (String × DataW Unit)} {W : World} (h : laidMet Tryz.prog (("strconv.ErrSyntax", Rows.laid_strconv_ErrSyntax) :: r) W) : ∃ tp p, W.var? Tryz.prog "strconv.ErrSyntax" = some #[.iface tp p] := by
  obtain ⟨a, s, hv, -, -, -⟩ := laid_sentinel h gSyn tSyn Tryz.underlying68 row227 Tryz.underlying227 Tryz.underlying229 rfl rfl Tryz.underlying9 c229 c9
  exact ⟨_, _, hv⟩
theorem met_max{W:World}(h:W.ShapedOpen Tryz.prog):0<W.heap.size/\∃m,W.cell? ⟨0,0,none⟩=some (.int .i64 m):=by
 have h0:((begin Tryz.prog (fun _ _=>0) default).world.heap[0]?).bind Obj.row?=some (#[.int .i64 0],3):=by kernel_rfl
 have hb:Tryz.prog.buildable 3=true:=by kernel_rfl
 have hc:Tryz.prog.cellTypes Tryz.prog.depth 3=some [3]:=by kernel_rfl
 have hg:0<Tryz.prog.globals.size:=of_decide_eq_true (by kernel_rfl)
 obtain ⟨cs,hh,hs,hr⟩:=h.1 0 #[.int .i64 0] 3 hg h0
 refine ⟨(Array.getElem?_eq_some_iff.1 hh).1,?_⟩
 obtain ⟨ts,hts,hlen,hall⟩:=hr hb
 rw[hc] at hts
 cases hts
 have h1:0<cs.size:=by rw[hs];decide
 obtain ⟨u,hu',hok⟩:=hall 0 cs[0] (by simp[h1])
 have hu:u=3:=(Option.some.inj hu').symm
 have hcell:W.cell? ⟨0,0,none⟩=some cs[0]:=by simp[World.cell?,hh,h1]
 rw[hcell]
 unfold Cell.ok at hok
 rw[hu,Tryz.underlying3] at hok
 cases hv:cs[0] <;> rw[hv] at hok <;> first|simp at hok;done|skip
 all_goals (simp at hok;obtain ⟨rfl,_⟩:=hok;exact ⟨_,rfl⟩)
abbrev laid10 : List (String × DataW Unit) := [("math/bits.deBruijn32tab", Rows.laid_math_bits_deBruijn32tab), ("math/bits.deBruijn64tab", Rows.laid_math_bits_deBruijn64tab), ("internal/strconv.uint64pow10", Rows.laid_internal_strconv_uint64pow10), ("unicode/utf8.acceptRanges", Rows.laid_unicode_utf8_acceptRanges), ("strconv.ErrRange", Rows.laid_strconv_ErrRange), ("strconv.ErrSyntax", Rows.laid_strconv_ErrSyntax), ("unicode.White_Space", Rows.laid_unicode_White_Space), ("strings.asciiSpace", Rows.laid_strings_asciiSpace), ("nomenclator/master.lengths", Rows.laid_nomenclator_master_lengths), ("unicode/utf8.first", Rows.laid_unicode_utf8_first)]
theorem plain10:(laid10.all fun x=>x.2.handleName?.isNone)=true:=by kernel_rfl
theorem lay10{W:World}(h:laidMetH Tryz.prog laid10 W)(hs:W.ShapedOpen Tryz.prog):LayT W/\LayE W:=by
 rw[MakeChecks.laidMetH_plain _ _ _ plain10] at h
 exact ⟨⟨met_pow h.tail.tail,met_sp h.tail.tail.tail.tail.tail.tail.tail,met_len h.tail.tail.tail.tail.tail.tail.tail.tail⟩,met_syn h.tail.tail.tail.tail.tail,met_rng h.tail.tail.tail.tail,met_max hs⟩
theorem all_met10(os:Os)(args:Array Value):laidMetH Tryz.prog laid10 ((World.laidAll Tryz.prog os laid10).forCall (fun _ _=>0) ⟨#[],args,[]⟩).memory:=by
 rw[MakeChecks.laidMetH_plain _ _ _ plain10]
 exact laidMet_laidAll args (by kernel_rfl) (by kernel_rfl)
end Go.Proofs.YtjkljpdolhglcaaGreatDoor
