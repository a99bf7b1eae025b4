/- Proved. No condition. -/
import Derived.Test.YtjkljpdolhglcaaGreatDoorWom
import Derived.WalkKit
import Derived.ShutString
import Derived.ChangeOld
import Derived.Below
import Derived.JoinedCond
import Derived.Deep.Strs
import Derived.Deep.Slices
import Derived.Lib.SmallJoins
namespace Go.Proofs.YtjkljpdolhglcaaGreatDoor
open Go.Proofs.Tryz(prog)
open Go.ChangeShapes Go.WideShapes Go.ChangeAt Go.RowKit
open Go.ChangeMaps (open_string shut_string)
set_option linter.unusedVariables false

theorem mo1:laidOutB prog = true:=by kernel_rfl
theorem mo2 (os:Os) {H:Type} (enc:TypeId × Value → H) :
  (OpenSpec.ofChange Rows.masterOriginSpec).preRow enc prog Tryz.f5 Rows.masterOriginRow.domain false Rows.masterOriginRow.laid ((World.laidAll Tryz.prog os laid10).forCall (fun _ _=>0) ⟨#[],#[.slice none 0 0,.slice none 0 0,.int .u8 0],[]⟩).memory #[.slice none 0 0,.slice none 0 0,.int .u8 0]:=by
 have hw:(DataW.whole enc prog ((World.laidAll Tryz.prog os laid10).forCall (fun _ _=>0) ⟨#[],#[.slice none 0 0,.slice none 0 0,.int .u8 0],[]⟩).memory Tryz.f5.params.toList Rows.masterOriginSpec.vars false #[Value.slice none 0 0,Value.slice none 0 0,Value.int .u8 0].toList 8).map (fun x => (x.1,x.2.1)) = some ([.nil,.nil,.lit (.int .u8 0)],[]):=by kernel_rfl
 obtain ⟨⟨x1,x2,x3⟩,hx,hx1⟩:=Option.map_eq_some_iff.1 hw
 simp only[Prod.mk.injEq] at hx1
 obtain ⟨rfl,rfl⟩:=hx1
 exact OpenSpec.preRow_of_cond 8 hx (by kernel_rfl) (fun k hk => by cases hk) (by kernel_rfl) (all_met10 os _)
set_option maxRecDepth 100000 in
theorem mo3 (os:Os) (started:os.Started) (H:Type) (enc:TypeId × Value → H) (F:Stop.Interp) :
  ReturnsInHanded {} Tryz.checked os 5 .any ((OpenSpec.ofChange Rows.masterOriginSpec).preRow enc prog Tryz.f5 Rows.masterOriginRow.domain false Rows.masterOriginRow.laid) (((OpenSpec.ofChange Rows.masterOriginSpec).at F).post enc prog Tryz.f5 false true false false):=by
 refine returnsInHanded_of_row (C:=Tryz.checked) (s:=OpenSpec.ofChange Rows.masterOriginSpec) d_own started (by kernel_rfl) Tryz.func5
  (witness_row_atRef (enc:=enc) (C:=Tryz.checked) false (World.laidAll prog os laid10) #[.slice none 0 0,.slice none 0 0,.int .u8 0] (World.laidAll_os _ _ _) (by kernel_rfl) (by kernel_rfl) (by kernel_rfl) (mo2 os enc)) ?_
 intro W base args ds gs before hval0 hW _ _ hsz hL hS _
 have hval:∀ (j:Nat) t v,Tryz.f5.params[j]? = some t → args[j]? = some v → Value.okWide prog W .any base t v:=hval0
 have hW':=hW
 obtain ⟨p,q,hA0,hV,rfl,hfz,hnd⟩:=hW
 have hA:DataW.TrodAll enc prog W 0 (fun _ => true) true Tryz.f5.params.toList args.toList ds p:=hA0
 rw[Tryz.params5] at hA hval
 obtain ⟨v0,vs0,d0,ds0,p0,q0,hargs,rfl,rfl,h0,r0⟩:=trodAll_cons hA
 obtain ⟨v1,vs1,d1,ds1,p1,q1,rfl,rfl,rfl,h1,r1⟩:=trodAll_cons r0
 obtain ⟨v2,vs2,d2,ds2,p2,q2,rfl,rfl,rfl,h2,r2⟩:=trodAll_cons r1
 obtain ⟨rfl,rfl,rfl⟩:=trodAll_nil r2
 obtain rfl:args = #[v0,v1,v2]:=by cases args; simp_all
 obtain ⟨rfl,rfl⟩:=trodVars_none hV
 have k0:=h0
 have lt0:∀ x ∈ p0,x.block < W.heap.size:=by obtain ⟨m,hm⟩:=k0; exact DataW.trod_lt m _ _ _ hm
 obtain ⟨a0,len0,cap0,rfl⟩:=okWide_slice Tryz.underlying23 (hval 0 23 v0 rfl rfl)
 obtain ⟨z0,e0⟩:∃ ss,TRd W ⟨a0,len0,cap0⟩ ss:=by obtain ⟨m,hm⟩:=k0; exact open_texts Tryz.underlying23 hm
 have k1:=h1
 have lt1:∀ x ∈ p1,x.block < W.heap.size:=by obtain ⟨m,hm⟩:=k1; exact DataW.trod_lt m _ _ _ hm
 obtain ⟨a1,len1,cap1,rfl⟩:=okWide_slice Tryz.underlying23 (hval 1 23 v1 rfl rfl)
 obtain ⟨z1,e1⟩:∃ ss,TRd W ⟨a1,len1,cap1⟩ ss:=by obtain ⟨m,hm⟩:=k1; exact open_texts Tryz.underlying23 hm
 obtain ⟨a2,rfl,rfl,rfl,w2⟩:=open_int Tryz.underlying5 (hval 2 5 v2 rfl rfl) h2
 have b2:0 ≤ a2 ∧ a2 ≤ 255:=by have:=w2; simp [Lit.wf,IntKind.min,IntKind.max,IntKind.bits,IntKind.signed] at this; omega
 obtain ⟨n2,hn2⟩:∃ n:Nat,a2 = (n:Int):=⟨a2.toNat,by omega⟩
 subst hn2
 clear hA0 hval0
 simp only[List.append_nil] at hW'
 have hl:=lay10 hL hS
 refine (originL a0 a1 len0 cap0 len1 cap1 z0 z1 (n2:Int) W e0 e1 hl.2 hl.1).mono fun e W' ⟨he,bel0⟩ => ?_
 have bel:=bel0.out
 subst he
 exact ⟨_,rfl,_,_,_,[],_,[],hW',trodAll_mk1 (shut_bool Tryz.underlying4 _),(trodAll_cons_mk (Below.trod mo1 (by kernel_rfl) (of_decide_eq_true (by kernel_rfl)) k0 bel lt0) (trodAll_cons_mk (Below.trod mo1 (by kernel_rfl) (of_decide_eq_true (by kernel_rfl)) k1 bel lt1) (trodAll_cons_mk (shut_int Tryz.underlying5 w2) trodAll_mk0))),rfl,bel.frame _,fun h => by cases h⟩
theorem mo5:Rows.MasterOriginSaid :=
 OpenClaim.holds_of_cond 5 Tryz.f5 rfl rfl rfl rfl rfl rfl rfl ⟨rfl,rfl,rfl,rfl,rfl⟩ rfl rfl rfl rfl rfl (by kernel_rfl) Tryz.func5 (by kernel_rfl)
  (of_decide_eq_true (by kernel_rfl)) (by unfold Func.isWrapper; first | (rw[if_pos (by decide +kernel)]; kernel_rfl) | (rw[if_neg (by decide +kernel)]; exact ⟨rfl,rfl⟩))
  (fun os started H enc _ F => by rw[OpenClaim.pre_eq_preRow]; exact mo3 os started H enc F)
theorem mo4 (f:FuncId) (fn:Func) (hf:Tryz.pinned.checked.prog.funcNamed "nomenclator/nomenclatorlaw14.MasterOrigin" = some f) (hfn:Tryz.pinned.checked.prog.funcs[f]? = some fn) :
  true = Tryz.pinned.checked.prog.looks [] ∧ ∀ (j:Nat) t,fn.params[j]? = some t → Tryz.pinned.checked.prog.wantsStandIn t = false:=by
 obtain rfl:f = 5:=Option.some.inj ((show prog.funcNamed "nomenclator/nomenclatorlaw14.MasterOrigin" = some 5 by kernel_rfl).symm.trans hf) |>.symm
 obtain rfl:fn = Tryz.f5:=(Option.some.inj (Tryz.func5.symm.trans hfn)).symm
 refine ⟨by kernel_rfl,fun j t ht => ?_⟩
 rw[Tryz.params5] at ht
 have hm:t ∈ [23,23,5]:=by simpa using Array.mem_of_getElem? ht
 have hall:([23,23,5].all fun u => !prog.wantsStandIn u) = true:=by kernel_rfl
 exact (show prog.wantsStandIn t = false by simpa using List.all_eq_true.1 hall t hm)
theorem masterOrigin_card:Rows.MasterOriginCardSaid :=
 Claim7.holds_tied_plain_at .later [] _ _ _ _ mo5 (fun _ h => by cases h) (by kernel_rfl) (fun _ h => by cases h) masterOrigin_row_tie rfl ⟨rfl,rfl⟩ (by kernel_rfl) rfl mo4 (by kernel_rfl)
end Go.Proofs.YtjkljpdolhglcaaGreatDoor
