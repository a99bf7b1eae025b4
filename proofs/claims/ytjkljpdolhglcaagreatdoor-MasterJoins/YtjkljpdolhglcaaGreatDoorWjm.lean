/- Texts laid together, in parts: Shu Lay15 Jq Jr Jc Jp Js Ju Jt. -/
import Derived.Test.YtjkljpdolhglcaaGreatDoorWjl
import Derived.Shelf.Strings.OnBuilder
import Derived.Shelf.Strings.CaseAny
import Derived.Test.YtjkljpdolhglcaaGreatDoorProg
import Derived.Lib.LaidCase
import Derived.Lib.LaidU8
import Derived.Deep.AppendLies
import Derived.Deep.Upon
import Derived.Deep.AppendSrc
import Derived.Laws.Concat
set_option maxRecDepth 100000
set_option maxHeartbeats 8000000
set_option linter.unusedVariables false
set_option linter.unusedSimpArgs false
namespace Go.Proofs
open Go.Shelf
def Tryz.lays158_ren:Go.Shelf.Ren:=⟨fun|158=>25|165=>43|166=>20|167=>41|169=>22|230=>44|203=>45|240=>39|241=>66|197=>67|118=>68|168=>69|270=>70|262=>71|276=>65|277=>92|260=>93|242=>94|313=>95|278=>113|274=>114|275=>115|n=>n,fun|9=>9|4=>4|3=>3|5=>5|72=>66|0=>0|76=>69|75=>68|107=>105|70=>64|20=>20|37=>46|127=>103|21=>21|105=>119|164=>117|162=>155|203=>153|119=>174|46=>129|139=>177|138=>176|51=>43|160=>178|208=>208|206=>206|80=>72|n=>n,fun|13=>2|3=>3|4=>4|n=>n⟩
theorem Tryz.lays158:Go.Proofs.Lays.n158 Tryz.prog Tryz.lays158_ren:={
 mixed:=by kernel_rfl
 f118:=Tryz.func68.trans (congrArg some (by kernel_rfl))
 f158:=Tryz.func25.trans (congrArg some (by kernel_rfl))
 f165:=Tryz.func43.trans (congrArg some (by kernel_rfl))
 f166:=Tryz.func20.trans (congrArg some (by kernel_rfl))
 f167:=Tryz.func41.trans (congrArg some (by kernel_rfl))
 f168:=Tryz.func69.trans (congrArg some (by kernel_rfl))
 f169:=Tryz.func22.trans (congrArg some (by kernel_rfl))
 f197:=Tryz.func67.trans (congrArg some (by kernel_rfl))
 f203:=Tryz.func45.trans (congrArg some (by kernel_rfl))
 f230:=Tryz.func44.trans (congrArg some (by kernel_rfl))
 f240:=Tryz.func39.trans (congrArg some (by kernel_rfl))
 f241:=Tryz.func66.trans (congrArg some (by kernel_rfl))
 f242:=Tryz.func94.trans (congrArg some (by kernel_rfl))
 f260:=Tryz.func93.trans (congrArg some (by kernel_rfl))
 f262:=Tryz.func71.trans (congrArg some (by kernel_rfl))
 f270:=Tryz.func70.trans (congrArg some (by kernel_rfl))
 f274:=Tryz.func114.trans (congrArg some (by kernel_rfl))
 f275:=Tryz.func115.trans (congrArg some (by kernel_rfl))
 f276:=Tryz.func65.trans (congrArg some (by kernel_rfl))
 f277:=Tryz.func92.trans (congrArg some (by kernel_rfl))
 f278:=Tryz.func113.trans (congrArg some (by kernel_rfl))
 f313:=Tryz.func95.trans (congrArg some (by kernel_rfl))
 t0:=Tryz.underlying0
 a0:=Tryz.isAgg0
 z0:=Tryz.sizeOf0
 v0:=Tryz.zeroValue0
 t3:=Tryz.underlying3
 a3:=Tryz.isAgg3
 z3:=Tryz.sizeOf3
 v3:=Tryz.zeroValue3
 t4:=Tryz.underlying4
 a4:=Tryz.isAgg4
 z4:=Tryz.sizeOf4
 v4:=Tryz.zeroValue4
 t5:=Tryz.underlying5
 a5:=Tryz.isAgg5
 z5:=Tryz.sizeOf5
 v5:=Tryz.zeroValue5
 t9:=Tryz.underlying9
 a9:=Tryz.isAgg9
 z9:=Tryz.sizeOf9
 v9:=Tryz.zeroValue9
 t20:=Tryz.underlying20
 a20:=Tryz.isAgg20
 z20:=Tryz.sizeOf20
 v20:=Tryz.zeroValue20
 t21:=Tryz.underlying21
 a21:=Tryz.isAgg21
 z21:=Tryz.sizeOf21
 v21:=Tryz.zeroValue21
 t37:=Tryz.underlying46
 a37:=Tryz.isAgg46
 z37:=Tryz.sizeOf46
 v37:=Tryz.zeroValue46
 t46:=Tryz.underlying129
 a46:=Tryz.isAgg129
 z46:=Tryz.sizeOf129
 v46:=Tryz.zeroValue129
 t51:=Tryz.underlying43
 a51:=Tryz.isAgg43
 z51:=Tryz.sizeOf43
 v51:=Tryz.zeroValue43
 t70:=Tryz.underlying64
 a70:=Tryz.isAgg64
 z70:=Tryz.sizeOf64
 v70:=Tryz.zeroValue64
 t72:=Tryz.underlying66
 a72:=Tryz.isAgg66
 z72:=Tryz.sizeOf66
 v72:=Tryz.zeroValue66
 t75:=Tryz.underlying68
 a75:=Tryz.isAgg68
 z75:=Tryz.sizeOf68
 v75:=Tryz.zeroValue68
 t76:=Tryz.underlying69
 a76:=Tryz.isAgg69
 z76:=Tryz.sizeOf69
 v76:=Tryz.zeroValue69
 t105:=Tryz.underlying119
 a105:=Tryz.isAgg119
 z105:=Tryz.sizeOf119
 v105:=Tryz.zeroValue119
 t107:=Tryz.underlying105
 a107:=Tryz.isAgg105
 z107:=Tryz.sizeOf105
 v107:=Tryz.zeroValue105
 t119:=Tryz.underlying174
 a119:=Tryz.isAgg174
 z119:=Tryz.sizeOf174
 t127:=Tryz.underlying103
 a127:=Tryz.isAgg103
 z127:=Tryz.sizeOf103
 v127:=Tryz.zeroValue103
 t138:=Tryz.underlying176
 a138:=Tryz.isAgg176
 z138:=Tryz.sizeOf176
 v138:=Tryz.zeroValue176
 t139:=Tryz.underlying177
 a139:=Tryz.isAgg177
 z139:=Tryz.sizeOf177
 v139:=Tryz.zeroValue177
 t160:=Tryz.underlying178
 a160:=Tryz.isAgg178
 z160:=Tryz.sizeOf178
 v160:=Tryz.zeroValue178
 t162:=Tryz.underlying155
 a162:=Tryz.isAgg155
 z162:=Tryz.sizeOf155
 v162:=Tryz.zeroValue155
 t164:=Tryz.underlying117
 a164:=Tryz.isAgg117
 z164:=Tryz.sizeOf117
 v164:=Tryz.zeroValue117
 t203:=Tryz.underlying153
 a203:=Tryz.isAgg153
 z203:=Tryz.sizeOf153
 v203:=Tryz.zeroValue153
 t206:=Tryz.underlying206
 a206:=Tryz.isAgg206
 z206:=Tryz.sizeOf206
 v206:=Tryz.zeroValue206
 t208:=Tryz.underlying208
 a208:=Tryz.isAgg208
 z208:=Tryz.sizeOf208
 v208:=Tryz.zeroValue208
 g3:=by kernel_rfl
 g4:=by kernel_rfl
 g13:=by kernel_rfl }
theorem Tryz.Builder_Extra_158:Builder.Extra Tryz.prog Tryz.lays158_ren:={
 sizeBuilder:=by kernel_rfl
 liesBuilder:=by kernel_rfl
 t5:=Tryz.underlying5
 a5:=Tryz.isAgg5
 z5:=Tryz.sizeOf5
 v5:=Tryz.zeroValue5
 infoByte:=by kernel_rfl
 cellsByte:=by kernel_rfl
 sizeByte:=by kernel_rfl
 neB5:=by decide }
open Go.RowKit Go.Lib in
theorem Tryz.strings_ToUpper_any(s:ByteArray)(w:World)(hs:s.size<35184372088832)(hV:CaseVar 2 caseA w)(hT:Lib.Utf8Tabs 3 4 w) :
  Calls Tryz.prog 25 #[.string s] w fun e w'=>e=.returned (.string ⟨(Lib.toUpperD s.data.toList).toArray⟩)/\Below w.heap.size w w':=Any.strings_ToUpper_any Tryz.lays158 Tryz.Builder_Extra_158 s w hs hV hT
end Go.Proofs
namespace Go.Proofs.YtjkljpdolhglcaaGreatDoor
open Go.ChangeShapes Go.WideShapes Go.ChangeAt Go.RowKit Go.Shelf
def LayC(w:World):Prop:=Lib.CaseVar 2 Lib.caseA w/\Lib.Utf8Tabs 3 4 w
theorem LayC.below{w w':World}(h:LayC w)(hb:Below w.heap.size w w'):LayC w':=⟨Lib.CaseVar_below h.1 hb,Utf8Tabs_below h.2 hb⟩
theorem caseD:(Rows.laid_unicode_CaseRanges:DataW Unit)=Lib.caseData:=by kernel_rfl
theorem firstD:(Rows.laid_unicode_utf8_first:DataW Unit)=Lib.firstData:=by kernel_rfl
theorem acceptD:(Rows.laid_unicode_utf8_acceptRanges:DataW Unit)=Lib.acceptData:=by kernel_rfl
theorem lay11c {W : World} (h : laidMetH Tryz.prog laid11 W) : LayC W := by
  rw [MakeChecks.laidMetH_plain _ _ _ plain11] at h
  have hc : Lib.VarReads Tryz.prog W "unicode.CaseRanges" Lib.caseData := by
    rw [<- caseD]
    exact Lib.laidMet.reads h (.tail _ (.tail _ (.tail _ (.tail _ (.tail _ (.tail _ (.tail _ (.tail _ (.tail _ (.head _))))))))))
  have hf : Lib.VarReads Tryz.prog W "unicode/utf8.first" Lib.firstData := by
    rw [<- firstD]
    exact Lib.laidMet.reads h (.tail _ (.tail _ (.tail _ (.tail _ (.tail _ (.tail _ (.tail _ (.tail _ (.tail _ (.tail _ (.head _)))))))))))
  have ha : Lib.VarReads Tryz.prog W "unicode/utf8.acceptRanges" Lib.acceptData := by
    rw [<- acceptD]
    exact Lib.laidMet.reads h (.tail _ (.tail _ (.tail _ (.head _))))
  exact ⟨caseVar_of_reads (ρ := Tryz.lays158_ren) { Tryz.lays158 with } Tryz.lays158.t206 ⟨by kernel_rfl, by kernel_rfl, by kernel_rfl, by kernel_rfl, by kernel_rfl, by kernel_rfl⟩ hc,
    utf8Tabs_of_reads (ρ := Tryz.lays158_ren) { Tryz.lays158 with } ⟨by kernel_rfl, by kernel_rfl, by kernel_rfl, by kernel_rfl, by kernel_rfl, by kernel_rfl, by kernel_rfl⟩ hf ha⟩
end Go.Proofs.YtjkljpdolhglcaaGreatDoor
namespace Go.Proofs.YtjkljpdolhglcaaGreatDoor
open Go.ChangeShapes Go.WideShapes Go.ChangeAt Go.RowKit
theorem upTo24(s:ByteArray)(w:World)(hs:s.size<=281474976710656)(hE:LayE w)(hL:LayT w):Calls Tryz.prog 24 #[.string s] w fun e w'=>e=.returned (.bool (ttlF s).isSome)/\Hid (Below w.heap.size w w'):=by
 cases h:ttlF s with
 |some n=>
  have K:=Lib.hid (ttl_ok h hs w hE hL)
  clear h hE hL hs
  go_enter Tryz.func24,Tryz.ntmps24
  go_wp2_with fail
  refine K.out.mono ?_
  rintro e w1 ⟨rfl,H1⟩
  go_wp2_with fail
  go_ret
  exact ⟨rfl,H1.out⟩
 |none=>
  have K:=Lib.hid (ttl_no h hs w hE hL)
  clear h hE hL hs
  go_enter Tryz.func24,Tryz.ntmps24
  go_wp2_with fail
  refine K.out.mono ?_
  rintro e w1 ⟨rfl,H1⟩
  go_wp2_with fail
  go_ret
  exact ⟨rfl,H1.out⟩
def fullT(t:ByteArray):Bool:=match entsF t.data.toList with
 | .er _ _=>false
 | .ok es=>es.all fullU
theorem all_no{es:List En}{k:Nat}(hk:k<es.length)(h:fullU es[k]=false):es.all fullU=false:=by
 rw[List.all_eq_false]
 exact ⟨es[k],List.getElem_mem _,by rw[h];simp⟩
theorem all_yes{es:List En}(h:∀i (hi:i<es.length),fullU es[i]=true):es.all fullU=true:=by
 rw[List.all_eq_true]
 intro e he
 obtain ⟨i,hi,rfl⟩:=List.getElem_of_mem he
 exact h i hi
theorem u_blank{e:En}(h:e.blank=true):fullU e=false:=by unfold fullU;rw[h];rfl
theorem u_short{e:En}(h:e.ws.length<4):fullU e=false:=by
 unfold fullU
 match hw:e.ws with
 |[]=>simp
 |[_]=>simp
 |[_,_]=>simp
 |[_,_,_]=>simp
 |a::b::c::d::l=>rw[hw] at h;simp at h;omega
theorem u_of{e:En}{w0 w1 w2 w3:WdZ}{ws:List WdZ}(hb:e.blank=false)(he:e.ws=w0::w1::w2::w3::ws):fullU e=(!w0.2 && !(Lib.hasPrefix w0.1.data.toList [36]) && (ttlF w1.1).isSome && decide (Lib.toUpperD w2.1.data.toList=[73,78])):=by
 unfold fullU
 rw[hb,he]
 rfl
theorem full10(t:ByteArray)(w:World)(hE:LayE w)(hL:LayT w)(hC:LayC w):Calls Tryz.prog 10 #[.string t] w fun e w'=>e=.returned (.bool (fullT t))/\Hid (Below w.heap.size w w'):=by
 have KE:=Lib.hid (entries12 t w)
 have H:Hid (∀W,Below w.heap.size w W->LayT W/\LayE W/\LayC W):=fun W hW=>⟨hL.below hW,hE.below hW,hC.below hW⟩
 clear hE hL hC
 cases hr:entsF t.data.toList with
 |er e1 l1=>
  have hne:=ents_er0 hr
  have HF:Hid (fullT t=false):=(by show _=_;unfold fullT;rw[hr])
  rw[hr] at KE
  have hq:∀W,(binOp .neq 28 (.agg #[.int .i64 (e1:Int),.int .i64 (l1:Int)]) (.agg #[.int .i64 0,.int .i64 0])).run Tryz.prog W=.ok (.bool true) W:=fun W=>by
   rw[neqF28];simp;exact .inl hne
  rw[HF.out]
  clear HF hr H hne
  go_enter Tryz.func10,Tryz.ntmps10
  go_wp2_with fail
  refine KE.out.mono ?_
  rintro e w1 ⟨v,ea,eb,rfl,HQ⟩
  obtain ⟨rfl,ha,hb,hbel⟩:=HQ.out
  subst ha hb
  have HB:Hid (Below w.heap.size w (w1.alloc (.cells #[.int .i64 (ea:Int),.int .i64 (eb:Int)] 28))):=hbel.trans ((new_below _ _).mono hbel.size)
  clear HQ hbel KE
  go_wp2_with fail
  go_ret
  exact ⟨rfl,HB.out⟩
 |ok es=>
  have HF:Hid (fullT t=es.all fullU):=(by show _=_;unfold fullT;rw[hr])
  have HWB:Hid (∀e∈es,WB e.ws):=ents_wb hr
  rw[hr] at KE
  have hq:∀W,(binOp .neq 28 (.agg #[.int .i64 0,.int .i64 0]) (.agg #[.int .i64 0,.int .i64 0])).run Tryz.prog W=.ok (.bool false) W:=fun W=>by rw[neqF28];rfl
  rw[HF.out]
  clear HF hr
  obtain ⟨R,hR⟩:∃R,R=es.all fullU:=⟨_,rfl⟩
  rw[<- hR]
  have HR:=Lib.hid hR
  clear hR
  go_enter Tryz.func10,Tryz.ntmps10
  go_wp2_with fail
  refine KE.out.mono ?_
  rintro e w1 ⟨v,ea,eb,rfl,HQ⟩
  obtain ⟨ha,hb,how,hbel⟩:=HQ.out
  subst ha hb
  obtain ⟨xa,xc,rfl,hrd,hc1,hc2⟩:=how.rd
  have HB:Hid (Below w.heap.size w (w1.alloc (.cells #[.int .i64 0,.int .i64 0] 28))/\RdE (w1.alloc (.cells #[.int .i64 0,.int .i64 0] 28)) xa es):=⟨hbel.trans ((new_below _ _).mono hbel.size),hrd.below (new_below _ _)⟩
  obtain ⟨n,hn⟩:∃n,es.length=n:=⟨_,rfl⟩
  rw[hn] at hc1
  have hn63:n<=9223372036854775807:=Nat.le_trans hc1 hc2
  rw[hn]
  have HN:=Lib.hid hn
  clear HQ hbel KE how hrd hc1 hc2 hn
  go_upto_region 5 with (fail)
  generalize (w1.alloc (.cells #[.int .i64 0,.int .i64 0] 28))=w2 at*
  go_loopw [5] (fun y wr=>∃k:Nat,k<=n/\y=.int .i64 (k:Int)/\Hid (Below w2.heap.size w2 wr)/\Hid (∀i (hi:i<es.length),i<k->fullU es[i]=true)) (fun y _=>n - (intOf y).toNat)
  case atStart=>exact ⟨0,Nat.zero_le _,rfl,Below.refl _ _,fun i hi h=>absurd h (by omega)⟩
  case round=>
   obtain ⟨k,hk,rfl,HV,HI⟩:=hrel
   by_cases hlt:k<n
   ·have hlt':(k:Int)<(n:Int):=by omega
    have hks:k<es.length:=by rw[HN.out];exact hlt
    obtain ⟨b,o,rfl,hb0,x,d0',d1',d2',hw⟩:=(HB.out.2.below HV.out).at k hks
    have HBW:Hid (Below w.heap.size w wr):=HB.out.1.trans (HV.out.mono HB.out.1.size)
    have HNO:Hid (fullU es[k]=false->R=false):=fun h=>by rw[HR.out];exact all_no hks h
    have HYES:Hid (fullU es[k]=true->∀i (hi:i<es.length),i<k+1->fullU es[i]=true):=fun h i hi h2=>by
     by_cases e:i=k
     ·subst e;exact h
     ·exact HI.out i hi (by omega)
    have hwb:=HWB.out _ (List.getElem_mem hks)
    generalize es[k]=en at*
    obtain ⟨ln,bl,ws⟩:=en
    obtain ⟨xa,xn,xc⟩:=x
    simp only at d0' d1' d2' hw hwb
    have d0:wr.cell? ⟨b,o+k*3+2,none⟩=some (.slice xa xn xc):=d2'
    have d1:wr.cell? ⟨b,o+k*3+1,none⟩=some (.bool bl):=d1'
    clear d0' d1' d2' HR HI HN
    cases bl with
    |true=>
     obtain rfl:R=false:=HNO.out (u_blank rfl)
     clear HNO HYES hw hwb HB HV H HWB
     go_wp2_with fail
     go_ret
     exact ⟨rfl,HBW.out⟩
    |false=>
     by_cases h4:ws.length<4
     ·obtain rfl:R=false:=HNO.out (u_short h4)
      have hx4:(xn:Int)<4:=by have h9:xn=ws.length:=hw.1;omega
      clear HNO HYES hw hwb HB HV H HWB h4
      go_wp2_with fail
      go_ret
      exact ⟨rfl,HBW.out⟩
     obtain ⟨q0,ws,rfl⟩:=List.exists_cons_of_ne_nil (l:=ws) (by intro e;subst e;simp at h4)
     obtain ⟨q1,ws,rfl⟩:=List.exists_cons_of_ne_nil (l:=ws) (by intro e;subst e;simp at h4)
     obtain ⟨q2,ws,rfl⟩:=List.exists_cons_of_ne_nil (l:=ws) (by intro e;subst e;simp at h4)
     obtain ⟨q3,ws,rfl⟩:=List.exists_cons_of_ne_nil (l:=ws) (by intro e;subst e;simp at h4)
     have hu:=u_of (e:=⟨ln,false,q0::q1::q2::q3::ws⟩) rfl rfl
     have hx4:¬ (xn:Int)<4:=by have h9:xn=ws.length+1+1+1+1:=hw.1;omega
     have hx0:(0:Int)<(xn:Int):=by omega
     have hx1:(1:Int)<(xn:Int):=by omega
     have hx2:(2:Int)<(xn:Int):=by omega
     obtain ⟨b2,o2,rfl,g0,g1,g2⟩:=hw.2.2.2.at 0 (by simp)
     have g3:=(hw.2.2.2.at 1 (by simp))
     obtain ⟨b3,o3,e3,-,g3,-⟩:=g3
     injection e3 with e3
     injection e3 with e3 e4 _
     subst e3 e4
     obtain ⟨b4,o4,e3,-,g5,-⟩:=(hw.2.2.2.at 2 (by simp))
     injection e3 with e3
     injection e3 with e3 e4 _
     subst e3 e4
     simp only[List.getElem_cons_zero,List.getElem_cons_succ,Nat.zero_mul,Nat.one_mul,Nat.add_zero] at g1 g2 g3 g5
     have z1:=hwb.2 q1 (by simp)
     have z2:=hwb.2 q2 (by simp)
     obtain ⟨t0,k0⟩:=q0
     obtain ⟨t1,k1⟩:=q1
     obtain ⟨t2,k2⟩:=q2
     simp only at g1 g2 g3 g5 hu z1 z2
     clear hw hwb h4
     cases k0 with
     |true=>
      obtain rfl:R=false:=HNO.out (by rw[hu];rfl)
      clear HNO HYES HB HV H HWB hu
      go_wp2_with fail
      go_ret
      exact ⟨rfl,HBW.out⟩
     |false=>
      have KP:=Lib.hid (Tryz.strings_HasPrefix t0 ⟨#[36]⟩ wr)
      have hpe:(⟨#[36]⟩:ByteArray).data.toList=[36]:=rfl
      rw[hpe] at KP
      cases hp:Lib.hasPrefix t0.data.toList [36] with
      |true=>
       obtain rfl:R=false:=HNO.out (by rw[hu,hp];rfl)
       rw[hp] at KP
       clear HNO HYES HB HV H HWB hu hp hpe
       go_wp2_with fail
       refine KP.out.mono ?_
       rintro e w3 ⟨rfl,rfl⟩
       go_wp2_with fail
       go_ret
       exact ⟨rfl,HBW.out⟩
      |false=>
       rw[hp] at KP
       have KU:=Lib.hid (upTo24 t1 wr (by omega) (H.out _ HBW.out).2.1 (H.out _ HBW.out).1)
       have g6:Hid (∀W,Below wr.heap.size wr W->W.cell? ⟨b2,o2+2*2,none⟩=some (.string t2)):=fun W hW=>(hW.cell (p:=⟨b2,o2+2*2,none⟩) g0).trans g5
       cases htl:(ttlF t1).isSome with
       |false=>
        obtain rfl:R=false:=HNO.out (by rw[hu,hp,htl];rfl)
        rw[htl] at KU
        clear HNO HYES HB HV H HWB hu hp hpe htl
        go_wp2_with fail
        refine KP.out.mono ?_
        rintro e w3 ⟨rfl,rfl⟩
        go_wp2_with fail
        refine KU.out.mono ?_
        rintro e w4 ⟨rfl,H4⟩
        have HBF:Hid (Below w.heap.size w w4):=HBW.out.trans (H4.out.mono HBW.out.size)
        clear KP KU H4
        go_wp2_with fail
        go_ret
        exact ⟨rfl,HBF.out⟩
       |true=>
        rw[htl] at KU
        have KT:Hid (∀W,Below w.heap.size w W->Calls Tryz.prog 25 #[.string t2] W fun e w'=>e=.returned (.string ⟨(Lib.toUpperD t2.data.toList).toArray⟩)/\Below W.heap.size W w'):=fun W hW=>Tryz.strings_ToUpper_any t2 W (by omega) (H.out _ hW).2.2.1 (H.out _ hW).2.2.2
        by_cases hi:Lib.toUpperD t2.data.toList=[73,78]
        ·have hy:=HYES.out (by rw[hu,hp,htl,hi];rfl)
         have HYY:=Lib.hid hy
         rw[hi] at KT
         have KT':Hid (∀W,Below w.heap.size w W->Calls Tryz.prog 25 #[.string t2] W fun e w'=>e=.returned (.string ⟨#[73,78]⟩)/\Below W.heap.size W w'):=KT.out
         clear HNO HYES H HWB hu hp hpe htl hi KT hy
         go_wp2_with fail
         refine KP.out.mono ?_
         rintro e w3 ⟨rfl,rfl⟩
         go_wp2_with fail
         refine KU.out.mono ?_
         rintro e w4 ⟨rfl,H4⟩
         have HB4:Hid (Below w.heap.size w w4/\Below w2.heap.size w2 w4):=⟨HBW.out.trans (H4.out.mono HBW.out.size),HV.out.trans (H4.out.mono HV.out.size)⟩
         have g7:w4.cell? ⟨b2,o2+2*2,none⟩=some (.string t2):=g6.out _ H4.out
         have g8:b2<w4.heap.size:=Nat.lt_of_lt_of_le g0 H4.out.size
         clear KP KU H4 g1 g2 g3 g5 g6
         go_wp2_with fail
         refine (KT'.out w4 HB4.out.1).mono ?_
         rintro e w5 ⟨rfl,h5⟩
         have HB5:Hid (Below w2.heap.size w2 w5):=HB4.out.2.trans (h5.mono HB4.out.2.size)
         clear KT' h5
         go_wp2_with fail
         exact ⟨⟨k+1,by omega,by go_num,HB5.out,HYY.out⟩,by simp[intOf];omega⟩
        ·obtain rfl:R=false:=HNO.out (by rw[hu,hp,htl,decide_eq_false hi];rfl)
         obtain ⟨u,hue⟩:∃u:ByteArray,u=⟨(Lib.toUpperD t2.data.toList).toArray⟩:=⟨_,rfl⟩
         have hun:(u.toList == [73,78])=false:=by
          rw[beq_eq_false_iff_ne,ba_toList,hue]
          simpa using hi
         rw[<- hue] at KT
         clear HNO HYES HB HV H HWB hu hp hpe htl hi hue
         go_wp2_with fail
         refine KP.out.mono ?_
         rintro e w3 ⟨rfl,rfl⟩
         go_wp2_with fail
         refine KU.out.mono ?_
         rintro e w4 ⟨rfl,H4⟩
         have HB4:Hid (Below w.heap.size w w4):=HBW.out.trans (H4.out.mono HBW.out.size)
         have g7:w4.cell? ⟨b2,o2+2*2,none⟩=some (.string t2):=g6.out _ H4.out
         have g8:b2<w4.heap.size:=Nat.lt_of_lt_of_le g0 H4.out.size
         clear KP KU H4 g1 g2 g3 g5 g6
         go_wp2_with fail
         refine (KT.out w4 HB4.out).mono ?_
         rintro e w5 ⟨rfl,h5⟩
         have HB5:Hid (Below w.heap.size w w5):=HB4.out.trans (h5.mono HB4.out.size)
         clear KT h5
         go_wp2_with fail
         go_ret
         exact ⟨rfl,HB5.out⟩
   ·obtain rfl:k=n:=by omega
    have hge:¬ (k:Int)<(k:Int):=by omega
    obtain rfl:R=true:=(by
     rw[HR.out]
     exact all_yes fun i hi=>HI.out i hi (by rw[<- HN.out];exact hi))
    have HBW:Hid (Below w.heap.size w wr):=HB.out.1.trans (HV.out.mono HB.out.1.size)
    clear HR HI HN HB HV H HWB
    go_wp2_with fail
    go_ret
    exact ⟨rfl,HBW.out⟩
end Go.Proofs.YtjkljpdolhglcaaGreatDoor
namespace Go.Proofs.YtjkljpdolhglcaaGreatDoor
open Go.ChangeShapes Go.WideShapes Go.ChangeAt Go.RowKit Go.Maps
theorem cellsR_len:∀ps:List (RA × Rec),(cellsR ps).length=ps.length*8
 |[]=>rfl
 |p::l=>by
  have:=cellsR_len l
  simp only[cellsR,List.flatMap_cons,List.length_append] at this ⊢
  rw[this];simp[recCells];omega
theorem lrd_parts{w:World}{s:Sl}{rs:List Rec}(h:LRd w s rs):∃ps:List (RA × Rec),ps.map (·.2)=rs/\ps.length=s.n/\(∀W,Below w.heap.size w W->∀ad,s.a=some ad->∀j u,(cellsR ps)[j]?=some u->W.cell? (ad.add j)=some u)/\(∀p∈ps,RRd w p.1 p.2)/\(s.a=none->s.n=0):=by
 have hnil:s.a=none->s.n=0:=fun e=>by
  rcases h.rd with h1|⟨b,o,ha,_⟩
  ·have:=h.len;rw[h1] at this;exact this.symm
  ·rw[e] at ha;cases ha
 rcases h.rd with e|⟨b,o,ha,hb,hc⟩
 ·subst e
  exact ⟨[],rfl,h.len,fun W _ ad _ j u hu=>(by simp[cellsR] at hu),fun p hp=>(by cases hp),hnil⟩
 ·have hex:∀i,i<rs.length->∃p:RA × Rec,some p.2=rs[i]?/\(∀j,j<8->w.cell? ⟨b,o+i*8+j,none⟩=(recCells p.1 p.2)[j]?)/\RRd w p.1 p.2:=by
   intro i hi
   obtain ⟨x,e3,e4⟩:=hc i hi
   exact ⟨(x,rs[i]),by simp[hi],e3,e4⟩
  obtain ⟨ps,hl,hps⟩:=list_of rs.length _ hex
  have hm:ps.map (·.2)=rs:=by
   refine List.ext_getElem (by simp[hl]) fun i h1 h2=>?_
   rw[List.getElem_map]
   have:=(hps i (by omega)).1
   rw[List.getElem?_eq_getElem h2] at this
   exact Option.some.inj this
  refine ⟨ps,hm,hl.trans h.len,fun W hW ad had j u hu=>?_,fun p hp=>?_,hnil⟩
  ·rw[ha] at had
   injection had with had
   subst had
   have ad:(⟨b,o,none⟩:Addr).add j=⟨b,o+j,none⟩:=by unfold Addr.add;split <;> simp_all
   rw[ad]
   have hj:j<ps.length*8:=by rw[<- cellsR_len];exact (List.getElem?_eq_some_iff.1 hu).1
   have hi:j / 8<ps.length:=by omega
   have e1:=cellsR_at ps (j / 8) hi (j % 8) (by omega)
   rw[show j / 8*8+j % 8=j by omega] at e1
   rw[e1] at hu
   have:=(hps (j / 8) (by omega)).2.1 (j % 8) (by omega)
   rw[show o+j / 8*8+j % 8=o+j by omega,hu] at this
   exact (hW.cell (p:=⟨b,o+j,none⟩) hb).trans this
  ·obtain ⟨i,hi,rfl⟩:=List.getElem_of_mem hp
   exact (hps i (by omega)).2.2
theorem row_lrd{B n c:Nat}{a:Option Addr}{w:World}{ps:List (RA × Rec)}(h:w.ownsRow B 50 8 (.slice a n c) n (cellsR ps))(hn:ps.length=n)(hr:∀p∈ps,RRd w p.1 p.2):LRd w ⟨a,n,c⟩ (ps.map (·.2)):=by
 rcases h.2 with ⟨e,h0⟩|⟨g,cap,cur,e,hb,hg,k1,k2,k3,k4⟩
 ·simp only[Value.slice.injEq] at e
  obtain ⟨rfl,rfl,rfl⟩:=e
  have:ps=[]:=List.length_eq_zero_iff.1 hn
  subst this
  exact ⟨.inl rfl,rfl,by show (0:Nat)<=9223372036854775807;decide⟩
 ·simp only[Value.slice.injEq] at e
  obtain ⟨rfl,-,rfl⟩:=e
  refine ⟨.inr ⟨g,0,rfl,(Array.getElem?_eq_some_iff.1 hg).1,fun i hi=>?_⟩,by simp[hn],Nat.le_trans k1 (by simpa only[maxLen] using k2)⟩
  have hi':i<ps.length:=by simpa using hi
  have ad:∀j,(⟨g,0,none⟩:Addr).add j=⟨g,0+j,none⟩:=fun j=>by unfold Addr.add;split <;> simp_all
  have hgi:(ps.map (·.2))[i]=ps[i].2:=by simp
  rw[hgi]
  refine ⟨ps[i].1,fun j hj=>?_,hr _ (List.getElem_mem _)⟩
  have e2:=cellsR_at ps i hi' j hj
  have hlt:j<(recCells ps[i].1 ps[i].2).length:=hj
  rw[List.getElem?_eq_getElem hlt] at e2 ⊢
  have:=h.cells (g:=g) rfl _ _ e2
  rw[ad] at this
  rw[Nat.add_assoc];exact this
theorem run_appR(w:World)(ty:TypeId)(B:Nat)(av:Option Addr)(n cv:Nat)(xs:List Value)(hown:w.ownsRow B 50 8 (.slice av n cv) n xs)
  (ao:Option Addr) (m c:Nat) (news:List Value) (hl:news.length=m*8) (hsrc:∀ad,ao=some ad->∀j u,news[j]?=some u->w.cell? (ad.add j)=some u) (hnil:ao=none->m=0) (h1:∀u∈news,u.oneCell'=true) (hb:n+m<=10000000) (hB:B<=w.heap.size) :
  ∃a' c' w',(Builtin.append_ #[25,25] ty #[.slice av n cv,.slice ao m c]).run Tryz.prog w=.ok (.slice a' (n+m) c') w'/\w'.ownsRow B 50 8 (.slice a' (n+m) c') (n+m) (xs++news)/\w.grownBy w' (Value.slice av n cv).ownBlock:=by
 obtain ⟨i,hi,hz0,hz1,hz2⟩:=inf69'
 by_cases hm:m=0
 ·subst hm
  have hn0:news=[]:=List.eq_nil_of_length_eq_zero (by omega)
  subst hn0
  have hle:n<=cv:=by
   rcases hown.2 with ⟨e,h0⟩|⟨g,cap,cur,e,_,_,h3,_⟩
   ·injection e;omega
   ·injection e;omega
  have hS:Src Tryz.prog i.size 25 (.slice ao 0 c) 0 [] w:=by
   cases ao with
   |none=>exact Src.ofNil w Tryz.underlying25 c
   |some ad=>exact Src.ofSlice w Tryz.underlying25 ad 0 c [] (by simp) (by simp) (by simp)
  have hrun:=run_append_nothing (P:=Tryz.prog) w 25 25 ty 50 i Tryz.underlying25 hi av n cv hle (.slice ao 0 c) hS
  exact ⟨av,cv,w,hrun,by simpa using hown,World.grownBy.refl _ _⟩
 ·cases ao with
  |none=>exact absurd (hnil rfl) hm
  |some ad=>
   obtain ⟨g,cap,w',hr,h2,h3,_,_⟩:=run_append_lies (P:=Tryz.prog) w 25 ty B 50 i _ 8 128 Tryz.underlying25 hi hz0 hz1 hz2 rfl (by omega) _ n xs hown ad m c news hl (hsrc ad rfl) h1 (by omega) (by simp only[maxLen];omega) (by omega) hB _ rfl
   exact ⟨_,_,_,hr,h2,h3⟩
theorem wpList_appRG{w:World}{ops:Array Oper}{rest:List Oper}{o:Oper}{a:Act}{Q:Exit->Act->World->Prop}(hw:Region.wanted o (yielded ops a.tmps)=true)(s x:Operand)
  (ho:o.op=.call { callee:=.builtin .append,args:=#[s,x],argTypes:=#[25,25] }) (B:Nat) (av:Option Addr) (n cv:Nat) (xs:List Value) (hs:a.eval s=.slice av n cv) (hown:w.ownsRow B 50 8 (.slice av n cv) n xs)
  (ao:Option Addr) (m c:Nat) (news:List Value) (hx:a.eval x=.slice ao m c) (hl:news.length=m*8) (hsrc:∀ad,ao=some ad->∀j u,news[j]?=some u->w.cell? (ad.add j)=some u) (hnil:ao=none->m=0) (h1:∀u∈news,u.oneCell'=true) (hb:n+m<=10000000) (hB:B<=w.heap.size) (N:Nat) (hN:n+m=N)
  (h:∀a' c' w',Hid (w'.ownsRow B 50 8 (.slice a' N c') N (xs++news))->Hid (w.grownBy w' (Value.slice av n cv).ownBlock)->wpList Tryz.prog ops Q rest (a.put o.dst (.slice a' N c')) w'):wpList Tryz.prog ops Q (o::rest) a w:=by
 refine wpList_step fun K hK=>?_
 rw[if_pos hw]
 obtain ⟨a',c',w',hrun,h2,h3⟩:=run_appR w o.type B av n cv xs hown ao m c news hl hsrc hnil h1 hb hB
 subst hN
 unfold Oper.wp execOp
 simp only[ho,resolve,invoke,builtin,Sem.run_bind,Sem.run_pure,Result.andThen_ok,List.map_toArray,List.map_cons,List.map_nil,hs,hx,hrun]
 exact hK _ _ (h a' c' w' h2 h3)
end Go.Proofs.YtjkljpdolhglcaaGreatDoor
namespace Go.Proofs.YtjkljpdolhglcaaGreatDoor
open Go.ChangeShapes Go.WideShapes Go.ChangeAt Go.RowKit
structure Nw(w:World)(a:Option Addr)(n:Nat)(ss:List ByteArray):Prop where
 rd:RdT w a ss
 len:ss.length=n
 n3:n<=1000
 z63:∀s∈ss,s.size<=9223372036854775807
theorem Nw.below{w w':World}{a:Option Addr}{n:Nat}{ss:List ByteArray}(h:Nw w a n ss)(hb:Below w.heap.size w w'):Nw w' a n ss:=⟨h.rd.below hb,h.len,h.n3,h.z63⟩
theorem nsz_lab:∀ss:List ByteArray,labsOk ss->nsz ss<=1+64*ss.length
 |[],_=>by simp[nsz]
 |s::r,h=>by
  have h1:=(chk_ok (h s (by simp))).2
  have h2:=nsz_lab r (fun x hx=>h x (by simp[hx]))
  simp only[nsz,List.length_cons]
  omega
theorem Nw.nm{w:World}{a:Option Addr}{n:Nat}{ss:List ByteArray}(h:Nw w a n ss)(hk:nck ss=0):Nm w a n ss:=⟨h.rd,h.len,by have:=(nck_small hk).1;omega⟩
theorem wcheck{w:World}{a:Option Addr}{n:Nat}{ss:List ByteArray}(c:Nat)(h:Nw w a n ss):Calls Tryz.prog 17 #[.slice a n c] w fun e w'=>e=.returned (.int .i64 (nck ss))/\w'=w:=
 pcheck_wide a n c ss w h.rd h.len (fun ho=>by have:=nsz_lab ss ho;have:=h.len;have:=h.n3;omega) (by have:=h.n3;omega) h.z63
theorem parse_wide8(t:ByteArray)(oa:Option Addr)(on oc:Nat)(og:List ByteArray)(w:World)(ho:Nw w oa on og)(hE:LayE w)(hL:LayT w):Calls Tryz.prog 8 #[.string t,.slice oa on oc] w (AlP (mstF t og) w):=by
 by_cases hk:nck og=0
 ·exact parse_any8 t oa on oc og w (ho.nm hk) hE hL
 ·have KN1:=Lib.hid (wcheck oc (ho.below (new_below w (.cells #[.int .i64 0,.int .i64 0] 28))))
  have hk2:(nck og != 0)=true:=by simpa using hk
  have HM:Hid (mstF t og=.er (nck og) 0):=by
   show _=_
   unfold mstF
   rw[if_neg hk]
  rw[HM.out]
  generalize nck og=q at*
  have HB0:Hid (∀o:Obj,Below w.heap.size w (w.alloc o)):=fun o=>new_below w o
  clear ho hk HM hE hL
  go_enter Tryz.func8,Tryz.ntmps8
  go_wp2_with fail
  refine KN1.out.mono ?_
  rintro r w1 ⟨rfl,rfl⟩
  go_wp2_with fail
  exact bodyPost_ret (v:=.tuple #[.slice none 0 0,.agg #[.int .i64 q,.int .i64 0]]) (by simp[results,Tryz.results8,go_sem]) rfl ⟨⟨none,0,0⟩,q,0,rfl,HB0.out _,⟨rfl,rfl,rfl⟩⟩
theorem text_wide9(a:Option Addr)(n c:Nat)(ss:List ByteArray)(w:World)(h:Nw w a n ss):Calls Tryz.prog 9 #[.slice a n c] w fun e w'=>e=.returned (.tuple #[.string (ntext ss).1,.int .i64 (ntext ss).2])/\Hid (Below w.heap.size w w'):=by
 by_cases hk:nck ss=0
 ·exact ptext_any a n c ss w (h.nm hk)
 ·have KC:=Lib.hid (wcheck c h)
  have hp:ntext ss=(⟨#[]⟩,nck ss):=by unfold ntext;rw[if_neg hk]
  rw[hp]
  generalize nck ss=q at*
  have hq:(q != 0)=true:=bne_iff_ne.2 hk
  clear h hk hp
  go_enter Tryz.func9,Tryz.ntmps9
  go_wp2_with fail
  refine KC.out.mono ?_
  rintro e w1 ⟨rfl,rfl⟩
  go_wp2
  go_ret2
  exact ⟨rfl,Below.refl _ _⟩
theorem tk_er{y:Say}{w:Wd}{e:Int}(h:tkF y w=.error e):e≠0:=by
 unfold tkF at h
 split at h
 ·cases h;decide
 ·split at h
  ·cases h;decide
  ·split at h
   ·cases h;decide
   ·split at h
    ·split at h
     ·cases h
     ·cases h;decide
    ·split at h
     ·split at h
      ·cases h
      ·cases h;decide
     ·split at h
      ·split at h
       ·cases h
       ·cases h;decide
      ·cases h;decide
theorem says_er:∀(ws:List Wd) {y:Say} {e:Int},saysF y ws=.error e->e≠0
 |[],y,e,h=>by cases h;decide
 |w::ws,y,e,h=>by
  unfold saysF at h
  cases ht:tkF y w with
  |error er=>rw[ht] at h;cases h;exact tk_er ht
  |ok z=>
   rw[ht] at h
   simp only at h
   split at h
   ·cases h
   ·exact says_er ws h
theorem ent_er{e:En}{c:Cy}{x:Int}(h:entF e c=.error x):x≠0:=by
 unfold entF at h
 split at h
 ·cases h;decide
 ·split at h
  ·rename_i h1;cases h;exact h1
  ·cases hs:saysF say0 (ownF e c).2.1 with
   |error er=>rw[hs] at h;cases h;exact says_er _ hs
   |ok p=>
    rw[hs] at h
    simp only at h
    cases hp:prsF p.1.k c.og p.2 with
    |none=>rw[hp] at h;cases h;decide
    |some d=>
     rw[hp] at h
     simp only at h
     cases ht:tmF p.1 d c with
     |none=>rw[ht] at h;cases h;decide
     |some q=>rw[ht] at h;cases h
theorem cmd_er{k:Nat}{ws:List Wd}{c:Cy}{x:Int}(h:cmdE k ws c=.error x):x≠0:=by
 unfold cmdE at h
 split at h
 ·split at h
  ·split at h
   ·cases h
   ·rename_i h1;cases h;exact h1
  ·split at h
   ·cases h
   ·cases h;decide
 ·cases h;decide
theorem stp_er{e:En}{c:Cy}{rs:List Rec}{x:Int}(h:stpE e c rs=.error x):x≠0:=by
 unfold stpE at h
 split at h
 ·cases he:entF e c with
  |error er=>rw[he] at h;cases h;exact ent_er he
  |ok p=>
   rw[he] at h
   simp only at h
   split at h
   ·cases h;decide
   ·cases h
 ·cases he:cmdE (cmdF e) e.ws.tail c with
  |error er=>rw[he] at h;cases h;exact cmd_er he
  |ok p=>rw[he] at h;cases h
theorem all_er:∀(es:List En) {c:Cy} {rs:List Rec} {x l:Int},allF es c rs=.er x l->x≠0
 |[],c,rs,x,l,h=>by cases h
 |e::es,c,rs,x,l,h=>by
  unfold allF at h
  cases hs:stpE e c rs with
  |error er=>rw[hs] at h;cases h;exact stp_er hs
  |ok p=>rw[hs] at h;exact all_er es h
theorem mst_er{s:ByteArray}{og:List ByteArray}{x l:Int}(h:mstF s og=.er x l):x≠0:=by
 unfold mstF at h
 split at h
 ·cases he:entsF s.data.toList with
  |er e k=>
   rw[he] at h
   simp only at h
   cases h
   have:=ents_er0 he
   omega
  |ok es=>rw[he] at h;exact all_er es h
 ·rename_i h1;cases h;exact h1
theorem last_idx(s:ByteArray)(h:0<s.size):∃c:UInt8,s.data.toList.getLast?=some c/\∀W:World,(Instr.index 9 (.string s) (.int .i64 ((s.size:Int) - 1))).run Tryz.prog W=.ok (.int .u8 (c.toNat:Int)) W:=by
 refine ⟨s[s.size - 1]'(by omega),?_,fun W=>?_⟩
 ·rw[List.getLast?_eq_getElem?]
  have e:s.data.toList.length=s.size:=rfl
  rw[e,List.getElem?_eq_getElem (by rw[e];omega)]
  rfl
 ·have e:(((s.size:Int) - 1).toNat)=s.size - 1:=by omega
  rw[run_index_string W 9 s .i64 ((s.size:Int) - 1) Tryz.underlying9,dif_pos (by omega)]
  simp only[e]
theorem endl_nil{s:ByteArray}(h:s.size=0):endl s.data.toList=s.data.toList:=by
 have:s.data.toList=[]:=List.eq_nil_of_length_eq_zero h
 unfold endl
 rw[if_pos (.inl this)]
theorem endl_ten{s:ByteArray}(h:s.data.toList.getLast?=some 10):endl s.data.toList=s.data.toList:=by
 unfold endl
 rw[if_pos (.inr h)]
theorem endl_else{s:ByteArray}{c:UInt8}(h:s.data.toList.getLast?=some c)(hc:c≠10):endl s.data.toList=(s++(⟨#[10]⟩:ByteArray)).data.toList:=by
 unfold endl
 rw[if_neg]
 ·simp
 ·rintro (e|e)
  ·rw[e] at h;cases h
  ·rw[h] at e;cases e;exact hc rfl
def cORIGIN:ByteArray:=⟨#[36,79,82,73,71,73,78]⟩
theorem org_fold:foldL cORIGIN=cOrigin:=by decide +kernel
theorem org_good:goodW (cORIGIN,false)=true:=by decide +kernel
def secT(own:List ByteArray)(t:ByteArray):ByteArray:=(⟨#[36,79,82,73,71,73,78,32]⟩:ByteArray)++(ntext own).1++(⟨#[10]⟩:ByteArray)++t
theorem sec_data(own:List ByteArray)(t:ByteArray):(secT own t).data.toList=enTxt (orgE cORIGIN own)++t.data.toList:=by
 rw[org_txt]
 unfold secT
 have:cORIGIN.data.toList=[36,79,82,73,71,73,78]:=rfl
 rw[this]
 simp
structure Sc(own:List ByteArray)(t t1 t2 t3:ByteArray):Prop where
 s1:∀W:World,(Op.stringOp .add ⟨#[36,79,82,73,71,73,78,32]⟩ (ntext own).1).run Tryz.prog W=.ok (.string t1) W
 s2:∀W:World,(Op.stringOp .add t1 ⟨#[10]⟩).run Tryz.prog W=.ok (.string t2) W
 s3:∀W:World,(Op.stringOp .add t2 t).run Tryz.prog W=.ok (.string t3) W
theorem sc_of{own:List ByteArray}{t:ByteArray}(hk:nck own=0)(ht:t.size<=2000):∃t1 t2,Sc own t t1 t2 (secT own t)/\(secT own t).size<=3029:=by
 have z0:=text_size hk
 have z1:(⟨#[36,79,82,73,71,73,78,32]⟩:ByteArray).size=8:=rfl
 have z2:(⟨#[10]⟩:ByteArray).size=1:=rfl
 refine ⟨_,_,⟨fun W=>run_string_add_sum (P:=Tryz.prog) W _ _ (by omega),fun W=>run_string_add_sum (P:=Tryz.prog) W _ _ ?_,fun W=>run_string_add_sum (P:=Tryz.prog) W _ _ ?_⟩,?_⟩
 ·simp only[ByteArray.size_append];omega
 ·simp only[ByteArray.size_append];omega
 ·unfold secT;simp only[ByteArray.size_append];omega
theorem full_ok{t:ByteArray}(h:fullT t=true):∃fs,entsF t.data.toList=.ok fs/\∀e∈fs,fullU e=true:=by
 unfold fullT at h
 cases he:entsF t.data.toList with
 |er e l=>rw[he] at h;cases h
 |ok fs=>rw[he] at h;exact ⟨fs,rfl,fun e h1=>List.all_eq_true.1 h e h1⟩
theorem mst_both{s t s1:ByteArray}{og own:List ByteArray}{a b:List Rec}(ha:mstF s og=.ok a)(hk:nck own=0)(hf:fullT t=true)(hb:mstF (secT own t) og=.ok b)(h1:endl s.data.toList=s1.data.toList)(h2:s1.size<=2001)(h3:(secT own t).size<=3029)(hn:a.length+b.length<=2048):mstF (s1++secT own t) og=.ok (a++b):=by
 obtain ⟨fs,h4,h5⟩:=full_ok hf
 exact mst_joinsU org_fold org_good ha hk h4 h5 (sec_data own t) hb (by rw[h1];simp) (by rw[ByteArray.size_append];omega) hn
theorem sz_add(s t:ByteArray)(h1:s.size<=2001)(h2:t.size<=3029)(W:World):(Op.stringOp .add s t).run Tryz.prog W=.ok (.string (s++t)) W:=run_string_add_sum (P:=Tryz.prog) W _ _ (by omega)
theorem row_two{B N c:Nat}{a:Option Addr}{W:World}{ps1 ps2:List (RA × Rec)}(h:W.ownsRow B 50 8 (.slice a N c) N (([]++cellsR ps1)++cellsR ps2))(hl:ps1.length+ps2.length=N)(h1:∀p∈ps1,RRd W p.1 p.2)(h2:∀p∈ps2,RRd W p.1 p.2):LRd W ⟨a,N,c⟩ (ps1.map (·.2)++ps2.map (·.2)):=by
 rw[<- List.map_append]
 refine row_lrd (B:=B) ?_ (by rw[List.length_append];exact hl) (fun p hp=>?_)
 ·rw[cellsR_app];simpa using h
 ·rcases List.mem_append.1 hp with hp|hp
  ·exact h1 p hp
  ·exact h2 p hp
theorem joinsA(s t:ByteArray)(ga ha:Option Addr)(gn gc hn hc:Nat)(og own:List ByteArray)(a b:List Rec)(w:World)(h1:Nw w ga gn og)(h2:Nw w ha hn own)(hE:LayE w)(hL:LayT w)(hC:LayC w)(zs:s.size<=2000)(zt:t.size<=2000)(zg:gn<=200)(zh:hn<=200)(hma:mstF s og=.ok a)(hk:nck own=0)(hf:fullT t=true)(hmb:mstF (secT own t) og=.ok b)(hv:s.size=0∨(0<s.size/\s.data.toList.getLast?=some 10)∨(0<s.size/\∃c:UInt8,s.data.toList.getLast?=some c/\c≠10)) :
  Calls Tryz.prog 3 #[.string s,.string t,.slice ga gn gc,.slice ha hn hc] w fun e w'=>e=.returned (.bool true)/\Hid (Below w.heap.size w w'):=by
 have H:Hid (∀W,Below w.heap.size w W->LayT W/\LayE W/\LayC W):=fun W hW=>⟨hL.below hW,hE.below hW,hC.below hW⟩
 have K7:=Lib.hid (awake7 w hE hL)
 have HO:Hid (∀W,Below w.heap.size w W->Nw W ga gn og/\Nw W ha hn own):=fun W hW=>⟨h1.below hW,h2.below hW⟩
 have KP:Hid (∀W,Below w.heap.size w W->Calls Tryz.prog 8 #[.string s,.slice ga gn gc] W (AlP (.ok a) W)):=fun W hW=>(by
  have:=parse_wide8 s ga gn gc og W (HO.out W hW).1 (H.out W hW).2.1 (H.out W hW).1
  rw[hma] at this
  exact this)
 have KB:Hid (∀W,Below w.heap.size w W->Calls Tryz.prog 8 #[.string (secT own t),.slice ga gn gc] W (AlP (.ok b) W)):=fun W hW=>(by
  have:=parse_wide8 (secT own t) ga gn gc og W (HO.out W hW).1 (H.out W hW).2.1 (H.out W hW).1
  rw[hmb] at this
  exact this)
 have KT:Hid (∀W,Below w.heap.size w W->Calls Tryz.prog 9 #[.slice ha hn hc] W fun e w'=>e=.returned (.tuple #[.string (ntext own).1,.int .i64 0])/\Hid (Below W.heap.size W w')):=fun W hW=>(by
  have:=ptext_any ha hn hc own W ((HO.out W hW).2.nm hk)
  have e1:(ntext own).2=0:=by unfold ntext;rw[if_pos hk];split <;> rfl
  rw[e1] at this
  exact this)
 have KF:Hid (∀W,Below w.heap.size w W->Calls Tryz.prog 10 #[.string t] W fun e w'=>e=.returned (.bool true)/\Hid (Below W.heap.size W w')):=fun W hW=>(by
  have:=full10 t W (H.out W hW).2.1 (H.out W hW).1 (H.out W hW).2.2
  rw[hf] at this
  exact this)
 obtain ⟨t1,t2,⟨s1,s2,s3⟩,z3⟩:=sc_of (own:=own) hk zt
 have g1:¬ (2000:Int)<(s.size:Int):=by omega
 have g2:¬ (2000:Int)<(t.size:Int):=by omega
 have g3:¬ (200:Int)<(gn:Int):=by omega
 have g4:¬ (200:Int)<(hn:Int):=by omega
 have hq:∀W,(binOp .eql 28 (.agg #[.int .i64 0,.int .i64 0]) (.agg #[.int .i64 0,.int .i64 0])).run Tryz.prog W=.ok (.bool true) W:=fun W=>by rw[eqlF28];rfl
 have hq2:∀W,(binOp .neq 28 (.agg #[.int .i64 0,.int .i64 0]) (.agg #[.int .i64 0,.int .i64 0])).run Tryz.prog W=.ok (.bool false) W:=fun W=>by rw[neqF28];rfl
 have KC0:∀sx:ByteArray,endl s.data.toList=sx.data.toList->sx.size<=2001->∃all RR,(∀W:World,(Op.stringOp .add sx (secT own t)).run Tryz.prog W=.ok (.string all) W)/\Hid (∀W,Below w.heap.size w W->Calls Tryz.prog 8 #[.string all,.slice ga gn gc] W (AlP RR W))/\Hid (a.length+b.length<=2048->RR=.ok (a++b)):=fun sx h1 h2=>
  ⟨sx++secT own t,mstF (sx++secT own t) og,sz_add _ _ h2 z3,fun W hW=>parse_wide8 (sx++secT own t) ga gn gc og W (HO.out W hW).1 (H.out W hW).2.1 (H.out W hW).1,fun hN=>mst_both hma hk hf hmb h1 h2 z3 hN⟩
 rcases hv with h0|⟨h0,h10⟩|⟨h0,c,hlast,h10⟩
 case' inl=>
  have v0:¬ (0:Int)<(s.size:Int):=by omega
  obtain ⟨all,RR,v1,KC,HRR⟩:=KC0 s (endl_nil h0) (by omega)
  clear h0
 case' inr.inl=>
  have v0:(0:Int)<(s.size:Int):=by omega
  have v2:(s.size:Int)<=2000:=by omega
  obtain ⟨c,hc0,hidx0⟩:=last_idx s h0
  obtain ⟨all,RR,v1,KC,HRR⟩:=KC0 s (endl_ten h10) (by omega)
  have hcc:c=10:=by rw[h10] at hc0;injection hc0 with e;exact e.symm
  subst hcc
  have hidx:∀W,(Instr.index 9 (.string s) (.int .i64 ((s.size:Int) - 1))).run Tryz.prog W=.ok (.int .u8 10) W:=hidx0
  clear h0 h10 hc0 hidx0
 case' inr.inr=>
  obtain ⟨sx,hsx⟩:∃sx:ByteArray,sx=s++(⟨#[10]⟩:ByteArray):=⟨_,rfl⟩
  have e1:(⟨#[10]⟩:ByteArray).size=1:=rfl
  obtain ⟨all,RR,v1,KC,HRR⟩:=KC0 sx (by rw[hsx];exact endl_else hlast h10) (by rw[hsx,ByteArray.size_append];omega)
  have v0:(0:Int)<(s.size:Int):=by omega
  have v2:(s.size:Int)<=2000:=by omega
  obtain ⟨c',hc0,hidx0⟩:=last_idx s h0
  have hcc:c'=c:=by rw[hlast] at hc0;injection hc0 with e;exact e.symm
  subst hcc
  obtain ⟨z,hz⟩:∃z:Int,z=(c'.toNat:Int):=⟨_,rfl⟩
  have hz1:(z != 10)=true:=by
   rw[hz]
   simp only[bne_iff_ne,ne_eq]
   intro e
   apply h10
   apply UInt8.toNat_inj.1
   show c'.toNat=10
   omega
  have hz2:¬ z=10:=by simpa using hz1
  have hidx:∀W,(Instr.index 9 (.string s) (.int .i64 ((s.size:Int) - 1))).run Tryz.prog W=.ok (.int .u8 z) W:=by rw[hz];exact hidx0
  have v3:∀W,(Op.stringOp .add s ⟨#[10]⟩).run Tryz.prog W=.ok (.string sx) W:=fun W=>by rw[hsx];exact run_string_add_sum (P:=Tryz.prog) W _ _ (by omega)
  clear h0 h10 hc0 hidx0 hlast hsx e1 hz
 all_goals
  clear KC0 hE hL hC h1 h2 H HO hma hmb hk hf zs zt zg zh z3
  generalize secT own t=sec at*
  generalize (ntext own).1=tx at*
  go_enter Tryz.func3,Tryz.ntmps3
  go_wp2_with fail
  refine K7.out.mono ?_
  rintro e w1 ⟨rfl,H1⟩
  go_wp2_with fail
  refine (KP.out _ H1.out).mono ?_
  rintro e w2 ⟨⟨ya,yn,yc⟩,er,ln,rfl,HB2,HQ⟩
  obtain ⟨rfl,rfl,how,hla⟩:=HQ.out
  have HB3:Hid (Below w.heap.size w (w2.alloc (.cells #[.int .i64 0,.int .i64 0] 28))/\LRd (w2.alloc (.cells #[.int .i64 0,.int .i64 0] 28)) ⟨ya,yn,yc⟩ a/\(w2.alloc (.cells #[.int .i64 0,.int .i64 0] 28)).heap[w2.heap.size]?=some (.cells #[.int .i64 0,.int .i64 0] 28)):=by
   have b1:=H1.out.trans (HB2.out.mono H1.out.size)
   have b2:=new_below w2 (.cells #[.int .i64 0,.int .i64 0] 28)
   exact ⟨b1.trans (b2.mono b1.size),(OwR.lrd (x:=⟨ya,yn,yc⟩) how).below b2,alloc_at _ _⟩
  clear how HQ HB2 KP K7 H1
  go_wp2_with fail
  generalize w2.alloc (.cells #[.int .i64 0,.int .i64 0] 28)=w3 at*
  refine (KT.out w3 HB3.out.1).mono ?_
  rintro e w4 ⟨rfl,H4⟩
  have f1:=cell_of_block (i:=0) ((H4.out.block _ (block_lt HB3.out.2.2)).trans HB3.out.2.2) rfl
  have f2:=cell_of_block (i:=1) ((H4.out.block _ (block_lt HB3.out.2.2)).trans HB3.out.2.2) rfl
  have f3:=Nat.lt_of_lt_of_le (block_lt HB3.out.2.2) H4.out.size
  have HB4:Hid (Below w.heap.size w w4/\LRd w4 ⟨ya,yn,yc⟩ a):=⟨HB3.out.1.trans (H4.out.mono HB3.out.1.size),HB3.out.2.1.below H4.out⟩
  clear H4 HB3 KT
  go_wp2_with fail
  refine (KF.out w4 HB4.out.1).mono ?_
  rintro e w5 ⟨rfl,H5⟩
  have HB5:Hid (Below w.heap.size w w5/\LRd w5 ⟨ya,yn,yc⟩ a):=⟨HB4.out.1.trans (H5.out.mono HB4.out.1.size),HB4.out.2.below H5.out⟩
  clear H5 HB4 KF f1 f2 f3
  go_wp2_with fail
  refine (KB.out w5 HB5.out.1).mono ?_
  rintro e w6 ⟨⟨ua,un,uc⟩,er,ln,rfl,HB6,HQ⟩
  obtain ⟨rfl,rfl,how,hlb⟩:=HQ.out
  have HB7:Hid (Below w.heap.size w (w6.alloc (.cells #[.int .i64 0,.int .i64 0] 28))/\LRd (w6.alloc (.cells #[.int .i64 0,.int .i64 0] 28)) ⟨ya,yn,yc⟩ a/\LRd (w6.alloc (.cells #[.int .i64 0,.int .i64 0] 28)) ⟨ua,un,uc⟩ b):=by
   have b1:=HB5.out.1.trans (HB6.out.mono HB5.out.1.size)
   have b2:=new_below w6 (.cells #[.int .i64 0,.int .i64 0] 28)
   exact ⟨b1.trans (b2.mono b1.size),(HB5.out.2.below HB6.out).below b2,(OwR.lrd (x:=⟨ua,un,uc⟩) how).below b2⟩
  have hya:a.length=yn:=HB7.out.2.1.len
  have hub:b.length=un:=HB7.out.2.2.len
  clear how HQ HB6 KB HB5
  have y1:(yn:Int)<=2048:=by omega
  have y2:(un:Int)<=2048:=by omega
  go_wp2_with fail
  generalize w6.alloc (.cells #[.int .i64 0,.int .i64 0] 28)=w7 at*
  refine (KC.out w7 HB7.out.1).mono ?_
  rintro e w8 ⟨⟨va,vn,vc⟩,er,ln,rfl,HB8,HQ⟩
  by_cases hN:a.length+b.length<=2048
  ·have hgt:¬ (2048:Int)<(yn:Int)+(un:Int):=by omega
   obtain rfl:=HRR.out hN
   obtain ⟨rfl,rfl,how,-⟩:=HQ.out
   have HB9:Hid (Below w.heap.size w (w8.alloc (.cells #[.int .i64 0,.int .i64 0] 28))/\LRd (w8.alloc (.cells #[.int .i64 0,.int .i64 0] 28)) ⟨ya,yn,yc⟩ a/\LRd (w8.alloc (.cells #[.int .i64 0,.int .i64 0] 28)) ⟨ua,un,uc⟩ b/\LRd (w8.alloc (.cells #[.int .i64 0,.int .i64 0] 28)) ⟨va,vn,vc⟩ (a++b)/\(w8.alloc (.cells #[.int .i64 0,.int .i64 0] 28)).heap[w8.heap.size]?=some (.cells #[.int .i64 0,.int .i64 0] 28)):=by
    have b1:=HB7.out.1.trans (HB8.out.mono HB7.out.1.size)
    have b2:=new_below w8 (.cells #[.int .i64 0,.int .i64 0] 28)
    exact ⟨b1.trans (b2.mono b1.size),(HB7.out.2.1.below HB8.out).below b2,(HB7.out.2.2.below HB8.out).below b2,(OwR.lrd (x:=⟨va,vn,vc⟩) how).below b2,alloc_at _ _⟩
   clear how HQ HB8 HB7 KC hya hub HRR
   obtain ⟨ps1,e1,l1,q1,r1,z1⟩:=lrd_parts HB9.out.2.1
   obtain ⟨ps2,e2,l2,q2,r2,z2⟩:=lrd_parts HB9.out.2.2.1
   simp only at l1 l2 q1 q2 z1 z2
   have HL1:Hid ((cellsR ps1).length=yn*8):=(show _=_ by rw[cellsR_len,l1])
   have HL2:Hid ((cellsR ps2).length=un*8):=(show _=_ by rw[cellsR_len,l2])
   have HS1:=Lib.hid q1
   have HS2:=Lib.hid q2
   have HZ1:=Lib.hid z1
   have HZ2:=Lib.hid z2
   have HC1:=Lib.hid (cellsR_one ps1)
   have HC2:=Lib.hid (cellsR_one ps2)
   have HR1:=Lib.hid r1
   have HR2:=Lib.hid r2
   have HEE:Hid (a++b=ps1.map (·.2)++ps2.map (·.2)):=(show _=_ by rw[e1,e2])
   have HLL:Hid (ps1.length+ps2.length=yn+un):=(show _=_ by rw[l1,l2])
   have y3:yn+un<=4096:=by omega
   have y4:0+yn<=10000000:=by omega
   have y5:yn+un<=10000000:=by omega
   clear e1 e2 l1 l2 q1 q2 r1 r2 z1 z2 hN hla hlb
   have f1:=cell_of_block (i:=0) HB9.out.2.2.2.2 rfl
   have f2:=cell_of_block (i:=1) HB9.out.2.2.2.2 rfl
   have f3:=block_lt HB9.out.2.2.2.2
   go_upto_region 17 with (fail)
   generalize w8.alloc (.cells #[.int .i64 0,.int .i64 0] 28)=w9 at*
   have HW0:Hid (Below w9.heap.size w9 (w9.alloc (.cells #[] 50))):=new_below _ _
   have HN0:Hid ((w9.alloc (.cells #[] 50)).ownsRow w9.heap.size 50 8 (.slice (some ⟨w9.heap.size,0,none⟩) 0 0) 0 []):=⟨rfl,.inr ⟨w9.heap.size,0,#[],rfl,Nat.le_refl _,alloc_at _ _,Nat.le_refl _,by simp[maxLen],rfl,rfl⟩⟩
   go_wp2_with (first
    |(at_builtin;refine wpList_appRG (by rfl) _ _ rfl w9.heap.size (some ⟨w9.heap.size,0,none⟩) 0 0 [] rfl HN0.out ya yn yc (cellsR ps1) rfl HL1.out (HS1.out _ HW0.out) HZ1.out HC1.out y4 HW0.out.size yn (Nat.zero_add yn) ?_;intro x1 c1 w10 h5 h6;have H5:=Lib.hid h5.out;have H6:=Lib.hid h6.out;clear h5 h6;have HB10:Hid (Below w9.heap.size w9 w10):=(HW0.out.grown H6.out HW0.out.size (fun k e=>by simp[Value.ownBlock] at e;omega)))
    |(at_builtin;refine wpList_appRG (by rfl) _ _ rfl w9.heap.size x1 yn c1 ([]++cellsR ps1) rfl H5.out ua un uc (cellsR ps2) rfl HL2.out (HS2.out _ HB10.out) HZ2.out HC2.out y5 HB10.out.size (yn+un) rfl ?_;intro x2 c2 w11 h7 h8;have H7:=Lib.hid h7.out;have H8:=Lib.hid h8.out;clear h7 h8;have HB11:Hid (Below w9.heap.size w9 w11):=(HB10.out.grown H8.out HB10.out.size (fun k e=>(H5.out.lt k e).1)))
    |fail)
   have HLN:Hid (LRd w11 ⟨x2,yn+un,c2⟩ (a++b)):=(by
    rw[HEE.out]
    exact row_two H7.out HLL.out (fun p hp=>(HR1.out p hp).below HB11.out) (fun p hp=>(HR2.out p hp).below HB11.out))
   have KS:=Lib.hid (same_lrd (HB9.out.2.2.2.1.below HB11.out) HLN.out)
   simp only at KS
   have HBZ:Hid (Below w.heap.size w w11):=HB9.out.1.trans (HB11.out.mono HB9.out.1.size)
   clear HLN HB9 HB10 HB11 H5 H6 H7 H8 HN0 HW0 HL1 HL2 HS1 HS2 HZ1 HZ2 HC1 HC2 HR1 HR2 HEE HLL f1 f2 f3
   refine (KS.out w11 (Below.refl _ _)).mono ?_
   rintro e w12 ⟨rfl,H12⟩
   have HB12:Hid (Below w.heap.size w w12):=HBZ.out.trans (H12.mono HBZ.out.size)
   clear H12 HBZ KS
   go_wp2_with fail
   go_ret
   exact ⟨rfl,HB12.out⟩
  ·have hgt:(2048:Int)<(yn:Int)+(un:Int):=by omega
   have HB9:Hid (Below w.heap.size w (w8.alloc (.cells #[.int .i64 er,.int .i64 ln] 28))):=by
    have b1:=HB7.out.1.trans (HB8.out.mono HB7.out.1.size)
    exact b1.trans ((new_below _ _).mono b1.size)
   clear HQ HB8 HB7 KC HRR hla hlb hya hub hN
   go_wp2_with fail
   go_ret
   exact ⟨rfl,HB9.out⟩
theorem joinsL(s t:ByteArray)(ga ha:Option Addr)(gn gc hn hc:Nat)(og own:List ByteArray)(w:World)(h1:TRd w ⟨ga,gn,gc⟩ og)(h2:TRd w ⟨ha,hn,hc⟩ own)(hE:LayE w)(hL:LayT w)(hC:LayC w) :
  Calls Tryz.prog 3 #[.string s,.string t,.slice ga gn gc,.slice ha hn hc] w fun e w'=>e=.returned (.bool true)/\Hid (Below w.heap.size w w'):=by
 have H:Hid (∀W,Below w.heap.size w W->LayT W/\LayE W/\LayC W):=fun W hW=>⟨hL.below hW,hE.below hW,hC.below hW⟩
 have K7:=Lib.hid (awake7 w hE hL)
 by_cases hA:2000<s.size
 ·have hA':(2000:Int)<(s.size:Int):=by omega
  clear H hE hL hC h1 h2
  go_enter Tryz.func3,Tryz.ntmps3
  go_wp2_with fail
  refine K7.out.mono ?_
  rintro e w1 ⟨rfl,H1⟩
  go_wp2_with fail
  go_ret
  exact ⟨rfl,H1.out⟩
 have hA':¬ (2000:Int)<(s.size:Int):=by omega
 by_cases hB:2000<t.size
 ·have hB':(2000:Int)<(t.size:Int):=by omega
  clear H hE hL hC h1 h2
  go_enter Tryz.func3,Tryz.ntmps3
  go_wp2_with fail
  refine K7.out.mono ?_
  rintro e w1 ⟨rfl,H1⟩
  go_wp2_with fail
  go_ret
  exact ⟨rfl,H1.out⟩
 have hB':¬ (2000:Int)<(t.size:Int):=by omega
 by_cases hCg:200<gn
 ·have hCg':(200:Int)<(gn:Int):=by omega
  clear H hE hL hC h1 h2
  go_enter Tryz.func3,Tryz.ntmps3
  go_wp2_with fail
  refine K7.out.mono ?_
  rintro e w1 ⟨rfl,H1⟩
  go_wp2_with fail
  go_ret
  exact ⟨rfl,H1.out⟩
 have hCg':¬ (200:Int)<(gn:Int):=by omega
 by_cases hD:200<hn
 ·have hD':(200:Int)<(hn:Int):=by omega
  clear H hE hL hC h1 h2
  go_enter Tryz.func3,Tryz.ntmps3
  go_wp2_with fail
  refine K7.out.mono ?_
  rintro e w1 ⟨rfl,H1⟩
  go_wp2_with fail
  go_ret
  exact ⟨rfl,H1.out⟩
 have hD':¬ (200:Int)<(hn:Int):=by omega
 have n1:Nw w ga gn og:=⟨h1.rd,h1.len,by omega,h1.z63⟩
 have n2:Nw w ha hn own:=⟨h2.rd,h2.len,by omega,h2.z63⟩
 have HO:Hid (∀W,Below w.heap.size w W->Nw W ga gn og/\Nw W ha hn own):=fun W hW=>⟨n1.below hW,n2.below hW⟩
 have KT:Hid (∀W,Below w.heap.size w W->Calls Tryz.prog 9 #[.slice ha hn hc] W fun e w'=>e=.returned (.tuple #[.string (ntext own).1,.int .i64 (ntext own).2])/\Hid (Below W.heap.size W w')):=fun W hW=>text_wide9 ha hn hc own W (HO.out W hW).2
 have KP:Hid (∀W,Below w.heap.size w W->Calls Tryz.prog 8 #[.string s,.slice ga gn gc] W (AlP (mstF s og) W)):=fun W hW=>parse_wide8 s ga gn gc og W (HO.out W hW).1 (H.out W hW).2.1 (H.out W hW).1
 have hq2:∀W,(binOp .neq 28 (.agg #[.int .i64 0,.int .i64 0]) (.agg #[.int .i64 0,.int .i64 0])).run Tryz.prog W=.ok (.bool false) W:=fun W=>by rw[neqF28];rfl
 cases hma:mstF s og with
 |er er ln=>
  have hne:=mst_er hma
  rw[hma] at KP
  have hq:∀W,(binOp .neq 28 (.agg #[.int .i64 er,.int .i64 ln]) (.agg #[.int .i64 0,.int .i64 0])).run Tryz.prog W=.ok (.bool true) W:=fun W=>by rw[neqF28];simp[hne]
  generalize ntext own=tx at*
  clear H HO hE hL hC h1 h2 n1 n2 hma
  go_enter Tryz.func3,Tryz.ntmps3
  go_wp2_with fail
  refine K7.out.mono ?_
  rintro e w1 ⟨rfl,H1⟩
  go_wp2_with fail
  refine (KP.out _ H1.out).mono ?_
  rintro e w2 ⟨⟨ya,yn,yc⟩,p,q,rfl,HB2,HQ⟩
  obtain ⟨ra,rb,-⟩:=HQ.out
  rw[ra,rb]
  have HB3:Hid (Below w.heap.size w (w2.alloc (.cells #[.int .i64 er,.int .i64 ln] 28))/\(w2.alloc (.cells #[.int .i64 er,.int .i64 ln] 28)).heap[w2.heap.size]?=some (.cells #[.int .i64 er,.int .i64 ln] 28)):=by
   have b1:=H1.out.trans (HB2.out.mono H1.out.size)
   exact ⟨b1.trans ((new_below _ _).mono b1.size),alloc_at _ _⟩
  clear HQ HB2 KP K7 H1 ra rb hne
  go_wp2_with fail
  generalize w2.alloc (.cells #[.int .i64 er,.int .i64 ln] 28)=w3 at*
  refine (KT.out w3 HB3.out.1).mono ?_
  rintro e w4 ⟨rfl,H4⟩
  have f1:=cell_of_block (i:=0) ((H4.out.block _ (block_lt HB3.out.2)).trans HB3.out.2) rfl
  have f2:=cell_of_block (i:=1) ((H4.out.block _ (block_lt HB3.out.2)).trans HB3.out.2) rfl
  have f3:=Nat.lt_of_lt_of_le (block_lt HB3.out.2) H4.out.size
  have HB4:Hid (Below w.heap.size w w4):=HB3.out.1.trans (H4.out.mono HB3.out.1.size)
  clear H4 HB3 KT
  go_wp2_with fail
  go_ret
  exact ⟨rfl,HB4.out⟩
 |ok a=>
  rw[hma] at KP
  by_cases hk:nck own=0
  case neg=>
   have e1:(ntext own).2≠0:=fun e=>hk (text_err e)
   have e2:((ntext own).2 != 0)=true:=by simpa using e1
   generalize ntext own=tx at*
   clear H HO hE hL hC h1 h2 n1 n2 hma hk
   go_enter Tryz.func3,Tryz.ntmps3
   go_wp2_with fail
   refine K7.out.mono ?_
   rintro e w1 ⟨rfl,H1⟩
   go_wp2_with fail
   refine (KP.out _ H1.out).mono ?_
   rintro e w2 ⟨⟨ya,yn,yc⟩,p,q,rfl,HB2,HQ⟩
   obtain ⟨rfl,rfl,-,-⟩:=HQ.out
   have HB3:Hid (Below w.heap.size w (w2.alloc (.cells #[.int .i64 0,.int .i64 0] 28))/\(w2.alloc (.cells #[.int .i64 0,.int .i64 0] 28)).heap[w2.heap.size]?=some (.cells #[.int .i64 0,.int .i64 0] 28)):=by
    have b1:=H1.out.trans (HB2.out.mono H1.out.size)
    exact ⟨b1.trans ((new_below _ _).mono b1.size),alloc_at _ _⟩
   clear HQ HB2 KP K7 H1
   go_wp2_with fail
   generalize w2.alloc (.cells #[.int .i64 0,.int .i64 0] 28)=w3 at*
   refine (KT.out w3 HB3.out.1).mono ?_
   rintro e w4 ⟨rfl,H4⟩
   have f1:=cell_of_block (i:=0) ((H4.out.block _ (block_lt HB3.out.2)).trans HB3.out.2) rfl
   have f2:=cell_of_block (i:=1) ((H4.out.block _ (block_lt HB3.out.2)).trans HB3.out.2) rfl
   have f3:=Nat.lt_of_lt_of_le (block_lt HB3.out.2) H4.out.size
   have HB4:Hid (Below w.heap.size w w4):=HB3.out.1.trans (H4.out.mono HB3.out.1.size)
   clear H4 HB3 KT
   go_wp2_with fail
   go_ret
   exact ⟨rfl,HB4.out⟩
  have e1:(ntext own).2=0:=by unfold ntext;rw[if_pos hk];split <;> rfl
  rw[e1] at KT
  have KF:Hid (∀W,Below w.heap.size w W->Calls Tryz.prog 10 #[.string t] W fun e w'=>e=.returned (.bool (fullT t))/\Hid (Below W.heap.size W w')):=fun W hW=>full10 t W (H.out W hW).2.1 (H.out W hW).1 (H.out W hW).2.2
  cases hf:fullT t with
  |false=>
   rw[hf] at KF
   generalize ntext own=tx at*
   clear H HO hE hL hC h1 h2 n1 n2 hma hk e1 hf
   go_enter Tryz.func3,Tryz.ntmps3
   go_wp2_with fail
   refine K7.out.mono ?_
   rintro e w1 ⟨rfl,H1⟩
   go_wp2_with fail
   refine (KP.out _ H1.out).mono ?_
   rintro e w2 ⟨⟨ya,yn,yc⟩,p,q,rfl,HB2,HQ⟩
   obtain ⟨rfl,rfl,-,-⟩:=HQ.out
   have HB3:Hid (Below w.heap.size w (w2.alloc (.cells #[.int .i64 0,.int .i64 0] 28))/\(w2.alloc (.cells #[.int .i64 0,.int .i64 0] 28)).heap[w2.heap.size]?=some (.cells #[.int .i64 0,.int .i64 0] 28)):=by
    have b1:=H1.out.trans (HB2.out.mono H1.out.size)
    exact ⟨b1.trans ((new_below _ _).mono b1.size),alloc_at _ _⟩
   clear HQ HB2 KP K7 H1
   go_wp2_with fail
   generalize w2.alloc (.cells #[.int .i64 0,.int .i64 0] 28)=w3 at*
   refine (KT.out w3 HB3.out.1).mono ?_
   rintro e w4 ⟨rfl,H4⟩
   have f1:=cell_of_block (i:=0) ((H4.out.block _ (block_lt HB3.out.2)).trans HB3.out.2) rfl
   have f2:=cell_of_block (i:=1) ((H4.out.block _ (block_lt HB3.out.2)).trans HB3.out.2) rfl
   have f3:=Nat.lt_of_lt_of_le (block_lt HB3.out.2) H4.out.size
   have HB4:Hid (Below w.heap.size w w4):=HB3.out.1.trans (H4.out.mono HB3.out.1.size)
   clear H4 HB3 KT
   go_wp2_with fail
   refine (KF.out w4 HB4.out).mono ?_
   rintro e w5 ⟨rfl,H5⟩
   have HB5:Hid (Below w.heap.size w w5):=HB4.out.trans (H5.out.mono HB4.out.size)
   clear H5 HB4 KF f1 f2 f3
   go_wp2_with fail
   go_ret
   exact ⟨rfl,HB5.out⟩
  |true=>
   cases hmb:mstF (secT own t) og with
   |er er ln=>
    rw[hf] at KF
    have hne:=mst_er hmb
    obtain ⟨t1,t2,⟨s1,s2,s3⟩,z3⟩:=sc_of (own:=own) hk (show t.size<=2000 by omega)
    have KB:Hid (∀W,Below w.heap.size w W->Calls Tryz.prog 8 #[.string (secT own t),.slice ga gn gc] W (AlP (.er er ln) W)):=fun W hW=>(by
     have:=parse_wide8 (secT own t) ga gn gc og W (HO.out W hW).1 (H.out W hW).2.1 (H.out W hW).1
     rw[hmb] at this
     exact this)
    have hq:∀W,(binOp .neq 28 (.agg #[.int .i64 er,.int .i64 ln]) (.agg #[.int .i64 0,.int .i64 0])).run Tryz.prog W=.ok (.bool true) W:=fun W=>by rw[neqF28];simp[hne]
    clear H HO hE hL hC h1 h2 n1 n2 hma hk e1 hf hmb hne z3
    generalize secT own t=sec at*
    generalize (ntext own).1=tx at*
    go_enter Tryz.func3,Tryz.ntmps3
    go_wp2_with fail
    refine K7.out.mono ?_
    rintro e w1 ⟨rfl,H1⟩
    go_wp2_with fail
    refine (KP.out _ H1.out).mono ?_
    rintro e w2 ⟨⟨ya,yn,yc⟩,p,q,rfl,HB2,HQ⟩
    obtain ⟨rfl,rfl,-,-⟩:=HQ.out
    have HB3:Hid (Below w.heap.size w (w2.alloc (.cells #[.int .i64 0,.int .i64 0] 28))/\(w2.alloc (.cells #[.int .i64 0,.int .i64 0] 28)).heap[w2.heap.size]?=some (.cells #[.int .i64 0,.int .i64 0] 28)):=by
     have b1:=H1.out.trans (HB2.out.mono H1.out.size)
     exact ⟨b1.trans ((new_below _ _).mono b1.size),alloc_at _ _⟩
    clear HQ HB2 KP K7 H1
    go_wp2_with fail
    generalize w2.alloc (.cells #[.int .i64 0,.int .i64 0] 28)=w3 at*
    refine (KT.out w3 HB3.out.1).mono ?_
    rintro e w4 ⟨rfl,H4⟩
    have f1:=cell_of_block (i:=0) ((H4.out.block _ (block_lt HB3.out.2)).trans HB3.out.2) rfl
    have f2:=cell_of_block (i:=1) ((H4.out.block _ (block_lt HB3.out.2)).trans HB3.out.2) rfl
    have f3:=Nat.lt_of_lt_of_le (block_lt HB3.out.2) H4.out.size
    have HB4:Hid (Below w.heap.size w w4):=HB3.out.1.trans (H4.out.mono HB3.out.1.size)
    clear H4 HB3 KT
    go_wp2_with fail
    refine (KF.out w4 HB4.out).mono ?_
    rintro e w5 ⟨rfl,H5⟩
    have HB5:Hid (Below w.heap.size w w5):=HB4.out.trans (H5.out.mono HB4.out.size)
    clear H5 HB4 KF f1 f2 f3
    go_wp2_with fail
    refine (KB.out w5 HB5.out).mono ?_
    rintro e w6 ⟨⟨ua,un,uc⟩,p,q,rfl,HB6,HQ⟩
    obtain ⟨ra,rb,-⟩:=HQ.out
    rw[ra,rb]
    have HB7:Hid (Below w.heap.size w (w6.alloc (.cells #[.int .i64 er,.int .i64 ln] 28))):=by
     have b1:=HB5.out.trans (HB6.out.mono HB5.out.size)
     exact b1.trans ((new_below _ _).mono b1.size)
    clear HQ HB6 KB HB5 ra rb
    go_wp2_with fail
    go_ret
    exact ⟨rfl,HB7.out⟩
   |ok b=>
    have zs:s.size<=2000:=by omega
    have zt:t.size<=2000:=by omega
    have zg:gn<=200:=by omega
    have zh:hn<=200:=by omega
    refine joinsA s t ga ha gn gc hn hc og own a b w n1 n2 hE hL hC zs zt zg zh hma hk hf hmb ?_
    by_cases h0:s.size=0
    ·exact .inl h0
    ·obtain ⟨c,hlast,-⟩:=last_idx s (by omega)
     by_cases h10:c=10
     ·subst h10;exact .inr (.inl ⟨by omega,hlast⟩)
     ·exact .inr (.inr ⟨by omega,c,hlast,h10⟩)
end Go.Proofs.YtjkljpdolhglcaaGreatDoor
