/- Texts laid together, in parts: Zm Zn Zo Ma Nab Nac Nad Ppa Ppb Ppc Ppd Ppe Ppf Ppg Pph Ppi Mb. -/
import Derived.Test.YtoppdmlmhigogaaGreatDoorWzi
import Derived.WalkMore
set_option maxRecDepth 100000
set_option maxHeartbeats 8000000
set_option linter.unusedVariables false
set_option linter.unusedSimpArgs false
open Bool renaming and_eq_true → AA, false_eq_true → Bi, or_eq_true → Ct, not_eq_true' → Mv, true_and → OE
open ByteArray renaming size_append → Lu, size → LM
open Classical renaming not_not → Cw
open Go renaming World → Ab, Calls → Ag, bodyPost_ret → An, Value → Ao, heap_alloc_new → Au, start → AB, results → AJ
open Go.Exit renaming noGoto_ret → CQ
open Go.IntKind renaming u64 → LL, wrap_u64 → MN
open Go.Lib renaming hid → Ac, decDigits → Bl, parseUintM → Ck, bytesWorld → Eu
open Go.Proofs.Tryz renaming prog → Aa, underlying39 → AI, underlying9 → AK, underlying5 → Ba, results83 → DE, func234 → NR
open Go.RowKit.Below renaming refl → Ae, heap_setCell → Ar
open Int renaming toNat_natCast → BM
open List renaming length_append → Af, length_eq_zero_iff → Aq, mem_cons → Ax, cons_append → Ay, eq_nil_of_length_eq_zero → AC, getElem?_eq_getElem → AF, mem_append → AG, all_eq_true → AO, length_cons → AP, nil_append → AQ, length_map → AS, mem_map → AY, mem_singleton → Bc, mem_of_mem_take → Be, map_cons → Bh, take_append_drop → BE, mem_of_mem_drop → CT, length_nil → CZ, map_nil → Df, drop_eq_nil_of_le → DH, drop_eq_getElem_cons → El, not_mem_nil → Ep, map_congr_left → ED, mem_of_find?_eq_some → EE, map_map → Fq, length → FH, mem_of_mem_head? → FL, append_eq_nil_iff → IA, exists_cons_of_ne_nil → LB, drop_of_length_le → NU, drop_append → Pu
open Nat renaming le_refl → Ad, zero_le → Aw, strongRecOn → FI, add_sub_cancel_left → NS
open Option renaming bind_some → BL
open Option.some renaming injEq → Iq
open UInt8 renaming ofNat → CS
namespace Go.Proofs.YtoppdmlmhigogaaGreatDoor
open Go.ChangeShapes Go.WideShapes Go.ChangeAt Go.RowKit
theorem cX(B R:Nat)(w0:Fx)(w:Ab)(s:ByteArray)(q:Cf)(AB:Nat)(wv ev:Ao)(wS:Ab)(k:Nat)(h:RSZ B R w0 w s q AB wv ev wS)(hP:∀p∈w0.P,p.1<w.heap.size)(hs:s.size<=1000000)(hk:q.st=k)(hst:k<=6)(hc:q.st=1->LF s q AB s.size)(hw:q.ws.length<=64)(he:q.es.length<=1000000) :
  Ag Aa 123 #[.pointer (some ⟨R,0,none⟩),.int .u8 k] w (FnP B R w0 s (MU (Ca s.data.toList) q)):=by
 by_cases h1:k=3∨k=2∨k=4
 ·exact lJ B R w0 w s q AB wv ev wS k h hP hs hk h1
 ·by_cases h2:k=1
  ·exact WM B R w0 w s q AB wv ev wS k h hP hs hk h2 (hc (by omega)) hw he
  ·exact bN B R w0 w s q AB wv ev wS k h hP hs hk (by omega) he
structure Nb(q:Cf)(p:Nat):Prop where
 st:q.st<=6
 ln:q.line<=p+1
 op:q.op<=p
 es:q.es.length<=p
 ws:q.ws.length<=64
theorem ZQ{q q':Cf}{b:Bool}(h:EV q b=some q')(hw:q.ws.length<=64):q'.ws.length<=64/\q'.op=q.op/\q'.line=q.line/\q'.es=q.es:=by
 have h1:=Ow h;have h2:=Mx h;unfold EV at h;split at h
 ·cases h
 ·refine⟨?_,h1.2.1,h2,h1.1⟩;rw[h1.2.2];simp;omega
theorem fT(q:Cf):(BP q).es.length<=q.es.length+1:=by
 unfold BP;simp only;split <;> simp
theorem TZ{q q':Cf}{p:Nat}{c:UInt8}{r:List UInt8}(h:JG q c r=some q')(hl:q.line<=p+1)(ho:q.op<=p)(he:q.es.length<=p)(hw:q.ws.length<=64):Nb q' (p+1):=by
 unfold JG at h;split at h
 ·cases h;exact⟨by simp,by simp;omega,by simp;omega,by simp;omega,hw⟩
 ·split at h
  ·cases h;exact⟨by simp,by simp;omega,by simp;omega,by simp;omega,hw⟩
  ·split at h
   ·split at h
    ·cases h
    ·cases h;exact⟨by simp,by simp;omega,by simp;omega,by simp;omega,hw⟩
   ·split at h
    ·split at h
     ·cases h;have:=fT { q with st:=0,line:=q.line+1 };refine⟨by simp[DV,BP],by simp[DV,BP];omega,by simp[DV,BP];omega,?_,by simp[DV]⟩;show(BP _).es.length<=p+1;simp only at this;omega
     ·cases h;exact⟨by simp,by simp;omega,by simp;omega,by simp;omega,hw⟩
    ·cases h;exact⟨by simp,by simp;omega,by simp;omega,by simp;omega,hw⟩
theorem Nb.step{q q':Cf}{p:Nat}{c:UInt8}{r:List UInt8}(h:Nb q p)(hs:Bt q c r=.ok q'):Nb q' (p+1):=by
 obtain⟨h1,h2,h3,h4,h5⟩:=h;have m:∀k cur,k<=6->Nb { q with st:=k,cur:=cur } (p+1):=fun k cur hk=>⟨hk,by simp;omega,by simp;omega,by simp;omega,h5⟩
 unfold Bt at hs;split at hs
 ·cases hs
 ·split at hs
  ·unfold FG at hs;split at hs
   ·exact TZ (FU hs) h2 h3 h4 h5
   ·split at hs
    ·cases hs;exact m 3 _ (by omega)
    ·split at hs
     ·cases hs;exact m 2 _ (by omega)
     ·cases hs;exact m 1 _ (by omega)
  ·split at hs
   ·unfold Hw at hs;split at hs
    ·split at hs
     ·cases hs
     ·rename_i q1 hk
      obtain⟨k1,k2,k3,k4⟩:=ZQ hk h5;exact TZ (FU hs) (by omega) (by omega) (by rw[k4];exact h4) k1
    ·split at hs
     ·cases hs
     ·split at hs
      ·cases hs;exact m 2 _ (by omega)
      ·cases hs;exact m 1 _ (by omega)
   ·split at hs
    ·cases hs;exact m 1 _ (by omega)
    ·split at hs
     ·unfold Ht at hs;split at hs
      ·split at hs
       ·cases hs
       ·rename_i q1 hk
        obtain⟨k1,k2,k3,k4⟩:=ZQ hk h5;cases hs;exact⟨by simp,by simp;omega,by simp;omega,by simp[k4];omega,k1⟩
      ·split at hs
       ·cases hs;exact m 4 _ (by omega)
       ·cases hs;exact m 3 _ (by omega)
     ·split at hs
      ·cases hs;exact m 3 _ (by omega)
      ·split at hs
       ·split at hs
        ·exact TZ (FU hs) h2 h3 h4 h5
        ·cases hs
       ·split at hs
        ·exact TZ (FU hs) h2 h3 h4 h5
        ·cases hs;exact⟨h1,by omega,by omega,by omega,h5⟩
def Cu(s:ByteArray)(q:Cf)(AB p:Nat):Prop:=(q.st=1∨q.st=2∨q.st=3∨q.st=4)->LF s q AB p
theorem nU(s:ByteArray)(p:Nat)(h:p<s.size):s.data.toList.drop p=s[p]::s.data.toList.drop (p+1):=by
 rw[El (by simpa using h)];rfl
theorem wH(B R:Nat)(w0:Fx)(w:Ab)(s:ByteArray)(q0:Cf)(start0:Nat)(wv0 ev0:Ao)(wS0:Ab)(h:RSZ B R w0 w s q0 start0 wv0 ev0 wS0)(hP:∀p∈w0.P,p.1<w.heap.size)(hs:s.size<=100000)(hq:q0.st=0)(hn:Nb q0 0) :
  Ag Aa 83 #[.pointer (some ⟨R,0,none⟩)] w (FnP B R w0 s (goF (Ca s.data.toList) q0 s.data.toList)):=by
 obtain⟨G,hG⟩:∃G,goF (Ca s.data.toList) q0 s.data.toList=G:=⟨_,rfl⟩;rw[hG];have hlt:=h.bx.lt;have hB:B<=w.heap.size:=by have:=h.br;omega
 have HA:=Ac ((h.go (BS w (.cells #[.int .i64 0,.int .i64 0] 50))).put w.heap.size 0 0 (Au w _));have HJ:Hid (∀p∈w0.P,p.1≠w.heap.size):=fun p hp e=>by have:=hP p hp;omega
 have HPP:Hid (∀W:Ab,w.heap.size<W.heap.size->∀p∈(w0.put w.heap.size 0 0).P,p.1<W.heap.size):=fun W hW p hp=>by
  obtain rfl|hp:=Ax.1 hp
  ·exact hW
  ·have:=hP p hp;omega
 have c0:=HA.out.bx.c0;have HN:=Ac hn;have HG:=Ac hG;have HQ:=Ac hq
 -- what is left to do behind the loop
 have HEND:Hid (∀(W:Ab) (a b:Nat),FnQ B R (w0.put w.heap.size 0 0) s a b W G->(W.heap[w.heap.size]?=some (.cells #[.int .i64 0,.int .i64 0] 50 (0,0)))/\FnQ B R w0 s a b ((W.setCell ⟨w.heap.size,0,none⟩ (.int .i64 a)).setCell ⟨w.heap.size,1,none⟩ (.int .i64 b)) G):=fun W a b hW=>by
  cases G with
  |er e l=>exact⟨hW.2.2.cell,hW.1,hW.2.1,hW.2.2.pop.res hB HJ.out _ _⟩
  |ok es=>
   obtain⟨h1,h2,q,st,wv,ev,h3,h4⟩:=hW;exact⟨h4.bl.cell,h1,h2,q,st,wv,ev,h3,h4.pop.res h4.bl.cell hB HJ.out _ _⟩
 go_enter Tryz.func83,Tryz.ntmps83;go_wp2
 go_step3
 go_wp2
 go_step3
 go_wp2;go_loopw [3,4,12] (fun x3 x4 x12 wr=>∃(p k:Nat) (q:Cf) (AB:Nat) (wv ev:Ao) (wS:Ab),x3=.int .u8 k/\x4=.int .i64 0/\x12=.int .i64 p/\p<=s.size/\k<=6/\Hid (q.st=k)/\Hid (RSZ B R (w0.put w.heap.size 0 0) wr s q AB wv ev wS)/\Hid (goF (Ca s.data.toList) q (s.data.toList.drop p)=G)/\Hid (Cu s q AB p)/\Hid (Nb q p)) (fun _ _ x12 _=>s.size - (intOf x12).toNat)
 case atStart=>exact⟨0,0,q0,start0,wv0,ev0,wS0,rfl,rfl,rfl,Aw _,by omega,HQ,HA,(by show _=_;rw[List.drop_zero];exact HG.out),(fun e=>by have:=HQ.out;omega),HN⟩
 case round=>
  obtain⟨p,k,q,AB,wv,ev,wS,rfl,rfl,rfl,hp,hk6,HK,HRS,HGO,HCU,HNB⟩:=hrel;by_cases hpe:p=s.size
  ·have KE:=Ac (cX B R (w0.put w.heap.size 0 0) wr s q AB wv ev wS k HRS.out (HPP.out _ (Gd HRS.out.bl.cell)) (by omega) HK.out hk6 (fun e=>hpe ▸ HCU.out (.inl e)) HNB.out.ws (by have:=HNB.out.es;omega));have HGX:Hid (MU (Ca s.data.toList) q=G):=(by
    show _=_;rw[<- HGO.out,hpe,NU (by simp)];rfl)
   rw[HGX.out]at KE;have hge:¬ (p:Int)<(s.size:Int):=by omega
   have c0w:=HRS.out.bx.c0;go_wp2_with fail;refine KE.out.mono ?_;rintro e w2 ⟨a,b,rfl,H2⟩;have HFN:=Ac (HEND.out w2 a b H2.out);have k0:=Dh HFN.out.1;have k1:=Ds HFN.out.1;have kf:=Ia HFN.out.1;have kl:=Gd HFN.out.1;have z0:=Dh (Cp HFN.out.1 (.int .i64 a) (.int .i64 b));have z1:=Ds (Cp HFN.out.1 (.int .i64 a) (.int .i64 b));go_wp2_with fail;try rw[CQ]
   refine An (v:=.agg #[.int .i64 a,.int .i64 b]) ?_ rfl ⟨a,b,rfl,HFN.out.2⟩;simp[AJ,DE,go_sem,z0,z1,k0,k1,kl]
  ·have hpl:p<s.size:=by omega
   have hpl':(p:Int)<(s.size:Int):=by omega
   have c0w:=HRS.out.bx.c0;have HD:=Ac (nU s p hpl);have n10:=nbz s[p] 10;simp only[show((10:UInt8).toNat:Int)=10 from rfl]at n10;have K46:=Ac (fun w=>Zf k w);cases hX:Bt q s[p] (s.data.toList.drop (p+1)) with
   |er n=>
    have HX:=Ac hX;have HN0:=Ac (ZF hX);have HGX:Hid (G=.er n q.line):=(by show _=_;rw[<- HGO.out,HD.out,goF,hX]);have hkk:k=0∨k=1∨k=2∨k=3∨k=4∨k=5∨k=6:=by omega
    obtain rfl|rfl|rfl|rfl|rfl|rfl|rfl:=hkk
    focus
     rw[show decide ((0:Nat)=2∨(0:Nat)=4)=false from by decide]at K46;have HSF:Hid (FG q s[p] (s.data.toList.drop (p+1))=Rs.er n):=(by show _=_;have:=HX.out;simpa[Bt,HK.out] using this);by_cases h10:s[p]=10
     focus
      have e10:=bz s[p] 10 h10;have KS:=Ac (Ql B R (w0.put w.heap.size 0 0) wr s q AB wv ev wS p HRS.out hpl (by omega) (by have:=HNB.out.ln;omega) (by have:=HNB.out.op;omega) (by have:=HNB.out.es;omega));rw[HSF.out]at KS;go_wp2_with fail;refine(K46.out _).mono ?_;rintro e w9 ⟨rfl,rfl⟩
     rotate_left
     focus
      have m10:=n10 h10;have KS:=Ac (Ql B R (w0.put w.heap.size 0 0) wr s q AB wv ev wS p HRS.out hpl (by omega) (by have:=HNB.out.ln;omega) (by have:=HNB.out.op;omega) (by have:=HNB.out.es;omega));rw[HSF.out]at KS
     rotate_left
    rotate_left 2
    focus
     rw[show decide ((1:Nat)=2∨(1:Nat)=4)=false from by decide]at K46;have HSF:Hid (Hw q s[p] (s.data.toList.drop (p+1))=Rs.er n):=(by show _=_;have:=HX.out;simpa[Bt,HK.out] using this);by_cases h10:s[p]=10
     focus
      have e10:=bz s[p] 10 h10;have KS:=Ac (Uu B R (w0.put w.heap.size 0 0) wr s q AB wv ev wS p HRS.out (HCU.out (.inl HK.out)) hpl (by omega) (by have:=HNB.out.ln;omega) (by have:=HNB.out.op;omega) (by have:=HNB.out.es;omega) HNB.out.ws);rw[HSF.out]at KS;go_wp2_with fail;refine(K46.out _).mono ?_;rintro e w9 ⟨rfl,rfl⟩
     rotate_left
     focus
      have m10:=n10 h10;have KS:=Ac (Uu B R (w0.put w.heap.size 0 0) wr s q AB wv ev wS p HRS.out (HCU.out (.inl HK.out)) hpl (by omega) (by have:=HNB.out.ln;omega) (by have:=HNB.out.op;omega) (by have:=HNB.out.es;omega) HNB.out.ws);rw[HSF.out]at KS
     rotate_left
    rotate_left 2
    ·rw[show decide ((2:Nat)=2∨(2:Nat)=4)=true from by decide]at K46;by_cases h10:s[p]=10
     ·have e10:=bz s[p] 10 h10;have hn:n=230:=by
       have:=HX.out;simp[Bt,HK.out,h10]at this;exact this.symm
      subst hn;go_wp2_with fail;refine(K46.out _).mono ?_;rintro e w9 ⟨rfl,rfl⟩;have d1:=HRS.out.bx.c1;have HFN:=Ac (HEND.out _ 230 q.line (by rw[HGX.out];exact⟨rfl,rfl,HRS.out.bl⟩));have k0:=Dh HFN.out.1;have k1:=Ds HFN.out.1;have kf:=Ia HFN.out.1;have kl:=Gd HFN.out.1;have z0:=Dh (Cp HFN.out.1 (.int .i64 (230:Nat)) (.int .i64 q.line));have z1:=Ds (Cp HFN.out.1 (.int .i64 (230:Nat)) (.int .i64 q.line));go_wp2_with fail;try rw[CQ]
      refine An (v:=.agg #[.int .i64 (230:Nat),.int .i64 q.line]) ?_ rfl ⟨230,q.line,rfl,HFN.out.2⟩;simp[AJ,DE,go_sem,z0,z1,k0,k1,kl]
     ·exfalso
      have:=HX.out;simp[Bt,HK.out,h10]at this
    ·rw[show decide ((3:Nat)=2∨(3:Nat)=4)=false from by decide]at K46;by_cases h10:s[p]=10
     focus
      have e10:=bz s[p] 10 h10;have hn:n=230:=by
       have:=HX.out;simp[Bt,HK.out,h10]at this;exact this.symm
      subst hn;have d1:=HRS.out.bx.c1;have HFN:=Ac (HEND.out _ 230 q.line (by rw[HGX.out];exact⟨rfl,rfl,HRS.out.bl⟩));have k0:=Dh HFN.out.1;have k1:=Ds HFN.out.1;have kf:=Ia HFN.out.1;have kl:=Gd HFN.out.1;have z0:=Dh (Cp HFN.out.1 (.int .i64 (230:Nat)) (.int .i64 q.line));have z1:=Ds (Cp HFN.out.1 (.int .i64 (230:Nat)) (.int .i64 q.line));go_wp2_with fail;try rw[CQ]
      refine An (v:=.agg #[.int .i64 (230:Nat),.int .i64 q.line]) ?_ rfl ⟨230,q.line,rfl,HFN.out.2⟩
     rotate_left
     focus
      have m10:=n10 h10;have HSF:Hid (Ht q s[p]=Rs.er n):=(by show _=_;have:=HX.out;simpa[Bt,HK.out,h10] using this);have KS:=Ac (lL B R (w0.put w.heap.size 0 0) wr s q AB wv ev wS p HRS.out (HCU.out (.inr (.inr (.inl HK.out)))) hpl (by omega) HNB.out.ws);rw[HSF.out]at KS;go_wp2_with fail;refine KS.out.mono ?_;rintro e w2 ⟨k2,er,rfl,H2⟩;obtain⟨rfl,q2,st2,wv2,ev2,wS2,hl2,r2⟩:=H2.out;have HLN:=Ac hl2;have HR2:=Ac r2;have hn0:¬ (er:Int)=0:=by have:=HN0.out;omega
      have hn1:((er:Int) == 0)=false:=by simpa using hn0
      have d1:=HR2.out.bx.c1;rw[HLN.out]at d1;have HFN:=Ac (HEND.out _ er q.line (by rw[HGX.out];exact⟨rfl,rfl,HR2.out.bl⟩));have k0:=Dh HFN.out.1;have k1:=Ds HFN.out.1;have kf:=Ia HFN.out.1;have kl:=Gd HFN.out.1;have z0:=Dh (Cp HFN.out.1 (.int .i64 (er:Nat)) (.int .i64 q.line));have z1:=Ds (Cp HFN.out.1 (.int .i64 (er:Nat)) (.int .i64 q.line));go_wp2_with fail;try rw[CQ]
      refine An (v:=.agg #[.int .i64 (er:Nat),.int .i64 q.line]) ?_ rfl ⟨er,q.line,rfl,HFN.out.2⟩
     rotate_left
     all_goals
      simp[AJ,DE,go_sem,z0,z1,k0,k1,kl]
    ·rw[show decide ((4:Nat)=2∨(4:Nat)=4)=true from by decide]at K46;by_cases h10:s[p]=10
     ·have e10:=bz s[p] 10 h10;have hn:n=230:=by
       have:=HX.out;simp[Bt,HK.out,h10]at this;exact this.symm
      subst hn;go_wp2_with fail;refine(K46.out _).mono ?_;rintro e w9 ⟨rfl,rfl⟩;have d1:=HRS.out.bx.c1;have HFN:=Ac (HEND.out _ 230 q.line (by rw[HGX.out];exact⟨rfl,rfl,HRS.out.bl⟩));have k0:=Dh HFN.out.1;have k1:=Ds HFN.out.1;have kf:=Ia HFN.out.1;have kl:=Gd HFN.out.1;have z0:=Dh (Cp HFN.out.1 (.int .i64 (230:Nat)) (.int .i64 q.line));have z1:=Ds (Cp HFN.out.1 (.int .i64 (230:Nat)) (.int .i64 q.line));go_wp2_with fail;try rw[CQ]
      refine An (v:=.agg #[.int .i64 (230:Nat),.int .i64 q.line]) ?_ rfl ⟨230,q.line,rfl,HFN.out.2⟩;simp[AJ,DE,go_sem,z0,z1,k0,k1,kl]
     ·exfalso
      have:=HX.out;simp[Bt,HK.out,h10]at this
    ·rw[show decide ((5:Nat)=2∨(5:Nat)=4)=false from by decide]at K46;by_cases h10:s[p]=10
     ·cases hen:DJ s[p] with
      |true=>
       have K50:=Ac (fun w=>JH ((s[p].toNat:Nat):Int) w);have HZ:Hid (Jc ((s[p].toNat:Nat):Int)=DJ s[p]):=FM s[p];rw[HZ.out,hen]at K50;have HSF:Hid (EH q s[p] (s.data.toList.drop (p+1))=Rs.er n):=(by show _=_;have:=HX.out;simpa[Bt,HK.out,hen] using this);have KS:=Ac (FY B R (w0.put w.heap.size 0 0) wr s q AB wv ev wS p HRS.out hpl (by omega) (by have:=HNB.out.ln;omega) (by have:=HNB.out.op;omega) (by have:=HNB.out.es;omega));rw[HSF.out]at KS;have e10:=bz s[p] 10 h10;simp only[e10]at K50;go_wp2_with fail;refine(K46.out _).mono ?_;rintro e w9 ⟨rfl,rfl⟩;go_wp2_with fail;refine(K50.out _).mono ?_;rintro e w8 ⟨rfl,rfl⟩;go_wp2_with fail;refine KS.out.mono ?_;rintro e w2 ⟨k2,er,rfl,H2⟩;obtain⟨rfl,q2,st2,wv2,ev2,wS2,hl2,r2⟩:=H2.out;have HLN:=Ac hl2;have HR2:=Ac r2;have hn0:¬ (er:Int)=0:=by have:=HN0.out;omega
       have hn1:((er:Int) == 0)=false:=by simpa using hn0
       have d1:=HR2.out.bx.c1;rw[HLN.out]at d1;have HFN:=Ac (HEND.out _ er q.line (by rw[HGX.out];exact⟨rfl,rfl,HR2.out.bl⟩));have k0:=Dh HFN.out.1;have k1:=Ds HFN.out.1;have kf:=Ia HFN.out.1;have kl:=Gd HFN.out.1;have z0:=Dh (Cp HFN.out.1 (.int .i64 (er:Nat)) (.int .i64 q.line));have z1:=Ds (Cp HFN.out.1 (.int .i64 (er:Nat)) (.int .i64 q.line));go_wp2_with fail;try rw[CQ]
       refine An (v:=.agg #[.int .i64 (er:Nat),.int .i64 q.line]) ?_ rfl ⟨er,q.line,rfl,HFN.out.2⟩;simp[AJ,DE,go_sem,z0,z1,k0,k1,kl]
      |false=>
       have K50:=Ac (fun w=>JH ((s[p].toNat:Nat):Int) w);have HZ:Hid (Jc ((s[p].toNat:Nat):Int)=DJ s[p]):=FM s[p];rw[HZ.out,hen]at K50;have hn:n=230:=by
        have:=HX.out;simp[Bt,HK.out,hen]at this;exact this.symm
       subst hn;have e10:=bz s[p] 10 h10;simp only[e10]at K50;go_wp2_with fail;refine(K46.out _).mono ?_;rintro e w9 ⟨rfl,rfl⟩;go_wp2_with fail;refine(K50.out _).mono ?_;rintro e w8 ⟨rfl,rfl⟩;have d1:=HRS.out.bx.c1;have HFN:=Ac (HEND.out _ 230 q.line (by rw[HGX.out];exact⟨rfl,rfl,HRS.out.bl⟩));have k0:=Dh HFN.out.1;have k1:=Ds HFN.out.1;have kf:=Ia HFN.out.1;have kl:=Gd HFN.out.1;have z0:=Dh (Cp HFN.out.1 (.int .i64 (230:Nat)) (.int .i64 q.line));have z1:=Ds (Cp HFN.out.1 (.int .i64 (230:Nat)) (.int .i64 q.line));go_wp2_with fail;try rw[CQ]
       refine An (v:=.agg #[.int .i64 (230:Nat),.int .i64 q.line]) ?_ rfl ⟨230,q.line,rfl,HFN.out.2⟩;simp[AJ,DE,go_sem,z0,z1,k0,k1,kl]
     ·cases hen:DJ s[p] with
      |true=>
       have K50:=Ac (fun w=>JH ((s[p].toNat:Nat):Int) w);have HZ:Hid (Jc ((s[p].toNat:Nat):Int)=DJ s[p]):=FM s[p];rw[HZ.out,hen]at K50;have HSF:Hid (EH q s[p] (s.data.toList.drop (p+1))=Rs.er n):=(by show _=_;have:=HX.out;simpa[Bt,HK.out,hen] using this);have KS:=Ac (FY B R (w0.put w.heap.size 0 0) wr s q AB wv ev wS p HRS.out hpl (by omega) (by have:=HNB.out.ln;omega) (by have:=HNB.out.op;omega) (by have:=HNB.out.es;omega));rw[HSF.out]at KS;have m10:=n10 h10;go_wp2_with fail;refine(K50.out _).mono ?_;rintro e w8 ⟨rfl,rfl⟩;go_wp2_with fail;refine KS.out.mono ?_;rintro e w2 ⟨k2,er,rfl,H2⟩;obtain⟨rfl,q2,st2,wv2,ev2,wS2,hl2,r2⟩:=H2.out;have HLN:=Ac hl2;have HR2:=Ac r2;have hn0:¬ (er:Int)=0:=by have:=HN0.out;omega
       have hn1:((er:Int) == 0)=false:=by simpa using hn0
       have d1:=HR2.out.bx.c1;rw[HLN.out]at d1;have HFN:=Ac (HEND.out _ er q.line (by rw[HGX.out];exact⟨rfl,rfl,HR2.out.bl⟩));have k0:=Dh HFN.out.1;have k1:=Ds HFN.out.1;have kf:=Ia HFN.out.1;have kl:=Gd HFN.out.1;have z0:=Dh (Cp HFN.out.1 (.int .i64 (er:Nat)) (.int .i64 q.line));have z1:=Ds (Cp HFN.out.1 (.int .i64 (er:Nat)) (.int .i64 q.line));go_wp2_with fail;try rw[CQ]
       refine An (v:=.agg #[.int .i64 (er:Nat),.int .i64 q.line]) ?_ rfl ⟨er,q.line,rfl,HFN.out.2⟩;simp[AJ,DE,go_sem,z0,z1,k0,k1,kl]
      |false=>
       have K50:=Ac (fun w=>JH ((s[p].toNat:Nat):Int) w);have HZ:Hid (Jc ((s[p].toNat:Nat):Int)=DJ s[p]):=FM s[p];rw[HZ.out,hen]at K50;have hn:n=230:=by
        have:=HX.out;simp[Bt,HK.out,hen]at this;exact this.symm
       subst hn;have m10:=n10 h10;go_wp2_with fail;refine(K50.out _).mono ?_;rintro e w8 ⟨rfl,rfl⟩;have d1:=HRS.out.bx.c1;have HFN:=Ac (HEND.out _ 230 q.line (by rw[HGX.out];exact⟨rfl,rfl,HRS.out.bl⟩));have k0:=Dh HFN.out.1;have k1:=Ds HFN.out.1;have kf:=Ia HFN.out.1;have kl:=Gd HFN.out.1;have z0:=Dh (Cp HFN.out.1 (.int .i64 (230:Nat)) (.int .i64 q.line));have z1:=Ds (Cp HFN.out.1 (.int .i64 (230:Nat)) (.int .i64 q.line));go_wp2_with fail;try rw[CQ]
       refine An (v:=.agg #[.int .i64 (230:Nat),.int .i64 q.line]) ?_ rfl ⟨230,q.line,rfl,HFN.out.2⟩;simp[AJ,DE,go_sem,z0,z1,k0,k1,kl]
    ·rw[show decide ((6:Nat)=2∨(6:Nat)=4)=false from by decide]at K46;by_cases h10:s[p]=10
     ·have e10:=bz s[p] 10 h10;have HSF:Hid (EH q s[p] (s.data.toList.drop (p+1))=Rs.er n):=(by show _=_;have:=HX.out;simpa[Bt,HK.out,h10] using this);have KS:=Ac (FY B R (w0.put w.heap.size 0 0) wr s q AB wv ev wS p HRS.out hpl (by omega) (by have:=HNB.out.ln;omega) (by have:=HNB.out.op;omega) (by have:=HNB.out.es;omega));rw[HSF.out]at KS;go_wp2_with fail;refine(K46.out _).mono ?_;rintro e w9 ⟨rfl,rfl⟩;go_wp2_with fail;refine KS.out.mono ?_;rintro e w2 ⟨k2,er,rfl,H2⟩;obtain⟨rfl,q2,st2,wv2,ev2,wS2,hl2,r2⟩:=H2.out;have HLN:=Ac hl2;have HR2:=Ac r2;have hn0:¬ (er:Int)=0:=by have:=HN0.out;omega
      have hn1:((er:Int) == 0)=false:=by simpa using hn0
      have d1:=HR2.out.bx.c1;rw[HLN.out]at d1;have HFN:=Ac (HEND.out _ er q.line (by rw[HGX.out];exact⟨rfl,rfl,HR2.out.bl⟩));have k0:=Dh HFN.out.1;have k1:=Ds HFN.out.1;have kf:=Ia HFN.out.1;have kl:=Gd HFN.out.1;have z0:=Dh (Cp HFN.out.1 (.int .i64 (er:Nat)) (.int .i64 q.line));have z1:=Ds (Cp HFN.out.1 (.int .i64 (er:Nat)) (.int .i64 q.line));go_wp2_with fail;try rw[CQ]
      refine An (v:=.agg #[.int .i64 (er:Nat),.int .i64 q.line]) ?_ rfl ⟨er,q.line,rfl,HFN.out.2⟩;simp[AJ,DE,go_sem,z0,z1,k0,k1,kl]
     ·exfalso
      have:=HX.out;simp[Bt,HK.out,h10]at this
    all_goals
     go_wp2_with fail;refine KS.out.mono ?_;rintro e w2 ⟨k2,er,rfl,H2⟩;obtain⟨rfl,q2,st2,wv2,ev2,wS2,hl2,r2⟩:=H2.out;have HLN:=Ac hl2;have HR2:=Ac r2;have hn0:¬ (er:Int)=0:=by have:=HN0.out;omega
     have hn1:((er:Int) == 0)=false:=by simpa using hn0
     have d1:=HR2.out.bx.c1;rw[HLN.out]at d1;have HFN:=Ac (HEND.out _ er q.line (by rw[HGX.out];exact⟨rfl,rfl,HR2.out.bl⟩));have k0:=Dh HFN.out.1;have k1:=Ds HFN.out.1;have kf:=Ia HFN.out.1;have kl:=Gd HFN.out.1;have z0:=Dh (Cp HFN.out.1 (.int .i64 (er:Nat)) (.int .i64 q.line));have z1:=Ds (Cp HFN.out.1 (.int .i64 (er:Nat)) (.int .i64 q.line));go_wp2_with fail;try rw[CQ]
     refine An (v:=.agg #[.int .i64 (er:Nat),.int .i64 q.line]) ?_ rfl ⟨er,q.line,rfl,HFN.out.2⟩;simp[AJ,DE,go_sem,z0,z1,k0,k1,kl]
   |ok q'=>
    have HX:=Ac hX;have HNB2:=Ac (HNB.out.step hX);have HGX:Hid (goF (Ca s.data.toList) q' (s.data.toList.drop (p+1))=G):=(by show _=_;rw[<- HGO.out,HD.out,goF,hX]);have hkk:k=0∨k=1∨k=2∨k=3∨k=4∨k=5∨k=6:=by omega
    obtain rfl|rfl|rfl|rfl|rfl|rfl|rfl:=hkk
    focus
     rw[show decide ((0:Nat)=2∨(0:Nat)=4)=false from by decide]at K46;have HSF:Hid (FG q s[p] (s.data.toList.drop (p+1))=Rs.ok q'):=(by show _=_;have:=HX.out;simpa[Bt,HK.out] using this);by_cases h10:s[p]=10
     focus
      have e10:=bz s[p] 10 h10;have KS:=Ac (Ql B R (w0.put w.heap.size 0 0) wr s q AB wv ev wS p HRS.out hpl (by omega) (by have:=HNB.out.ln;omega) (by have:=HNB.out.op;omega) (by have:=HNB.out.es;omega));rw[HSF.out]at KS;go_wp2_with fail;refine(K46.out _).mono ?_;rintro e w9 ⟨rfl,rfl⟩
     rotate_left
     focus
      have m10:=n10 h10;have KS:=Ac (Ql B R (w0.put w.heap.size 0 0) wr s q AB wv ev wS p HRS.out hpl (by omega) (by have:=HNB.out.ln;omega) (by have:=HNB.out.op;omega) (by have:=HNB.out.es;omega));rw[HSF.out]at KS
     rotate_left
    rotate_left 2
    focus
     rw[show decide ((1:Nat)=2∨(1:Nat)=4)=false from by decide]at K46;have HSF:Hid (Hw q s[p] (s.data.toList.drop (p+1))=Rs.ok q'):=(by show _=_;have:=HX.out;simpa[Bt,HK.out] using this);by_cases h10:s[p]=10
     focus
      have e10:=bz s[p] 10 h10;have KS:=Ac (Uu B R (w0.put w.heap.size 0 0) wr s q AB wv ev wS p HRS.out (HCU.out (.inl HK.out)) hpl (by omega) (by have:=HNB.out.ln;omega) (by have:=HNB.out.op;omega) (by have:=HNB.out.es;omega) HNB.out.ws);rw[HSF.out]at KS;go_wp2_with fail;refine(K46.out _).mono ?_;rintro e w9 ⟨rfl,rfl⟩
     rotate_left
     focus
      have m10:=n10 h10;have KS:=Ac (Uu B R (w0.put w.heap.size 0 0) wr s q AB wv ev wS p HRS.out (HCU.out (.inl HK.out)) hpl (by omega) (by have:=HNB.out.ln;omega) (by have:=HNB.out.op;omega) (by have:=HNB.out.es;omega) HNB.out.ws);rw[HSF.out]at KS
     rotate_left
    rotate_left 2
    ·rw[show decide ((2:Nat)=2∨(2:Nat)=4)=true from by decide]at K46;by_cases h10:s[p]=10
     ·exfalso
      have:=HX.out;simp[Bt,HK.out,h10]at this
     ·have m10:=n10 h10;have hq:q'={ q with st:=1,cur:=q.cur++[s[p]] }:=by
       have:=HX.out;simp[Bt,HK.out,h10]at this;exact this.symm
      subst hq;have HR2:=Ac (HRS.out.setQ 1 (q.cur++[s[p]]));have HC2:Hid (Cu s { q with st:=1,cur:=q.cur++[s[p]] } AB (p+1)):=fun _=>(HCU.out (.inr (.inl HK.out))).push hpl 1
      go_wp2_with fail;go_roundw
      case rel=>exact⟨p+1,1,{ q with st:=1,cur:=q.cur++[s[p]] },AB,wv,ev,wS,rfl,rfl,by go_num,by omega,HNB2.out.st,rfl,HR2,HGX,HC2,HNB2⟩
      case measure=>simp[intOf];omega
    ·rw[show decide ((3:Nat)=2∨(3:Nat)=4)=false from by decide]at K46;by_cases h10:s[p]=10
     ·exfalso
      have:=HX.out;simp[Bt,HK.out,h10]at this
     ·have m10:=n10 h10;have HSF:Hid (Ht q s[p]=Rs.ok q'):=(by show _=_;have:=HX.out;simpa[Bt,HK.out,h10] using this);have KS:=Ac (lL B R (w0.put w.heap.size 0 0) wr s q AB wv ev wS p HRS.out (HCU.out (.inr (.inr (.inl HK.out)))) hpl (by omega) HNB.out.ws);rw[HSF.out]at KS;go_wp2_with fail;refine KS.out.mono ?_;rintro e w2 ⟨k2,er,rfl,H2⟩;obtain⟨rfl,rfl,st2,wv2,ev2,wS2,r2,cu2⟩:=H2.out;have HR2:=Ac r2;have HC2:=Ac cu2;go_wp2_with fail;go_roundw
      case rel=>exact⟨p+1,q'.st,q',st2,wv2,ev2,wS2,rfl,rfl,by go_num,by omega,HNB2.out.st,rfl,HR2,HGX,HC2,HNB2⟩
      case measure=>simp[intOf];omega
    ·rw[show decide ((4:Nat)=2∨(4:Nat)=4)=true from by decide]at K46;by_cases h10:s[p]=10
     ·exfalso
      have:=HX.out;simp[Bt,HK.out,h10]at this
     ·have m10:=n10 h10;have hq:q'={ q with st:=3,cur:=q.cur++[s[p]] }:=by
       have:=HX.out;simp[Bt,HK.out,h10]at this;exact this.symm
      subst hq;have HR2:=Ac (HRS.out.setQ 3 (q.cur++[s[p]]));have HC2:Hid (Cu s { q with st:=3,cur:=q.cur++[s[p]] } AB (p+1)):=fun _=>(HCU.out (.inr (.inr (.inr HK.out)))).push hpl 3
      go_wp2_with fail;go_roundw
      case rel=>exact⟨p+1,3,{ q with st:=3,cur:=q.cur++[s[p]] },AB,wv,ev,wS,rfl,rfl,by go_num,by omega,HNB2.out.st,rfl,HR2,HGX,HC2,HNB2⟩
      case measure=>simp[intOf];omega
    ·rw[show decide ((5:Nat)=2∨(5:Nat)=4)=false from by decide]at K46;by_cases h10:s[p]=10
     ·cases hen:DJ s[p] with
      |true=>
       have K50:=Ac (fun w=>JH ((s[p].toNat:Nat):Int) w);have HZ:Hid (Jc ((s[p].toNat:Nat):Int)=DJ s[p]):=FM s[p];rw[HZ.out,hen]at K50;have HSF:Hid (EH q s[p] (s.data.toList.drop (p+1))=Rs.ok q'):=(by show _=_;have:=HX.out;simpa[Bt,HK.out,hen] using this);have KS:=Ac (FY B R (w0.put w.heap.size 0 0) wr s q AB wv ev wS p HRS.out hpl (by omega) (by have:=HNB.out.ln;omega) (by have:=HNB.out.op;omega) (by have:=HNB.out.es;omega));rw[HSF.out]at KS;have e10:=bz s[p] 10 h10;simp only[e10]at K50;go_wp2_with fail;refine(K46.out _).mono ?_;rintro e w9 ⟨rfl,rfl⟩;go_wp2_with fail;refine(K50.out _).mono ?_;rintro e w8 ⟨rfl,rfl⟩;go_wp2_with fail;refine KS.out.mono ?_;rintro e w2 ⟨k2,er,rfl,H2⟩;obtain⟨rfl,rfl,st2,wv2,ev2,wS2,r2,cu2⟩:=H2.out;have HR2:=Ac r2;have HC2:=Ac cu2;go_wp2_with fail;go_roundw
       case rel=>exact⟨p+1,q'.st,q',st2,wv2,ev2,wS2,rfl,rfl,by go_num,by omega,HNB2.out.st,rfl,HR2,HGX,HC2,HNB2⟩
       case measure=>simp[intOf];omega
      |false=>
       have K50:=Ac (fun w=>JH ((s[p].toNat:Nat):Int) w);have HZ:Hid (Jc ((s[p].toNat:Nat):Int)=DJ s[p]):=FM s[p];rw[HZ.out,hen]at K50;exfalso
       have:=HX.out;simp[Bt,HK.out,hen]at this
     ·cases hen:DJ s[p] with
      |true=>
       have K50:=Ac (fun w=>JH ((s[p].toNat:Nat):Int) w);have HZ:Hid (Jc ((s[p].toNat:Nat):Int)=DJ s[p]):=FM s[p];rw[HZ.out,hen]at K50;have HSF:Hid (EH q s[p] (s.data.toList.drop (p+1))=Rs.ok q'):=(by show _=_;have:=HX.out;simpa[Bt,HK.out,hen] using this);have KS:=Ac (FY B R (w0.put w.heap.size 0 0) wr s q AB wv ev wS p HRS.out hpl (by omega) (by have:=HNB.out.ln;omega) (by have:=HNB.out.op;omega) (by have:=HNB.out.es;omega));rw[HSF.out]at KS;have m10:=n10 h10;go_wp2_with fail;refine(K50.out _).mono ?_;rintro e w8 ⟨rfl,rfl⟩;go_wp2_with fail;refine KS.out.mono ?_;rintro e w2 ⟨k2,er,rfl,H2⟩;obtain⟨rfl,rfl,st2,wv2,ev2,wS2,r2,cu2⟩:=H2.out;have HR2:=Ac r2;have HC2:=Ac cu2;go_wp2_with fail;go_roundw
       case rel=>exact⟨p+1,q'.st,q',st2,wv2,ev2,wS2,rfl,rfl,by go_num,by omega,HNB2.out.st,rfl,HR2,HGX,HC2,HNB2⟩
       case measure=>simp[intOf];omega
      |false=>
       have K50:=Ac (fun w=>JH ((s[p].toNat:Nat):Int) w);have HZ:Hid (Jc ((s[p].toNat:Nat):Int)=DJ s[p]):=FM s[p];rw[HZ.out,hen]at K50;exfalso
       have:=HX.out;simp[Bt,HK.out,hen]at this
    ·rw[show decide ((6:Nat)=2∨(6:Nat)=4)=false from by decide]at K46;by_cases h10:s[p]=10
     ·have e10:=bz s[p] 10 h10;have HSF:Hid (EH q s[p] (s.data.toList.drop (p+1))=Rs.ok q'):=(by show _=_;have:=HX.out;simpa[Bt,HK.out,h10] using this);have KS:=Ac (FY B R (w0.put w.heap.size 0 0) wr s q AB wv ev wS p HRS.out hpl (by omega) (by have:=HNB.out.ln;omega) (by have:=HNB.out.op;omega) (by have:=HNB.out.es;omega));rw[HSF.out]at KS;go_wp2_with fail;refine(K46.out _).mono ?_;rintro e w9 ⟨rfl,rfl⟩;go_wp2_with fail;refine KS.out.mono ?_;rintro e w2 ⟨k2,er,rfl,H2⟩;obtain⟨rfl,rfl,st2,wv2,ev2,wS2,r2,cu2⟩:=H2.out;have HR2:=Ac r2;have HC2:=Ac cu2;go_wp2_with fail;go_roundw
      case rel=>exact⟨p+1,q'.st,q',st2,wv2,ev2,wS2,rfl,rfl,by go_num,by omega,HNB2.out.st,rfl,HR2,HGX,HC2,HNB2⟩
      case measure=>simp[intOf];omega
     ·have m10:=n10 h10;have hq:q'=q:=by
       have:=HX.out;simp[Bt,HK.out,h10]at this;exact this.symm
      subst hq;have HC2:Hid (Cu s q' AB (p+1)):=fun e=>by have:=HK.out;omega
      go_wp2_with fail;go_roundw
      case rel=>exact⟨p+1,6,_,AB,wv,ev,wS,rfl,rfl,by go_num,by omega,by omega,HK,HRS,HGX,HC2,HNB2⟩
      case measure=>simp[intOf];omega
    all_goals
     go_wp2_with fail;refine KS.out.mono ?_;rintro e w2 ⟨k2,er,rfl,H2⟩;obtain⟨rfl,rfl,st2,wv2,ev2,wS2,r2,cu2⟩:=H2.out;have HR2:=Ac r2;have HC2:=Ac cu2;go_wp2_with fail;go_roundw
     case rel=>exact⟨p+1,q'.st,q',st2,wv2,ev2,wS2,rfl,rfl,by go_num,by omega,HNB2.out.st,rfl,HR2,HGX,HC2,HNB2⟩
     case measure=>simp[intOf];omega
def EnQ(B:Nat)(w0:Ab)(v:Ao)(a b:Nat)(w':Ab):Rt->Prop
 | .er e l=>v=.slice none 0 0/\a=e/\b=l/\Below B w0 w'
 | .ok es=>a=0/\b=0/\OwE B w' v es/\Below B w0 w'
def EnP(w0:Ab)(r:Rt)(e:Ending)(w':Ab):Prop:=
 ∃v,∃a b:Nat,e=.returned (.tuple #[v,.agg #[.int .i64 a,.int .i64 b]])/\Hid (EnQ w0.heap.size w0 v a b w' r)
theorem Rg(s:ByteArray)(w:Ab)(hs:65536<s.size):Ag Aa 47 #[.string s] w (EnP w (Fa s.data.toList)):=by
 have hs':(65536:Int)<(s.size:Int):=by omega
 have hl:s.data.toList.length=s.size:=by simp
 have HX:Hid (Fa s.data.toList=.er 3 0):=(by show _=_;simp only[Fa,hl,if_pos hs]);rw[HX.out];clear HX hl;go_enter Tryz.func47,Tryz.ntmps47;go_wp2_with fail;refine An (v:=.tuple #[.slice none 0 0,.agg #[.int .i64 3,.int .i64 0]]) ?_ rfl ⟨_,3,0,rfl,rfl,rfl,rfl,(Ae _ _).alloc (Ad _) _⟩;simp[AJ,Tryz.results47,go_sem]
def qz:Cf:=⟨0,1,0,[],0,false,[],[]⟩
theorem sW(w:Ab)(s:ByteArray):RC w.heap.size (w.heap.size+1) ⟨w,[(w.heap.size,0,0)]⟩ ((w.alloc (.cells #[.int .i64 0,.int .i64 0] 50)).alloc (.cells #[.string s,.int .i64 1,.int .i64 0,.int .i64 0,.int .i64 0,.bool false,.slice none 0 0,.slice none 0 0] 122)) s qz 0 (.slice none 0 0) (.slice none 0 0):=by
 have h1:=Au (w.alloc (.cells #[.int .i64 0,.int .i64 0] 50)) (.cells #[.string s,.int .i64 1,.int .i64 0,.int .i64 0,.int .i64 0,.bool false,.slice none 0 0,.slice none 0 0] 122);refine⟨?_,OwE.nil _ _,by omega,?_,?_⟩
 ·simpa[Bx,qz] using h1
 ·exact((Ae _ _).alloc (Ad _) _).alloc (by simp) _
 ·intro j hj;simp only[Bc]at hj;subst hj;rw[(BS (w.alloc (.cells #[.int .i64 0,.int .i64 0] 50)) _).block w.heap.size (by simp)];exact Au w _
theorem UE(s:ByteArray)(w:Ab)(hs:s.size<=65536):Ag Aa 47 #[.string s] w (EnP w (Fa s.data.toList)):=by
 have hs':¬ (65536:Int)<(s.size:Int):=by omega
 have hl:s.data.toList.length=s.size:=by simp
 have HX:Hid (Fa s.data.toList=goF (Ca s.data.toList) (q0 s.data.toList) s.data.toList):=(by show _=_;simp only[Fa,hl];rw[if_neg (by omega)]);rw[HX.out];have KB:=Ac (Zx w.heap.size (w.heap.size+1) ⟨w,[(w.heap.size,0,0)]⟩ _ s qz 0 _ _ 0 (sW w s) (by omega));generalize hG:goF (Ca s.data.toList) (q0 s.data.toList) s.data.toList=G at*;have KR:Hid (∀W wv ev wS,RSZ w.heap.size (w.heap.size+1) ⟨w,[(w.heap.size,0,0)]⟩ W s (q0 s.data.toList) 0 wv ev wS->Ag Aa 83 #[.pointer (some ⟨w.heap.size+1,0,none⟩)] W (FnP w.heap.size (w.heap.size+1) ⟨w,[(w.heap.size,0,0)]⟩ s G)):=by subst hG;exact fun W wv ev wS hW=>wH _ _ _ W s _ 0 wv ev wS hW (fun p hp=>by simp only[Bc]at hp;subst hp;have:=hW.bx.lt;simp only;omega) (by omega) rfl ⟨by simp[q0],by simp[q0],by simp[q0],by simp[q0],by simp[q0]⟩
 have HE:Hid (∀e l,G=.er e l->e=230∨e=3):=by subst hG;exact fun e l h=>(Yp (by rw[hl];exact hs) (HX.out.trans h)).1
 clear hG;clear HX hl;go_enter Tryz.func47,Tryz.ntmps47;go_wp2_with fail;refine KB.out.mono ?_;rintro e w1 ⟨rfl,H1⟩;obtain⟨wS,hrs⟩:=H1.out;have HRS:Hid (RSZ w.heap.size (w.heap.size+1) ⟨w,[(w.heap.size,0,0)]⟩ w1 s (q0 s.data.toList) 0 (.slice none 0 0) (.slice none 0 0) wS):=(by show _;rw[List.drop_zero]at hrs;exact hrs);clear H1 hrs KB;go_wp2_with fail;refine(KR.out _ _ _ _ HRS.out).mono ?_;rintro e w2 ⟨a,b,rfl,H2⟩;cases G with
 |er e l=>
  obtain⟨rfl,rfl,hfr⟩:=H2.out;have HF:=Ac hfr;have hJ:=hfr.2 (w.heap.size,0,0) (by simp);have hJ2:(w2.alloc (.cells #[.int .i64 a,.int .i64 b] 50)).heap[w.heap.size]?=some (.cells #[.int .i64 0,.int .i64 0] 50 (0,0)):=((BS w2 _).block w.heap.size (Gd hJ)).trans hJ;have n0:¬ (a:Int)=0:=by have:=HE.out a b rfl;omega
  have n1:((a:Int) == 0)=false:=by simpa using n0
  have k0:=Dh hJ2;have k1:=Ds hJ2;have kf:=Ia hJ2;have kl:=Gd hJ2;have z0:=Dh (Cp hJ2 (.int .i64 a) (.int .i64 b));have z1:=Ds (Cp hJ2 (.int .i64 a) (.int .i64 b));have HFI:Hid (Blw w (((w2.alloc (.cells #[.int .i64 a,.int .i64 b] 50)).setCell ⟨w.heap.size,0,none⟩ (.int .i64 a)).setCell ⟨w.heap.size,1,none⟩ (.int .i64 b)).drew):=((((HF.out.1.alloc HF.out.1.size _)).setCell (p:=⟨w.heap.size,0,none⟩) (Ad _) _).setCell (p:=⟨w.heap.size,1,none⟩) (Ad _) _).drew;clear H2 hfr hJ hJ2;go_wp2_with fail
  go_region_law (fail)
  all_goals
   go_wp2_with fail;refine An (v:=.tuple #[.slice none 0 0,.agg #[.int .i64 a,.int .i64 b]]) ?_ rfl ⟨_,a,b,rfl,rfl,rfl,rfl,HFI.out⟩;simp[AJ,Tryz.results47,go_sem,z0,z1,k0,k1,kl]
 |ok es=>
  obtain⟨rfl,rfl,q,st,wv,ev,hq,hrc⟩:=H2.out;have hJ:=hrc.bl.2 (w.heap.size,0,0) (by simp);have hJ2:(w2.alloc (.cells #[.int .i64 0,.int .i64 0] 50)).heap[w.heap.size]?=some (.cells #[.int .i64 0,.int .i64 0] 50 (0,0)):=((BS w2 _).block w.heap.size (Gd hJ)).trans hJ;have r7:(w2.alloc (.cells #[.int .i64 0,.int .i64 0] 50)).cell? ⟨w.heap.size+1,7,none⟩=some ev:=((BS w2 _).cell (p:=⟨w.heap.size+1,7,none⟩) hrc.bx.lt).trans hrc.bx.c7;have k0:=Dh hJ2;have k1:=Ds hJ2;have kf:=Ia hJ2;have kl:=Gd hJ2;have z0:=Dh (Cp hJ2 (.int .i64 0) (.int .i64 0));have z1:=Ds (Cp hJ2 (.int .i64 0) (.int .i64 0));have HOW:Hid (OwE w.heap.size (((w2.alloc (.cells #[.int .i64 0,.int .i64 0] 50)).setCell ⟨w.heap.size,0,none⟩ (.int .i64 0)).setCell ⟨w.heap.size,1,none⟩ (.int .i64 0)) ev es):=(by
   show OwE _ _ _ _;have h1:OwE w.heap.size (w2.alloc (.cells #[.int .i64 0,.int .i64 0] 50)) ev es:=by rw[<- hq];exact hrc.ow.stays (BS w2 _)
   refine h1.go (by simp) (fun k _ hk=>?_);have hne:k≠w.heap.size:=fun e=>by
    obtain⟨c,t,a1,a2⟩:=hk;rw[e,hJ2]at a1;cases a1;simp at a2
   rw[Ar _ _ _ _ hne,Ar _ _ _ _ hne])
  have HFI:Hid (Blw w (((w2.alloc (.cells #[.int .i64 0,.int .i64 0] 50)).setCell ⟨w.heap.size,0,none⟩ (.int .i64 0)).setCell ⟨w.heap.size,1,none⟩ (.int .i64 0))):=((hrc.bl.1.alloc hrc.bl.1.size _).setCell (p:=⟨w.heap.size,0,none⟩) (Ad _) _).setCell (p:=⟨w.heap.size,1,none⟩) (Ad _) _;clear H2 hrc hJ hJ2 hq;go_wp2_with fail;refine An (v:=.tuple #[ev,.agg #[.int .i64 0,.int .i64 0]]) ?_ rfl ⟨_,0,0,rfl,rfl,rfl,HOW.out,HFI.out⟩;simp[AJ,Tryz.results47,go_sem,z0,z1,k0,k1,kl]
theorem aE(s:ByteArray)(w:Ab):Ag Aa 47 #[.string s] w (EnP w (Fa s.data.toList)):=by
 by_cases h:s.size<=65536
 ·exact UE s w h
 ·exact Rg s w (by omega)
def Xq(l:List Int):List Int:=l.takeWhile CN
def VI(l:List Int):List Int:=l.dropWhile CN
def GM(l:List Int):Option Nat:=FN l 2147483648
def cS:List Int:=[119,100,104,109,115]
def Xt:List Nat:=[604800,86400,3600,60,1]
def plF(c:Int):List Int->Option Nat
 |[]=>none
 |a::r=>if a=c then some 0 else(plF c r).map (·+1)
def Nz:Nat->List Int->Nat->Nat->Option (Nat × Nat)
 |k,[],frm,all=>some (frm,all)
 |0,_::_,_,_=>none
 |k+1,a::s,frm,all=>
  (GM (Xq (a::s))).bind fun n=>match VI (a::s) with
   |[]=>none
   |c::t=>(plF c (cS.drop frm)).bind fun p=>Nz k t (frm+p+1) (all+n*Xt.getD (frm+p) 0)
def Jr(s:ByteArray):Option Nat:=
 match GM (Ai s) with
 |some n=>some n
 |none=>(Nz 6 (Ai (EK s)) 0 0).bind fun p=>if 0<p.1/\p.2<2147483648 then some p.2 else none
structure Cy where
 og:List ByteArray
 ow:List ByteArray
 cl:Nat
 df:Nat
 tt:Nat
 ho:Bool
 hc:Bool
 ht:Bool
 sd:Bool
structure Rec where
 ow:List ByteArray
 t:Nat
 cl:Nat
 tt:Nat
 d:Dat
def Hs(e:En):ByteArray:=if e.blank then⟨#[]⟩ else match e.ws with
 |(s,false)::_=>s
 |_=>⟨#[]⟩
def IC:ByteArray:=⟨#[36,111,114,105,103,105,110]⟩
def XM:ByteArray:=⟨#[36,116,116,108]⟩
def Ns(e:En):Nat:=if EK (Hs e)=IC then 1 else if EK (Hs e)=XM then 2 else 0
def FF(e:En):Bool:=(Ai (Hs e)).head? == some 36
def ER(e:En)(c:Cy):List ByteArray × List Wd × Int:=
 if e.blank then(if c.ho then(c.ow,e.ws,0) else([],[],9)) else match e.ws with
  |(s,false)::r=>((Di s c.og).1,r,(Di s c.og).2)
  |_=>([],[],240)
def isT(s:ByteArray):Bool:=match Ai s with
 |[]=>false
 |c::_=>CN c
def tyF(s:ByteArray):Option Nat:=Fo Fj FW.data.toList 65536 (up s).data.toList
def clF(s:ByteArray):Option Nat:=Fo CO Cm.data.toList 65536 (up s).data.toList
def isC(s:ByteArray):Bool:=(clF s).isSome && (tyF s).isNone
structure Say where
 k:Nat
 c:Nat
 t:Nat
 hk:Bool
 hc:Bool
 ht:Bool
def EG:Say:=⟨0,0,0,false,false,false⟩
def tkF(y:Say)(w:Wd):Except Int Say:=
 if w.2=true then .error 240
 else if (y.ht && isT w.1)=true then .error 240
 else if (y.hc && isC w.1)=true then .error 240
 else if isT w.1=true then(match Jr w.1 with|some n=>.ok { y with t:=n,ht:=true }|none=>.error 240)
 else if isC w.1=true then(match clF w.1 with|some n=>.ok { y with c:=n,hc:=true }|none=>.error 6)
 else match tyF w.1 with|some n=>(if DP n then .ok { y with k:=n,hk:=true } else .error 6)|none=>.error 6
def Ej(y:Say):List Wd->Except Int (Say × List Wd)
 |[]=>.error 240
 |w::r=>match tkF y w with
  | .error e=>.error e
  | .ok y'=>if y'.hk then .ok (y',r) else Ej y' r
def tmF(y:Say)(d:Dat)(c:Cy):Option (Nat × Cy):=
 if y.ht then some (y.t,{ c with tt:=y.t,ht:=true })
 else if c.sd then some (c.df,c)
 else if c.ht then some (c.tt,c)
 else if y.k=6/\d.us.getD 4 0<2147483648 then some (d.us.getD 4 0,{ c with tt:=d.us.getD 4 0,ht:=true })
 else none
def csF(y:Say)(c:Cy):Nat:=if y.hc then y.c else if c.hc then c.cl else 1
def Ig(e:En)(c:Cy):Except Int (Rec × Cy):=
 if e.ws=[]∨FF e=true then .error 240
 else if (ER e c).2.2≠0 then .error (ER e c).2.2
 else match Ej EG (ER e c).2.1 with
  | .error er=>.error er
  | .ok (y,r)=>match Jq y.k c.og r with
   |none=>.error 7
   |some d=>match tmF y d c with
    |none=>.error 9
    |some (n,c')=>.ok (⟨(ER e c).1,y.k,csF y c',n,d⟩,{ c' with ow:=(ER e c).1,ho:=true,cl:=csF y c',hc:=true })
def Ih(k:Nat)(ws:List Wd)(c:Cy):Except Int Cy:=
 match ws with
 |[(s,false)]=>if k=1 then(if (Di s c.og).2=0 then .ok { c with og:=(Di s c.og).1 } else .error (Di s c.og).2)
   else(match Jr s with|some n=>.ok { c with df:=n,sd:=true }|none=>.error 240)
 |_=>.error 240
def LH(e:En)(c:Cy)(rs:List Rec):Except Int (Cy × List Rec):=
 if Ns e=0 then(match Ig e c with
  | .error er=>.error er
  | .ok (r,c')=>if rs.length=2048 then .error 3 else .ok (c',rs++[r]))
 else(match Ih (Ns e) e.ws.tail c with
  | .error er=>.error er
  | .ok c'=>.ok (c',rs))
inductive Ra where
 |er (e:Int) (line:Int)
 |ok (rs:List Rec)
def Jp:List En->Cy->List Rec->Ra
 |[],_,rs=>.ok rs
 |e::es,c,rs=>match LH e c rs with
  | .error er=>.er er e.line
  | .ok (c',rs')=>Jp es c' rs'
def cy0(og:List ByteArray):Cy:=⟨og,[],0,0,0,false,false,false,false⟩
def Mc(s:ByteArray)(og:List ByteArray):Ra:=
 if nck og=0 then(match Fa s.data.toList with
  | .er e l=>.er e l
  | .ok es=>Jp es (cy0 og) [])
 else .er (nck og) 0
theorem gC(s:ByteArray):s.data.toList=txt (Ai s):=by
 have:=congrArg (fun b:ByteArray=>b.data.toList) (Ey s);simpa using this.symm
theorem Yn{s:ByteArray}{l:List Int}(h:Ai s=l):s.data.toList=txt l:=by rw[gC,h]
theorem ZI(a b:List Int):txt (a++b)=txt a++txt b:=by simp[txt]
theorem oP:∀n:Fin 256,bwS false (txt (tx1 (n.val:Int)))=true/\(txt (tx1 (n.val:Int))).length ≥ 1/\(∀c,(txt (tx1 (n.val:Int))).head?=some c->c≠36/\c≠46/\c≠64):=by
 have h:∀n:Fin 256,(bwS false (txt (tx1 (n.val:Int))) && (decide ((txt (tx1 (n.val:Int))).length ≥ 1)) && (match (txt (tx1 (n.val:Int))).head? with|none=>false|some c=>c != 36 && c != 46 && c != 64))=true:=by decide +kernel
 intro n;have:=h n;simp only[AA,decide_eq_true_eq]at this;refine⟨this.1.1,this.1.2,fun c hc=>?_⟩;have h2:=this.2;rw[hc]at h2;simp at h2;exact⟨h2.1.1,h2.1.2,h2.2⟩
theorem eK{c:Int}(h:0<=c/\c<=255):bwS false (txt (tx1 c))=true/\(txt (tx1 c)).length ≥ 1/\(∀x,(txt (tx1 c)).head?=some x->x≠36/\x≠46/\x≠64):=by
 have:=oP ⟨c.toNat,by omega⟩;simp only at this;rw[show((c.toNat:Nat):Int)=c by omega]at this;exact this
theorem Zm:∀l:List Int,(∀z∈l,0<=z/\z<=255)->bwS false (txt (tx l))=true
 |[],_=>rfl
 |c::l,h=>by
  have e:txt (tx (c::l))=txt (tx1 c)++txt (tx l):=by simp[tx,txt]
  rw[e,NF _ _ _ (eK (h c (by simp))).1];exact Zm l (fun z hz=>h z (by simp[hz]))
theorem ZL:∀l:List ByteArray,bwS false (txt (ET l))=true
 |[]=>rfl
 |s::l=>by
  have e:txt (ET (s::l))=txt (tx (Ai s))++(46::txt (ET l)):=by simp[ET,txt]
  rw[e,NF _ _ _ (Zm _ (CY s))];show bwS false ([46]++txt (ET l))=true;rw[NF [46] _ _ (by decide)];exact ZL l
def EL:List ByteArray->List Int
 |[]=>[]
 |[s]=>tx (Ai s)
 |s::t::r=>tx (Ai s)++(46::EL (t::r))
theorem No:∀l:List ByteArray,l≠[]->ET l=EL l++[46]
 |[],h=>absurd rfl h
 |[s],_=>by simp[ET,EL]
 |s::t::r,_=>by
  have:=No (t::r) (by simp);have e:ET (s::t::r)=tx (Ai s)++[46]++ET (t::r):=by simp[ET]
  rw[e,this];simp[EL]
theorem VM:∀l:List ByteArray,bwS false (txt (EL l))=true
 |[]=>rfl
 |[s]=>Zm _ (CY s)
 |s::t::r=>by
  have e:txt (EL (s::t::r))=txt (tx (Ai s))++(46::txt (EL (t::r))):=by simp[EL,txt]
  rw[e,NF _ _ _ (Zm _ (CY s))];show bwS false ([46]++txt (EL (t::r)))=true;rw[NF [46] _ _ (by decide)];exact VM (t::r)
theorem uN{s:ByteArray}(h:chk s.size=0):∃c l,Ai s=c::l/\0<=c/\c<=255:=by
 have hs:=Lb h;have hl:=Av s;cases hn:Ai s with
 |nil=>rw[hn]at hl;simp at hl;omega
 |cons c l=>exact⟨c,l,rfl,CY s c (by rw[hn];simp)⟩
theorem rI{s:ByteArray}(h:chk s.size=0)(R:List UInt8):∃x r,txt (tx (Ai s))++R=x::r/\x≠36/\x≠46/\x≠64:=by
 obtain⟨c,l,e,hc⟩:=uN h;have h1:=eK hc;have e1:txt (tx (Ai s))=txt (tx1 c)++txt (tx l):=by rw[e];simp[tx,txt]
 cases ht:txt (tx1 c) with
 |nil=>rw[ht]at h1;simp at h1
 |cons x r=>
  have:=h1.2.2 x (by rw[ht];rfl);exact⟨x,r++txt (tx l)++R,by rw[e1,ht];simp,this⟩
theorem GV{l:List ByteArray}(h:l≠[])(hok:Ex l):∃x r,txt (EL l)=x::r/\x≠36/\x≠46/\x≠64:=by
 obtain⟨s,t,rfl⟩:=LB h;have hs:=hok s (by simp);cases t with
 |nil=>
  have:=rI hs [];simpa[EL] using this
 |cons t r=>
  have e:txt (EL (s::t::r))=txt (tx (Ai s))++(46::txt (EL (t::r))):=by simp[EL,txt]
  rw[e];exact rI hs _
theorem SJ:∀(ss:List ByteArray) (out:List ByteArray),ss≠[]->Ex ss->lgo (EL ss) out=(out++ss,false,0)
 |[],_,h,_=>absurd rfl h
 |[s],out,_,hok=>by
  have hs:=Lb (hok s (by simp));have hp:=UK (Ai s) [] (CY s) (.inl rfl) (by rw[Av];exact hs);rw[List.append_nil]at hp;have hlb:lb (Ai s)=s:=Ey s;show lgo (tx (Ai s)) out=_;rw[lgo,hp];simp[hlb]
 |s::t::r,out,_,hok=>by
  have hs:=Lb (hok s (by simp));have hf:EL (s::t::r)=tx (Ai s)++(46::EL (t::r)):=rfl;have hp:=UK (Ai s) (46::EL (t::r)) (CY s) (.inr ⟨_,rfl⟩) (by rw[Av];exact hs);rw[<- hf]at hp;have hd:(EL (s::t::r)).drop ((tx (Ai s)).length+1)=EL (t::r):=by
   rw[hf,Pu,DH (by omega),NS];rfl
  have hlb:lb (Ai s)=s:=Ey s;rw[lgo,hp];simp only[if_true,BM,hd,hlb];rw[if_neg (by rw[hf,Af];simp;omega)];have hok':Ex (t::r):=fun x hx=>hok x (by simp[hx])
  have hne:¬ (EL (t::r)).length=0:=by
   obtain⟨x,q,e,_⟩:=GV (l:=t::r) (by simp) hok';have:=congrArg FH e;rw[II]at this;rw[this];simp
  rw[dif_neg hne,SJ (t::r) (out++[s]) (by simp) hok'];simp
def JK(ss:List ByteArray):ByteArray:=⟨(txt (EL ss)).toArray⟩
theorem Vg:∀l:List ByteArray,∀z∈EL l,0<=z/\z<=255
 |[],z,h=>by cases h
 |[s],z,h=>YY _ (CY s) z h
 |s::t::r,z,h=>by
  obtain h|h:=AG.1 (show z∈tx (Ai s)++(46::EL (t::r)) from h)
  ·exact YY _ (CY s) z h
  ·obtain rfl|h:=Ax.1 h
   ·omega
   ·exact Vg (t::r) z h
theorem bT(ss:List ByteArray):Ai (JK ss)=EL ss:=IQ _ (Vg ss)
theorem Oj(ss:List ByteArray)(h:nck ss=0)(h0:ss≠[]):(AN ss).1=JK ss++⟨#[46]⟩:=by
 have e:(AN ss).1=Kb ss:=by
  unfold AN;rw[if_pos h,if_neg (fun e=>h0 (AC e))]
 rw[e];apply sL
 rw[Da,Da,Yn (FZ ss),No ss h0,ZI];simp[JK,txt]
theorem oL{ow og:List ByteArray}(h:nck ow=0)(h0:ow≠[])(hg:nck og=0):Di (JK ow) og=GK ow og:=by
 have hok:=(BI h).2;obtain⟨x,r,e,hx⟩:=GV h0 hok;have e2:(JK ow).toList=x::r:=by rw[Da];simpa[JK] using e
 unfold Di;rw[if_pos hg,if_neg (by rw[e2];intro q;injection q with q;exact hx.2.2 q),if_neg (by rw[e2];intro q;injection q with q;exact hx.2.1 q)];simp only[bT,SJ ow [] h0 hok,AQ,if_true,Bi,if_false]
theorem JV{ss:List ByteArray}(h:nck ss=0):CM ((AN ss).1,false)=true:=by
 have hok:=(BI h).2;by_cases h0:ss=[]
 ·subst h0;decide +kernel
 ·have e:(AN ss).1.data.toList=txt (ET ss):=by
   have:(AN ss).1=Kb ss:=by
    unfold AN;rw[if_pos h,if_neg (fun e=>h0 (AC e))]
   rw[this,Yn (FZ ss)]
  unfold CM;simp only[Bi,if_false];rw[e,ZL,No ss h0];obtain⟨x,r,e,_⟩:=GV h0 hok;rw[ZI,e]
  rfl
theorem kP{ss:List ByteArray}(h:nck ss=0)(h0:ss≠[]):CM (JK ss,false)=true:=by
 obtain⟨x,r,e,_⟩:=GV h0 (BI h).2;unfold CM;simp only[Bi,if_false];have e2:(JK ss).data.toList=txt (EL ss):=by simp[JK]
 rw[e2,VM,e]
 rfl
theorem jN{s:ByteArray}{og:List ByteArray}{es:List En}{out:List Rec}(h1:nck og=0)(h2:Fa s.data.toList=.ok es)(h3:Jp es (cy0 og) []=.ok out):Mc s og=.ok out:=by
 unfold Mc;rw[if_pos h1,h2];exact h3
theorem wE{y:Say}{d:Dat}{c c':Cy}{n:Nat}(h:tmF y d c=some (n,c')):c'.og=c.og:=by
 unfold tmF at h;split at h
 ·cases h;rfl
 ·split at h
  ·cases h;rfl
  ·split at h
   ·cases h;rfl
   ·split at h
    ·cases h;rfl
    ·cases h
theorem aN(n:Nat):∃c l,DR n=c::l/\CN c=true:=by
 induction n using FI with
 |ind n ih=>
  by_cases h:n<10
  ·rw[DC h];refine⟨_,_,rfl,?_⟩;unfold CN;simp;omega
  ·rw[Gm h];obtain⟨c,l,e,hc⟩:=ih (n / 10) (by omega);rw[e];exact⟨c,_,rfl,hc⟩
theorem QP{l:List Int}{n:Nat}(h:GM l=some n):∃c r,l=c::r/\CN c=true:=by
 obtain⟨c,r,e,hc⟩:=aN n;exact⟨c,r,by rw[<- e];exact(Fy h).1,hc⟩
theorem mQ{s:ByteArray}{n:Nat}(h:Jr s=some n):isT s=true:=by
 have key:∃c r,Ai s=c::r/\CN c=true:=by
  unfold Jr at h;cases h1:GM (Ai s) with
  |some m=>exact QP h1
  |none=>
   rw[h1]at h;simp only at h;cases h2:Nz 6 (Ai (EK s)) 0 0 with
   |none=>rw[h2]at h;cases h
   |some p=>
    rw[h2]at h;rw[Se]at h2;cases hn:Ai s with
    |nil=>
     rw[hn]at h2;simp only[Df,Nz]at h2;cases h2;simp at h
    |cons a t=>
     rw[hn,Bh]at h2;unfold Nz at h2;cases h3:GM (Xq (fz a::t.map fz)) with
     |none=>rw[h3]at h2;cases h2
     |some m=>
      obtain⟨c,r,e,hc⟩:=QP h3;refine⟨a,t,rfl,?_⟩;unfold Xq at e;rw[List.takeWhile_cons]at e;split at e
      ·rename_i h4
       unfold CN fz at h4;unfold CN;split at h4
       ·simp at h4;omega
       ·exact h4
      ·cases e
 obtain⟨c,r,e,hc⟩:=key;unfold isT;rw[e];exact hc
theorem pO{s:ByteArray}(h:(Ai s).head?≠some 36):EK s≠IC/\EK s≠XM:=by
 have key:∀b:ByteArray,(Ai b).head?=some 36->EK s≠b:=by
  intro b hb e;rw[<- e,Se]at hb;cases hn:Ai s with
  |nil=>rw[hn]at hb;cases hb
  |cons c l=>
   rw[hn]at hb h;simp only[Bh,List.head?_cons,Iq]at hb;apply h
   simp only[List.head?_cons,Iq];unfold fz at hb;split at hb <;> omega
 exact⟨key _ (by decide),key _ (by decide)⟩
def OX(o:ByteArray)(own:List ByteArray):En:=⟨1,false,[(o,false),((AN own).1,false)]⟩
theorem oS{o:ByteArray}(ho:EK o=IC){own:List ByteArray}{c:Cy}(rs:List Rec)(l:Int)(h:nck own=0)(hc:nck c.og=0):LH ⟨l,false,(OX o own).ws⟩ c rs=.ok ({ c with og:=own },rs):=by
 have h1:Ns ⟨l,false,(OX o own).ws⟩=1:=by
  show(if EK o=IC then 1 else if EK o=XM then 2 else 0)=1;rw[if_pos ho]
 unfold LH;rw[h1,if_neg (by decide)];show(match Ih 1 [((AN own).1,false)] c with | .error er=>_ | .ok c'=>_)=_;have h2:Ih 1 [((AN own).1,false)] c=.ok { c with og:=own }:=by
  unfold Ih;simp only[if_true,Oy own c.og h hc]
 rw[h2]
theorem vH{o:ByteArray}(ho:CM (o,false)=true){own:List ByteArray}(h:nck own=0):okE (OX o own):=
 ⟨by simp[OX],by simp[OX],fun w hw=>by
  obtain rfl|hw:=Ax.1 hw
  ·exact ho
  ·rw[Bc]at hw;subst hw;exact JV h⟩
theorem mC(o:ByteArray)(own:List ByteArray):Jb (OX o own)=o.data.toList++(32::((AN own).1.data.toList++[10])):=by
 unfold Jb OX;simp only[Bi,if_false,AQ];show(GH (o,false)++32::GH ((AN own).1,false))++[10]=_;simp[GH]
theorem Tr{s:ByteArray}{x:UInt8}{r:List UInt8}(h:s.data.toList=x::r)(hx:x≠36):(Ai s).head?≠some 36:=by
 unfold Ai;rw[h];simp only[Bh,List.head?_cons,ne_eq,Iq];intro e;apply hx
 apply UInt8.toNat_inj.1
 show x.toNat=36;omega
theorem jU{ow:List ByteArray}(h:nck ow=0)(h0:ow≠[]):(Ai (JK ow)).head?≠some 36:=by
 obtain⟨x,r,e,hx⟩:=GV h0 (BI h).2;exact Tr (s:=JK ow) (x:=x) (r:=r) (by simpa[JK] using e) hx.1
theorem SX{ow:List ByteArray}(h:nck ow=0)(h0:ow≠[]):(Ai (AN ow).1).head?≠some 36:=by
 obtain⟨x,r,e,hx⟩:=GV h0 (BI h).2;refine Tr (x:=x) (r:=r++[46]) ?_ hx.1;rw[Oj ow h h0];have:(JK ow).data.toList=x::r:=by simpa[JK] using e
 simp[this]
theorem MH{ss:List ByteArray}(h:nck ss=0):(AN ss).1.size<=1020:=by
 unfold AN;rw[if_pos h];split
 ·decide
 ·have h1:=Pe ss ss.length (Ad _);rw[List.take_length]at h1;have:=(BI h).1;show(Kb ss).size<=1020;omega
end Go.Proofs.YtoppdmlmhigogaaGreatDoor
namespace Go.Proofs.YtoppdmlmhigogaaGreatDoor
def shF(n og:List ByteArray):ByteArray:=
 if n=og then⟨#[64]⟩
 else if og=[]∨n.length<og.length∨n.drop (n.length - og.length)≠og then(AN n).1
 else JK (n.take (n.length - og.length))
theorem tF(og:List ByteArray)(h:nck og=0):Di ⟨#[64]⟩ og=(og,0):=by
 unfold Di;rw[if_pos h,if_pos (by rw[Da])]
theorem sX{n og:List ByteArray}(hn:nck n=0)(hg:nck og=0):Di (shF n og) og=(n,0):=by
 unfold shF;split
 ·rename_i e;rw[tF og hg,e]
 ·rename_i hne
  split
  ·exact Oy n og hn hg
  ·rename_i h
   simp only[not_or,Cw]at h;obtain⟨h1,h2,h3⟩:=h;have hn2:n.take (n.length - og.length)++og=n:=by
    conv=>rhs;rw[<- BE (n.length - og.length) n,h3]
   have h0:n.take (n.length - og.length)≠[]:=fun e=>hne (by rw[e]at hn2;exact hn2.symm)
   rw[oL (Hu n _ hn) h0 hg];unfold GK;rw[if_pos (Hu n _ hn),if_pos hg,hn2,if_pos hn]
theorem YF{ss:List ByteArray}(h:nck ss=0)(h0:ss≠[]):(AN ss).1=Kb ss:=by
 unfold AN;rw[if_pos h,if_neg (fun e=>h0 (AC e))]
theorem Vm{ss:List ByteArray}(h:nck ss=0):1<=(AN ss).1.size:=by
 cases ss with
 |nil=>unfold AN;rw[if_pos h];exact Ad _
 |cons a r=>
  rw[Oj _ h (by simp),Lu];exact Nat.le_add_left _ _
theorem Vn(a b:List ByteArray):ET (a++b)=ET a++ET b:=by simp[ET]
theorem Zd(l:List ByteArray):(Kb l).size=(ET l).length:=by
 rw[<- FZ,Av]
theorem uG{n og:List ByteArray}(hn:nck n=0)(hg:nck og=0):(shF n og).size<=(AN n).1.size:=by
 unfold shF;split
 ·exact Vm hn
 ·rename_i hne
  split
  ·exact Ad _
  ·rename_i h
   simp only[not_or,Cw]at h;obtain⟨h1,h2,h3⟩:=h;have hn2:n.take (n.length - og.length)++og=n:=by
    conv=>rhs;rw[<- BE (n.length - og.length) n,h3]
   have h0:n.take (n.length - og.length)≠[]:=fun e=>hne (by rw[e]at hn2;exact hn2.symm)
   have hn0:n≠[]:=fun e=>by rw[e]at h0;simp at h0
   have e1:=congrArg LM (Oj _ (Hu n (n.length - og.length) hn) h0);rw[YF (Hu n _ hn) h0,Zd,Lu]at e1;have e2:(ET n).length=(ET (n.take (n.length - og.length))).length+(ET og).length:=by
    conv=>lhs;rw[<- hn2,Vn]
    simp
   rw[YF hn hn0,Zd];have e3:(⟨#[46]⟩:ByteArray).size=1:=rfl;omega
theorem nN{n og:List ByteArray}(hn:nck n=0)(hg:nck og=0):CM (shF n og,false)=true:=by
 unfold shF;split
 ·decide
 ·rename_i hne
  split
  ·exact JV hn
  ·rename_i h
   simp only[not_or,Cw]at h;obtain⟨h1,h2,h3⟩:=h;have h0:n.take (n.length - og.length)≠[]:=fun e=>hne (by
    have hn2:n.take (n.length - og.length)++og=n:=by
     conv=>rhs;rw[<- BE (n.length - og.length) n,h3]
    rw[e]at hn2;exact hn2.symm)
   exact kP (Hu n _ hn) h0
structure Pw where
 tw:ByteArray
 cw:ByteArray
 yw:ByteArray
 dw:List Wd
structure PW(r:Rec)(p:Pw):Prop where
 o:nck r.ow=0
 t1:isT p.tw=true
 t2:Jr p.tw=some r.tt
 c1:isT p.cw=false
 c2:isC p.cw=true
 c3:clF p.cw=some r.cl
 y1:isT p.yw=false
 y2:isC p.yw=false
 y3:tyF p.yw=some r.t
 y4:DP r.t=true
 d:∀og,nck og=0->Jq r.t og p.dw=some r.d
 gt:CM (p.tw,false)=true
 gc:CM (p.cw,false)=true
 gy:CM (p.yw,false)=true
 gd:∀w∈p.dw,CM w=true
 n:p.dw.length<=60
theorem jM{r:Rec}{p:Pw}(h:PW r p):Ej EG ((p.tw,false)::(p.cw,false)::(p.yw,false)::p.dw)=.ok (⟨r.t,r.cl,r.tt,true,true,true⟩,p.dw):=by
 simp[Ej,tkF,EG,h.t1,h.t2,h.c1,h.c2,h.c3,h.y1,h.y2,h.y3,h.y4]
theorem iR{r:Rec}{p:Pw}(h:PW r p):Ej EG ((p.tw,false)::(p.yw,false)::p.dw)=.ok (⟨r.t,0,r.tt,true,false,true⟩,p.dw):=by
 simp[Ej,tkF,EG,h.t1,h.t2,h.y1,h.y2,h.y3,h.y4]
def GG(blank:Bool)(s:ByteArray)(cls:Bool)(p:Pw):En:=⟨1,blank,(if blank then[] else[(s,false)])++(p.tw,false)::((if cls then[(p.cw,false)] else[])++(p.yw,false)::p.dw)⟩
theorem TQ{r:Rec}{p:Pw}(h:PW r p){blank cls:Bool}{s:ByteArray}(hs:CM (s,false)=true):okE (GG blank s cls p):=by
 refine⟨by unfold GG;cases blank <;> simp,?_,?_⟩
 ·have:=h.n;unfold GG;cases blank <;> cases cls <;> simp <;> omega
 ·intro w hw;unfold GG at hw;simp only[AG,Ax]at hw;obtain hw|rfl|hw|rfl|hw:=hw
  ·cases blank with
   |true=>cases hw
   |false=>simp at hw;subst hw;exact hs
  ·exact h.gt
  ·cases cls with
   |true=>simp at hw;subst hw;exact h.gc
   |false=>cases hw
  ·exact h.gy
  ·exact h.gd w hw
def vM(q:Option (List ByteArray × Nat))(c:Cy):Prop:=match q with
 |none=>c.hc=false
 |some q=>c.ho=true/\c.ow=q.1/\c.hc=true/\c.cl=q.2
theorem tX{r:Rec}{p:Pw}(h:PW r p)(cls:Bool):Ej EG ((p.tw,false)::((if cls then[(p.cw,false)] else[])++(p.yw,false)::p.dw))=.ok (⟨r.t,if cls then r.cl else 0,r.tt,true,cls,true⟩,p.dw):=by
 cases cls with
 |true=>simpa using jM h
 |false=>simpa using iR h
theorem xL{r:Rec}{p:Pw}(h:PW r p){blank cls:Bool}{s:ByteArray}{c:Cy}(l:Int)(hc:nck c.og=0)(h1:blank=true->c.ho=true/\c.ow=r.ow)(h2:blank=false->Di s c.og=(r.ow,0)/\(Ai s).head?≠some 36)(h3:cls=false->(if c.hc then c.cl else 1)=r.cl) :
  ∃c',Ig ⟨l,blank,(GG blank s cls p).ws⟩ c=.ok (r,c')/\c'.og=c.og/\vM (some (r.ow,r.cl)) c':=by
 have hm:FF ⟨l,blank,(GG blank s cls p).ws⟩=false:=by
  unfold FF Hs GG;cases blank with
  |true=>rfl
  |false=>
   have:=(h2 rfl).2;simpa using this
 have ho:ER ⟨l,blank,(GG blank s cls p).ws⟩ c=(r.ow,(p.tw,false)::((if cls then[(p.cw,false)] else[])++(p.yw,false)::p.dw),0):=by
  cases blank with
  |true=>
   have⟨a1,a2⟩:=h1 rfl;unfold ER GG;simp[a1,a2]
  |false=>
   have a:=(h2 rfl).1;show((Di s c.og).1,_,(Di s c.og).2)=_;rw[a]
   rfl
 unfold Ig;rw[if_neg (by
  rintro(e|e)
  ·unfold GG at e;cases blank <;> simp at e
  ·rw[hm]at e;cases e),ho]
 simp only[ne_eq,not_true_eq_false,if_false,tX h,h.d c.og hc];have e1:tmF ⟨r.t,if cls then r.cl else 0,r.tt,true,cls,true⟩ r.d c=some (r.tt,{ c with tt:=r.tt,ht:=true }):=by unfold tmF;rfl
 rw[e1];have e2:csF ⟨r.t,if cls then r.cl else 0,r.tt,true,cls,true⟩ { c with tt:=r.tt,ht:=true }=r.cl:=by
  unfold csF;cases cls with
  |true=>rfl
  |false=>simpa using h3 rfl
 refine⟨{ c with tt:=r.tt,ht:=true,ow:=r.ow,ho:=true,cl:=r.cl,hc:=true },?_,rfl,rfl,rfl,rfl,rfl⟩;simp only[e2]
theorem sG{r:Rec}{p:Pw}(h:PW r p){blank cls:Bool}{s:ByteArray}{c:Cy}(l:Int)(rs:List Rec)(hn:rs.length<2048)(hc:nck c.og=0)(h1:blank=true->c.ho=true/\c.ow=r.ow)(h2:blank=false->Di s c.og=(r.ow,0)/\(Ai s).head?≠some 36)(h3:cls=false->(if c.hc then c.cl else 1)=r.cl) :
  ∃c',LH ⟨l,blank,(GG blank s cls p).ws⟩ c rs=.ok (c',rs++[r])/\c'.og=c.og/\vM (some (r.ow,r.cl)) c':=by
 obtain⟨c',e1,e2,e3⟩:=xL h l hc h1 h2 h3;have hcm:Ns ⟨l,blank,(GG blank s cls p).ws⟩=0:=by
  have hh:(Ai (Hs ⟨l,blank,(GG blank s cls p).ws⟩)).head?≠some 36:=by
   unfold Hs GG;cases blank with
   |true=>simp[Ai]
   |false=>exact(h2 rfl).2
  have h4:=pO hh;unfold Ns;rw[if_neg h4.1,if_neg h4.2]
 refine⟨c',?_,e2,e3⟩;unfold LH;rw[if_pos hcm,e1];simp only;rw[if_neg (by omega)]
def Qd:Option (List ByteArray × Nat)->Rec->Bool
 |none,_=>false
 |some q,r=>decide (q.1=r.ow)
def Oh:Option (List ByteArray × Nat)->Rec->Bool
 |none,r=>decide (r.cl≠1)
 |some q,r=>decide (q.2≠r.cl)
def JU(og:List ByteArray):Option (List ByteArray × Nat)->List (Rec × Pw)->List En
 |_,[]=>[]
 |q,x::l=>GG (Qd q x.1) (shF x.1.ow og) (Oh q x.1) x.2::JU og (some (x.1.ow,x.1.cl)) l
theorem oD{n og:List ByteArray}(hn:nck n=0):(Ai (shF n og)).head?≠some 36:=by
 unfold shF;split
 ·decide
 ·rename_i hne
  have ht:(Ai (AN n).1).head?≠some 36:=by
   by_cases h0:n=[]
   ·subst h0;have:(AN []).1=⟨#[46]⟩:=by unfold AN;rw[if_pos hn];rfl
    rw[this];decide
   ·exact SX hn h0
  split
  ·exact ht
  ·rename_i h
   simp only[not_or,Cw]at h;obtain⟨h1,h2,h3⟩:=h;have h0:n.take (n.length - og.length)≠[]:=fun e=>hne (by
    have hn2:n.take (n.length - og.length)++og=n:=by
     conv=>rhs;rw[<- BE (n.length - og.length) n,h3]
    rw[e]at hn2;exact hn2.symm)
   exact jU (Hu n _ hn) h0
theorem Vi(og:List ByteArray)(hg:nck og=0):∀(l:List (Rec × Pw)) (q:Option (List ByteArray × Nat)),(∀x∈l,PW x.1 x.2)->∀e∈JU og q l,okE e
 |[],_,_,e,he=>by cases he
 |x::l,q,h,e,he=>by
  unfold JU at he;obtain rfl|he:=Ax.1 he
  ·exact TQ (h x (by simp)) (nN (h x (by simp)).o hg)
  ·exact Vi og hg l _ (fun y hy=>h y (by simp[hy])) e he
theorem rZ(og:List ByteArray)(hg:nck og=0):∀(l:List (Rec × Pw)) (q:Option (List ByteArray × Nat)) (c:Cy) (rs:List Rec) (n:Nat),(∀x∈l,PW x.1 x.2)->c.og=og->vM q c->rs.length+l.length<=2048->
  Jp (Hm n (JU og q l)) c rs=.ok (rs++l.map (·.1))
 |[],_,c,rs,n,_,_,_,_=>by simp[JU,Hm,Jp]
 |x::l,q,c,rs,n,h,hog,hq,hn=>by
  have hx:=h x (by simp);simp only[AP]at hn
  have hst:=sG hx (blank:=Qd q x.1) (cls:=Oh q x.1) (s:=shF x.1.ow og) (c:=c) (n:Int) rs (by omega) (by rw[hog];exact hg)
   (by
    cases q with
    |none=>intro e;cases e
    |some q=>intro e;simp only[Qd,decide_eq_true_eq]at e;exact⟨hq.1,hq.2.1.trans e⟩)
   (fun _=>⟨by rw[hog];exact sX hx.o hg,oD hx.o⟩)
   (by
    cases q with
    |none=>
     intro e;simp only[Oh,decide_eq_false_iff_not,ne_eq,Cw]at e;have h1:c.hc=false:=hq;rw[h1];simp[e]
    |some q=>
     intro e;simp only[Oh,decide_eq_false_iff_not,ne_eq,Cw]at e;rw[hq.2.2.1];simp only[if_true];exact hq.2.2.2.trans e)
  obtain⟨c',e1,e2,e3⟩:=hst;unfold JU Hm Jp;have e1':LH ⟨(n:Int),(GG (Qd q x.1) (shF x.1.ow og) (Oh q x.1) x.2).blank,(GG (Qd q x.1) (shF x.1.ow og) (Oh q x.1) x.2).ws⟩ c rs=.ok (c',rs++[x.1]):=e1;rw[e1'];simp only;rw[rZ og hg l _ c' (rs++[x.1]) (n+1) (fun y hy=>h y (by simp[hy])) (e2.trans hog) e3 (by simp;omega)];simp
def TT:ByteArray:=⟨#[36,79,82,73,71,73,78]⟩
theorem kT:EK TT=IC:=by kernel_rfl
theorem hU:CM (TT,false)=true:=by decide +kernel
theorem cE{og other:List ByteArray}{l:List (Rec × Pw)}{t:ByteArray}(hg:nck og=0)(ho:nck other=0)(h:∀x∈l,PW x.1 x.2)(hn:l.length<=2048)(ht:t.data.toList=GL (OX TT og::JU og none l))(hs:t.size<=65536):Mc t other=.ok (l.map (·.1)):=by
 have hok:∀e∈OX TT og::JU og none l,okE e:=by
  intro e he;obtain rfl|he:=Ax.1 he
  ·exact vH hU hg
  ·exact Vi og hg l none h e he
 have he:=SV _ hok (by rw[<- ht];simpa using hs);refine jN ho (by rw[ht];exact he) ?_;unfold Hm Jp;have e1:LH ⟨((1:Nat):Int),(OX TT og).blank,(OX TT og).ws⟩ (cy0 other) []=.ok ({ cy0 other with og:=og },[]):=oS kT [] (1:Nat) hg (c:=cy0 other) ho;rw[e1];simp only;have e2:=rZ og hg l none { cy0 other with og:=og } [] 2 h rfl (show(cy0 other).hc=false from rfl) (by simpa using hn);exact e2
theorem jZ{other:List ByteArray}{r:Rec}{p:Pw}{t:ByteArray}(ho:nck other=0)(h:PW r p)(ht:t.data.toList=Jb (GG false (AN r.ow).1 true p))(hs:t.size<=65536):Mc t other=.ok [r]:=by
 have hok:∀e∈[GG false (AN r.ow).1 true p],okE e:=by
  intro e he;rw[Bc]at he;subst he;exact TQ h (JV h.o)
 have hj:t.data.toList=GL [GG false (AN r.ow).1 true p]:=by rw[ht];simp[GL]
 have he:=SV _ hok (by rw[<- hj];simpa using hs);refine jN ho (by rw[hj];exact he) ?_;have hd:(Ai (AN r.ow).1).head?≠some 36:=by
  by_cases h0:r.ow=[]
  ·rw[h0];have:(AN []).1=⟨#[46]⟩:=by unfold AN;rw[if_pos (by rw[<- h0];exact h.o)];rfl
   rw[this];decide
  ·exact SX h.o h0
 obtain⟨c',e1,_,_⟩:=sG h (blank:=false) (cls:=true) (s:=(AN r.ow).1) (c:=cy0 other) (1:Nat) [] (by simp) ho (fun e=>by cases e) (fun _=>⟨Oy r.ow other h.o ho,hd⟩) (fun e=>by cases e);unfold Hm Jp;have e1':LH ⟨((1:Nat):Int),(GG false (AN r.ow).1 true p).blank,(GG false (AN r.ow).1 true p).ws⟩ (cy0 other) []=.ok (c',[]++[r]):=e1;rw[e1']
 rfl
end Go.Proofs.YtoppdmlmhigogaaGreatDoor
namespace Go.Proofs.YtoppdmlmhigogaaGreatDoor
open Go.Lib
def ub4(b:UInt8):UInt8:=CS (uz (b.toNat:Int)).toNat
theorem kH(l:List UInt8):(up ⟨l.toArray⟩).data.toList=l.map ub4:=by
 simp only[up,Ai,txt,Fq]
 rfl
def gb4(b:UInt8):Bool:=(decide (48<=b.toNat) && decide (b.toNat<=57)) || (decide (65<=b.toNat) && decide (b.toNat<=90))
theorem sZ:∀n:Fin 256,gb4 (CS n.val)=true->ub4 (CS n.val)=CS n.val/\(CS n.val).toNat<128:=by decide +kernel
theorem xH(b:UInt8)(h:gb4 b=true):ub4 b=b/\b.toNat<128:=by
 have:=sZ ⟨b.toNat,b.toNat_lt⟩;simp only[UInt8.ofNat_toNat]at this;exact this h
def GB4(l:List UInt8):Prop:=∀b∈l,gb4 b=true
theorem GB4.up{l:List UInt8}(h:GB4 l):l.map ub4=l:=by
 conv=>rhs;rw[<- List.map_id l]
 exact ED fun b hb=>(xH b (h b hb)).1
structure Rv(ps:GE)(pre:List UInt8):Prop where
 gp:GB4 pre
 gw:∀p∈ps,GB4 p.1
 one:∀p∈ps,ps.find? (fun q=>q.1 == p.1)=some p
 no:∀p∈ps,pre.isPrefixOf p.1=false
 len:pre.length<=100/\∀p∈ps,p.1.length<=100
theorem TU{ps:GE}{pre:List UInt8}(h:Rv ps pre)(n:Nat):GB4 (Fc ps pre n):=by
 unfold Fc;split
 ·rename_i p hf
  exact h.gw p (EE hf)
 ·intro b hb;simp only[AG]at hb;obtain hb|hb:=hb
  ·exact h.gp b hb
  ·have:=Pi n b hb;simp[gb4,this]
theorem UX{ps:GE}{pre:List UInt8}(h:Rv ps pre)(n:Nat)(hn:n<65536):(Fc ps pre n).length<=200:=by
 unfold Fc;split
 ·rename_i p hf
  have:=h.len.2 p (EE hf);omega
 ·have:=h.len.1;have:=Ol n (by omega);simp;omega
theorem cT(ps:GE)(pre:List UInt8)(below:Nat)(s:List UInt8)(p:List UInt8 × Nat)(h:ps.find? (fun p=>p.1 == s)=some p)(hb:p.2<below):Fo ps pre below s=some p.2:=by
 unfold Fo Qb;rw[h];exact OB _ _ hb
theorem SK(ps:GE)(pre:List UInt8)(below:Nat)(l:List UInt8)(h:ps.find? (fun p=>p.1 == pre++l)=none):Fo ps pre below (pre++l)=NW l below:=by
 unfold Fo Qb;rw[h];simp
theorem XY(ps:GE)(pre:List UInt8)(below:Nat)(s:List UInt8)(h:ps.find? (fun p=>p.1 == s)=none)(hp:pre.isPrefixOf s=false):Fo ps pre below s=none:=by
 unfold Fo Qb;rw[h];simp[hp]
theorem kW{ps:GE}{pre:List UInt8}(h:(ps.all fun p=>!pre.isPrefixOf p.1)=true)(l:List UInt8):ps.find? (fun p=>p.1 == pre++l)=none:=by
 refine List.find?_eq_none.2 fun p hp he=>?_
 have e:=eq_of_beq he;have:=AO.1 h p hp;rw[e,List.isPrefixOf_iff_prefix.2 (List.prefix_append _ _)]at this;cases this
theorem TA{ps:GE}{pre:List UInt8}(h:Rv ps pre)(n below:Nat)(hn:n<below):Fo ps pre below (Fc ps pre n)=some n:=by
 cases hf:ps.find? (fun p=>p.2 == n) with
 |some p=>
  rw[SL _ _ _ p hf];have hp:=EE hf;have e:p.2=n:=by simpa using List.find?_some hf
  rw[cT ps pre below p.1 p (h.one p hp) (by omega),e]
 |none=>
  rw[Tb _ _ _ hf,SK]
  ·exact OB n below hn
  ·refine List.find?_eq_none.2 fun p hp he=>?_
   have e:=eq_of_beq he;have:=h.no p hp;rw[e,List.isPrefixOf_iff_prefix.2 (List.prefix_append _ _)]at this;cases this
theorem kg{ps:GE}{pre:List UInt8}(h1:pre.all gb4=true)(h2:(ps.all fun p=>p.1.all gb4)=true)(h3:(ps.all fun p=>decide (ps.find? (fun q=>q.1 == p.1)=some p))=true)(h4:(ps.all fun p=>!pre.isPrefixOf p.1)=true)(h5:(decide (pre.length<=100) && ps.all fun p=>decide (p.1.length<=100))=true):Rv ps pre:=by
 simp only[AO,decide_eq_true_eq,Mv,AA]at*;exact⟨h1,h2,h3,h4,h5⟩
theorem NA:Rv Fj FW.data.toList:=kg (by decide +kernel) (by decide +kernel) (by decide +kernel) (by decide +kernel) (by decide +kernel)
theorem IJ:Rv CO Cm.data.toList:=kg (by decide +kernel) (by decide +kernel) (by decide +kernel) (by decide +kernel) (by decide +kernel)
theorem nF{ps:GE}{pre:List UInt8}(h:Rv ps pre)(n below:Nat)(hn:n<below):Fo ps pre below (up ⟨(Fc ps pre n).toArray⟩).data.toList=some n:=by
 rw[kH,(TU h n).up];exact TA h n below hn
def tlT(n:Nat):ByteArray:=⟨(Bl n).toArray⟩
def tyW(n:Nat):ByteArray:=⟨(Fc Fj FW.data.toList n).toArray⟩
def clT(n:Nat):ByteArray:=if n=255 then⟨(Cm.data.toList++Bl 255).toArray⟩ else⟨(Fc CO Cm.data.toList n).toArray⟩
theorem YM(n:Nat)(h:n<2147483648):Jr (tlT n)=some n:=by
 unfold Jr;have e:Ai (tlT n)=DR n:=by unfold tlT;rw[Xo,Pa]
 rw[e];unfold GM;rw[LU n _ h]
theorem lO(n:Nat)(h:n<65536):tyF (tyW n)=some n:=nF NA n 65536 h
theorem mY(n:Nat)(h:n<65536):isC (tyW n)=false:=by unfold isC;rw[lO n h];simp
theorem XX(l:List UInt8)(c:UInt8)(r:List UInt8)(h:l=c::r)(hc:65<=c.toNat):isT ⟨l.toArray⟩=false:=by
 subst h;unfold isT;have e:Ai ⟨(c::r).toArray⟩=(c.toNat:Int)::(r.map fun b=>(b.toNat:Int)):=by simp[Ai]
 rw[e];simp only[CN];simp;omega
theorem JC{ps:GE}{pre:List UInt8}(h1:(ps.all fun p=>match p.1 with|[]=>false|c::_=>decide (65<=c.toNat))=true)(h2:(match pre with|[]=>false|c::_=>decide (65<=c.toNat))=true)(n:Nat):∃c r,Fc ps pre n=c::r/\65<=c.toNat:=by
 unfold Fc;split
 ·rename_i p hf
  have:=AO.1 h1 p (EE hf);cases hp:p.1 with
  |nil=>rw[hp]at this;cases this
  |cons c r=>rw[hp]at this;exact⟨c,r,rfl,by simpa using this⟩
 ·cases pre with
  |nil=>cases h2
  |cons c r=>exact⟨c,r++Bl n,rfl,by simpa using h2⟩
theorem lY(n:Nat):isT (tyW n)=false:=by
 obtain⟨c,r,e,h⟩:=JC (ps:=Fj) (pre:=FW.data.toList) (by decide +kernel) (by decide +kernel) n;exact XX _ c r e h
theorem qN(n:Nat):isT (clT n)=false:=by
 unfold clT;split
 ·exact XX _ 67 ([76,65,83,83]++Bl 255) rfl (by decide)
 ·obtain⟨c,r,e,h⟩:=JC (ps:=CO) (pre:=Cm.data.toList) (by decide +kernel) (by decide +kernel) n;exact XX _ c r e h
theorem XQ(n:Nat):GB4 (Bl n):=fun b hb=>by
 have:=Pi n b hb;simp[gb4,this]
theorem WX(n:Nat):GB4 (clT n).data.toList:=by
 unfold clT;split
 ·intro b hb;have hb2:b∈Cm.data.toList++Bl 255:=hb;obtain hb|hb:=AG.1 hb2
  ·exact IJ.gp b hb
  ·exact XQ 255 b hb
 ·exact TU IJ n
theorem rK{s:ByteArray}(h:GB4 s.data.toList):(up s).data.toList=s.data.toList:=by
 have:=kH s.data.toList;rw[h.up]at this;exact this
theorem eJ(n:Nat)(h:n<65536):clF (clT n)=some n:=by
 unfold clF;rw[rK (WX n)];unfold clT;split
 ·rename_i e
  show Fo CO Cm.data.toList 65536 (Cm.data.toList++Bl 255)=_;rw[SK _ _ _ _ (kW (by decide +kernel) _),e];exact OB 255 65536 (by omega)
 ·exact TA IJ n 65536 h
theorem dU(l:List UInt8):Fo Fj FW.data.toList 65536 (Cm.data.toList++l)=none:=
 XY _ _ _ _ (kW (by decide +kernel) l) (by rfl)
theorem vL:∀p∈CO,p.2≠255->Fo Fj FW.data.toList 65536 p.1=none:=by decide +kernel
theorem uR(n:Nat):tyF (clT n)=none:=by
 unfold tyF;rw[rK (WX n)];unfold clT;split
 ·exact dU _
 ·rename_i hn
  show Fo Fj FW.data.toList 65536 (Fc CO Cm.data.toList n)=none;cases hf:CO.find? (fun p=>p.2 == n) with
  |some p=>
   rw[SL _ _ _ p hf];exact vL p (EE hf) (by
    have:p.2=n:=by simpa using List.find?_some hf
    rw[this];exact hn)
  |none=>rw[Tb _ _ _ hf];exact dU _
theorem nT(n:Nat)(h:n<65536):isC (clT n)=true:=by
 unfold isC;rw[eJ n h,uR n]
 rfl
theorem fM:∀n:Fin 256,gb4 (CS n.val)=true->DJ (CS n.val)=false/\CS n.val≠92/\CS n.val≠34:=by decide +kernel
theorem rJ:∀l:List UInt8,GB4 l->bwS false l=true
 |[],_=>rfl
 |c::r,h=>by
  have h1:=fM ⟨c.toNat,c.toNat_lt⟩;simp only[UInt8.ofNat_toNat]at h1;obtain⟨a1,a2,a3⟩:=h1 (h c (by simp));unfold bwS;rw[if_neg a2,a1,rJ r (fun b hb=>h b (by simp[hb]))];simp[a3]
theorem Qy{s:ByteArray}(h:GB4 s.data.toList)(h0:s.data.toList≠[]):CM (s,false)=true:=by
 unfold CM;simp only[Bi,if_false,rJ _ h,Bool.and_true];cases hs:s.data.toList with
 |nil=>exact absurd hs h0
 |cons c r=>rfl
theorem eD(n:Nat):CM (tlT n,false)=true:=Qy (XQ n) (QL n)
theorem kA(n:Nat):CM (tyW n,false)=true:=Qy (TU NA n) (by
 obtain⟨c,r,e,_⟩:=JC (ps:=Fj) (pre:=FW.data.toList) (by decide +kernel) (by decide +kernel) n;show Fc Fj FW.data.toList n≠[];rw[e];simp)
theorem jD(n:Nat):CM (clT n,false)=true:=Qy (WX n) (by
 unfold clT;split
 ·show Cm.data.toList++Bl 255≠[];exact fun e=>QL 255 (IA.1 e).2
 ·obtain⟨c,r,e,_⟩:=JC (ps:=CO) (pre:=Cm.data.toList) (by decide +kernel) (by decide +kernel) n;show Fc CO Cm.data.toList n≠[];rw[e];simp)
theorem iD{r:Rec}{dw:List Wd}(ho:nck r.ow=0)(ht:r.t<65536)(hs:DP r.t=true)(hc:r.cl<65536)(hl:r.tt<2147483648)(hd:∀og,nck og=0->Jq r.t og dw=some r.d)(hg:∀w∈dw,CM w=true)(hn:dw.length<=60):PW r ⟨tlT r.tt,clT r.cl,tyW r.t,dw⟩ where
 o:=ho
 t1:=mQ (YM _ hl)
 t2:=YM _ hl
 c1:=qN _
 c2:=nT _ hc
 c3:=eJ _ hc
 y1:=lY _
 y2:=mY _ ht
 y3:=lO _ ht
 y4:=hs
 d:=hd
 gt:=eD _
 gc:=jD _
 gy:=kA _
 gd:=hg
 n:=hn
set_option maxRecDepth 20000
theorem Uw:OD=(lb [92,35],false):=rfl
theorem ME(f:Pst->Option Pst):∀(k:Nat) (o:Option Pst),rep f (k+1) o=rep f k (o.bind f)
 |0,_=>rfl
 |k+1,o=>by
  show(rep f (k+1) o).bind f=(rep f k (o.bind f)).bind f;rw[ME f k o]
theorem Pn(og:List ByteArray)(hg:nck og=0):∀(ns:List (List ByteArray)) (rest:List Wd) (d:Dat),(∀n∈ns,nck n=0)->rep (GN og) ns.length (some ((ns.map fun n=>(AN n).1).map Bz++rest,d))=some (rest,⟨d.ns++ns,d.us,d.ts,d.raw⟩)
 |[],rest,d,_=>by simp[rep]
 |n::ns,rest,d,h=>by
  have hn:=h n (by simp);rw[AP,ME];have e:(some ((((n::ns).map fun n=>(AN n).1).map Bz++rest,d):Pst)).bind (GN og)=some ((ns.map fun n=>(AN n).1).map Bz++rest,⟨d.ns++[n],d.us,d.ts,d.raw⟩):=by
   simp[GN,stp,tkB,Np,Ky n hn,Oy n og hn hg]
  rw[e,Pn og hg ns rest _ (fun x hx=>h x (by simp[hx]))];simp
theorem RY:∀(us:List Nat) (rest:List Wd) (d:Dat),(∀n∈us,n<4294967296)->rep LG us.length (some ((us.map xnw).map Bz++rest,d))=some (rest,⟨d.ns,d.us++us,d.ts,d.raw⟩)
 |[],rest,d,_=>by simp[rep]
 |n::us,rest,d,h=>by
  have hn:=h n (by simp);rw[AP,ME];have e:(some ((((n::us).map xnw).map Bz++rest,d):Pst)).bind LG=some ((us.map xnw).map Bz++rest,⟨d.ns,d.us++[n],d.ts,d.raw⟩):=by
   simp[LG,stp,tkB,Kd,IE,IZ,LU n 4294967296 hn]
  rw[e,RY us rest _ (fun x hx=>h x (by simp[hx]))];simp
theorem kQ(s:ByteArray):RP (Bz (xqw s)).1=some s:=oM s
theorem SM:∀(ts:List ByteArray) (rest:List Wd) (d:Dat),rep Hy ts.length (some ((ts.map xqw).map Bz++rest,d))=some (rest,⟨d.ns,d.us,d.ts++ts,d.raw⟩)
 |[],rest,d=>by simp[rep]
 |s::ts,rest,d=>by
  rw[AP,ME];have e:(some ((((s::ts).map xqw).map Bz++rest,d):Pst)).bind Hy=some ((ts.map xqw).map Bz++rest,⟨d.ns,d.us,d.ts++[s],d.raw⟩):=by
   simp[Hy,stp,tkN,kQ]
  rw[e,SM ts rest _];simp
theorem Og{t:Nat}{og:List ByteArray}{ws:List Wd}{d:Dat}(h:ws.head?≠some (lb [92,35],false))(hf:Ji t og ws=some ([],d)):Ge t og ws=some d:=by
 unfold Ge;rw[if_neg (by rw[Uw];exact h),hf];simp
theorem WF(t:Nat)(raw:List Int)(og:List ByteArray)(ht:t=1∨t=28)(hl:raw.length=4∨raw.length=16)(hb:∀c∈raw,0<=c/\c<=255):Ge t og ((AZ t ⟨[],[],[],raw⟩).map Bz)=some ⟨[],[],[],raw⟩:=by
 obtain⟨s,e⟩:=Lj raw hl;obtain⟨a1,a2,a3⟩:=OY s (Sd _ _ e);have ew:(AZ t ⟨[],[],[],raw⟩).map Bz=[(lb s,false)]:=by
  unfold AZ;rw[if_pos ht];simp[e,a2]
 rw[ew];refine Og (by simp[a3]) ?_;unfold Ji;rw[if_pos ht];simp[rep,Ti,stp,tkB,a1,QW raw s hb e,Eo]
theorem pF(t:Nat)(ns:List (List ByteArray))(us:List Nat)(og:List ByteArray)(ht:t=2∨t=5∨t=12∨t=15∨t=33)(hn:ns.length=1)(hu:us.length=(if t=15 then 1 else if t=33 then 3 else 0))(hq:∀n∈ns,nck n=0)(hb:∀n∈us,n<4294967296)(hg:nck og=0):Ge t og ((AZ t ⟨ns,us,[],[]⟩).map Bz)=some ⟨ns,us,[],[]⟩:=by
 have hk:xkn t=true:=by obtain rfl|rfl|rfl|rfl|rfl:=ht <;> decide
 have ew:(AZ t ⟨ns,us,[],[]⟩).map Bz=(us.map xnw).map Bz++((ns.map fun n=>(AN n).1).map Bz++[]):=by
  unfold AZ;rw[if_neg (by omega),if_neg (by simp[hk]),if_neg (by omega)];have:¬ t=257:=by omega
  simp[xtw,this]
 have hh:((AZ t ⟨ns,us,[],[]⟩).map Bz).head?≠some (lb [92,35],false):=by
  rw[ew];cases us with
  |cons u us=>simp[IE,jY]
  |nil=>
   cases ns with
   |nil=>simp at hn
   |cons n ns=>simp[Ky n (hq n (by simp)),YT n (hq n (by simp))]
 refine Og hh ?_;rw[ew];have h1:=RY us ((ns.map fun n=>(AN n).1).map Bz++[]) Eo hb;have h2:=Pn og hg ns [] ⟨[],[]++us,[],[]⟩ hq;rw[hn]at h2;rw[hu]at h1;unfold Ji;rw[if_neg (by omega)];by_cases h3:t=2∨t=5∨t=12
 ·rw[if_pos h3];have h0:us=[]:=Aq.1 (by rw[hu,if_neg (by omega),if_neg (by omega)]);subst h0;simpa[Eo] using h2
 ·rw[if_neg h3,if_neg (by omega)];by_cases h15:t=15
  ·rw[if_pos h15]at h1 ⊢;rw[h1];simpa[Eo] using h2
  ·have h33:t=33:=by omega
   rw[if_neg h15]at h1 ⊢;rw[if_pos h33]at h1 ⊢;rw[h1];simpa[Eo] using h2
theorem nR(ns:List (List ByteArray))(us:List Nat)(og:List ByteArray)(hn:ns.length=2)(hu:us.length=5)(hq:∀n∈ns,nck n=0)(hb:∀n∈us,n<4294967296)(hg:nck og=0):Ge 6 og ((AZ 6 ⟨ns,us,[],[]⟩).map Bz)=some ⟨ns,us,[],[]⟩:=by
 have ew:(AZ 6 ⟨ns,us,[],[]⟩).map Bz=(ns.map fun n=>(AN n).1).map Bz++((us.map xnw).map Bz++[]):=by
  unfold AZ;rw[if_neg (by omega),if_neg (by decide),if_pos rfl];simp
 have hh:((AZ 6 ⟨ns,us,[],[]⟩).map Bz).head?≠some (lb [92,35],false):=by
  rw[ew];cases ns with
  |nil=>simp at hn
  |cons n ns=>simp[Ky n (hq n (by simp)),YT n (hq n (by simp))]
 refine Og hh ?_;rw[ew];have h1:=Pn og hg ns ((us.map xnw).map Bz++[]) Eo hq;have h2:=RY us [] ⟨[]++ns,[],[],[]⟩ hb;rw[hn]at h1;rw[hu]at h2;unfold Ji;rw[if_neg (by omega),if_neg (by omega),if_pos rfl,h1];simpa[Eo] using h2
theorem pY(ts:List ByteArray)(og:List ByteArray)(hn:ts≠[]):Ge 16 og ((AZ 16 ⟨[],[],ts,[]⟩).map Bz)=some ⟨[],[],ts,[]⟩:=by
 have ew:(AZ 16 ⟨[],[],ts,[]⟩).map Bz=(ts.map xqw).map Bz++[]:=by
  unfold AZ;rw[if_neg (by omega),if_neg (by decide),if_neg (by omega)];simp[xtw]
 have hh:((AZ 16 ⟨[],[],ts,[]⟩).map Bz).head?≠some (lb [92,35],false):=by
  rw[ew];cases ts with
  |nil=>exact absurd rfl hn
  |cons s ts=>simp[Qo]
 refine Og hh ?_;rw[ew];have h1:=SM ts [] Eo;have hm:max 1 ((ts.map xqw).map Bz++[]).length=ts.length:=by
  cases ts with
  |nil=>exact absurd rfl hn
  |cons s ts=>simp
 unfold Ji;rw[if_neg (by omega),if_neg (by omega),if_neg (by omega),if_neg (by omega),if_neg (by omega),if_pos rfl,hm,h1]
 rfl
theorem nY(u:Nat)(a b:ByteArray)(og:List ByteArray)(hu:u<4294967296)(ha:(Ai a).all Oi=true):Ge 257 og ((AZ 257 ⟨[],[u],[a,b],[]⟩).map Bz)=some ⟨[],[u],[a,b],[]⟩:=by
 have hta:Bz a=(a,false):=by
  apply GA
  intro e;have:=AO.1 ha 34 (FL e);revert this;decide
 have ew:(AZ 257 ⟨[],[u],[a,b],[]⟩).map Bz=[Bz (xnw u),(a,false),Bz (xqw b)]:=by
  unfold AZ;rw[if_neg (by omega),if_neg (by decide),if_neg (by omega)];simp[xtw,hta]
 rw[ew];refine Og (by simp[IE,jY]) ?_;unfold Ji;rw[if_neg (by omega),if_neg (by omega),if_neg (by omega),if_neg (by omega),if_neg (by omega),if_neg (by omega),if_pos rfl];simp[rep,LG,bB,Hy,stp,tkB,tkN,Kd,kQ,IE,IZ,LU u 4294967296 hu,Eo]
theorem oE(t:Nat)(raw:List Int)(og:List ByteArray)(ht:t≠1/\t≠28)(hk:xkn t=false)(hm:Gz t=true)(hl:raw.length<65536)(hb:∀c∈raw,0<=c/\c<=255)(hd:JI t raw=some ⟨[],[],[],raw⟩):Ge t og ((AZ t ⟨[],[],[],raw⟩).map Bz)=some ⟨[],[],[],raw⟩:=by
 have hs:Bz (lb [92,35])=(lb [92,35],false):=GA _ (by rw[Ed _ (by decide)];decide);have hx:∀c∈EQ raw,0<=c/\c<=255:=fun c hc=>by have:=Mb raw hb c hc;omega
 obtain⟨ps,hps,hcat⟩:∃ps:List Wd,(AZ t ⟨[],[],[],raw⟩).map Bz=OD::(xnw raw.length,false)::ps/\Ai ⟨(DZ ps).toArray⟩=EQ raw:=by
  unfold AZ;rw[if_neg (by omega),if_pos hk];by_cases h0:raw=[]
  ·subst h0;exact⟨[],by simp[hs,IE,Uw],by simp[DZ,EQ];rfl⟩
  ·have hh:Bz (lb (EQ raw))=(lb (EQ raw),false):=by
    apply GA
    rw[Ed _ hx];intro e;have:=Mb raw hb 34 (FL e);omega
   exact⟨[(lb (EQ raw),false)],by simp[hs,IE,h0,hh,Uw],by simp[DZ,Ed _ hx]⟩
 have hcl:(DZ ps).length=2*raw.length:=by
  have:(Ai ⟨(DZ ps).toArray⟩).length=(EQ raw).length:=by rw[hcat]
  rw[Av,MA]at this;simpa[LM] using this
 obtain⟨k1,k2⟩:=nB raw hb;rw[hps];unfold Ge;rw[if_pos (by simp),List.tail_cons];unfold JZ;have hr:Fb t raw=(⟨[],[],[],raw⟩,0):=by
  unfold Fb;rw[if_pos hm,if_pos (by omega),hd]
 have hx2:FN (Ai (xnw raw.length)) (2 ^ 32)=some raw.length:=by
  rw[IZ];exact LU raw.length (2 ^ 32) (by omega)
 simp only[hx2,BL,hcat,k2,hr];rw[if_pos ⟨by omega,hcl,by
  rw[AO];intro k hk2;exact decide_eq_true (k1 k (List.mem_range.1 hk2))⟩]
 rfl
theorem Tm(t:Nat)(d:Dat)(og:List ByteArray)(hc:Bw t d=0)(hb:∀c∈d.raw,0<=c/\c<=255)(hg:nck og=0):Jq t og ((AZ t d).map Bz)=some d:=by
 suffices h:Ge t og ((AZ t d).map Bz)=some d by
  unfold Jq;rw[h];simp[hc]
 obtain⟨hm,hf,hn,hz⟩:=Eg hc;have hrw:=QM t d hc;obtain⟨ns,us,ts,raw⟩:=d;unfold Ir at hf;simp only[AA,decide_eq_true_eq,Ct,AO]at hf;obtain⟨⟨⟨⟨⟨⟨⟨f1,f2⟩,f3⟩,f4⟩,f5⟩,f6⟩,f7⟩,f8⟩:=hf;obtain⟨ht,e⟩|⟨ht,e⟩|⟨ht,e⟩|⟨ht,e⟩|⟨ht,e⟩|⟨ht,e⟩|⟨ht,e⟩|⟨ht,e⟩|⟨ht,e⟩:=Gc t;all_goals rw[e]at f1 f2 f3 f4 f5 f6
 all_goals simp only at f1 f2 f3 f4 f5 f6 hn hb
 ·have e1:ns=[]:=Aq.1 f1;have e2:us=[]:=Aq.1 f2;have e3:ts=[]:=Aq.1 (by omega);subst e1 e2 e3;exact WF t raw og (.inl ht) (by omega) hb
 ·have e1:ns=[]:=Aq.1 f1;have e2:us=[]:=Aq.1 f2;have e3:ts=[]:=Aq.1 (by omega);subst e1 e2 e3;exact WF t raw og (.inr ht) (by omega) hb
 rotate_left
 ·have e3:ts=[]:=Aq.1 (by omega);have e4:raw=[]:=Aq.1 (by omega);subst e3 e4 ht;exact nR ns us og f1 f2 hn (fun n h=>by have:=f6 n h;simp[Cg]at this;omega) hg
 rotate_left
 rotate_left
 ·have e1:ns=[]:=Aq.1 f1;have e2:us=[]:=Aq.1 f2;have e4:raw=[]:=Aq.1 (by omega);subst e1 e2 e4 ht;exact pY ts og (by rintro rfl;simp at f4)
 ·have e1:ns=[]:=Aq.1 f1;have e4:raw=[]:=Aq.1 (by omega);subst e1 e4 ht;match us,f2,f6 with
  |[u],_,f6=>
   match ts,f3,f8 with
   |[a,b],_,f8=>
    have hu:=f6 u (by simp);have h8:tagB a=true:=by
     obtain h|h:=f8
     ·exact absurd rfl h
     ·simpa using h
    unfold tagB at h8;simp only[AA]at h8;exact nY u a b og (by simp[Cg]at hu;omega) h8.2
   |[],f3,_=>simp at f3
   |[a],f3,_=>simp at f3
   |a::b::c::r,f3,_=>simp at f3;omega
 ·have e1:ns=[]:=Aq.1 f1;have e2:us=[]:=Aq.1 f2;have e3:ts=[]:=Aq.1 (by omega);subst e1 e2 e3;obtain⟨h1,h2,h3,h4,h5,h6,h7,h8,h9,h10⟩:=ht;have ewr:CD t ⟨[],[],[],raw⟩=raw:=by
   unfold CD;rw[if_neg h6];simp[tsB,h9]
  rw[ewr]at hrw;have hz2:raw.length<=65535:=by
   unfold Jf at hz;simp only at hz;omega
  exact oE t raw og ⟨h1,h2⟩ (by simp[xkn,h1,h2,h3,h4,h5,h6,h7,h8,h9,h10]) hm (by omega) hb hrw
 all_goals
  have e3:ts=[]:=Aq.1 (by omega);have e4:raw=[]:=Aq.1 (by omega);subst e3 e4;exact pF t ns us og (by omega) f1 (by rw[f2];(repeat' split) <;> omega) hn (fun n h=>by have:=f6 n h;simp[Cg]at this;omega) hg
set_option maxRecDepth 20000
def MV(c:Int):Prop:=(46<=c/\c<=58)∨(97<=c/\c<=102)
theorem jX(n:Nat):∀c∈Dn n,MV c:=by
 induction n using FI with
 |_ n ih=>
  rw[Dn];have hd:∀v,v<16->MV (xhd v):=by intro v hv;unfold xhd MV;split <;> omega
  by_cases h:n<16
  ·rw[dif_pos h];intro c hc;simp at hc;subst hc;exact hd n h
  ·rw[dif_neg h];intro c hc;simp only[AG,Bc]at hc;obtain hc|rfl:=hc
   ·exact ih (n / 16) (by omega) c hc
   ·exact hd _ (by omega)
theorem Rc(l:List Nat):∀c∈Ev l,MV c:=by
 intro c hc;obtain rfl|⟨p,hp,hc⟩:=My _ _ _ hc
 ·unfold MV;omega
 ·obtain⟨n,_,rfl⟩:=AY.1 hp;exact jX n c hc
theorem oV(l:List Nat):∀c∈xa6 l,MV c:=by
 intro c hc;unfold xa6 at hc;split at hc
 ·exact Rc _ c hc
 ·simp only[AG,Ax]at hc;obtain h|rfl|rfl|h:=hc
  ·exact Rc _ c h
  ·unfold MV;omega
  ·unfold MV;omega
  ·exact Rc _ c h
theorem cO(b s:List Int)(h:Fl b=some s):∀c∈s,MV c:=by
 unfold Fl at h;split at h
 ·injection h with h;subst h
  intro c hc;obtain rfl|⟨p,hp,hc⟩:=My _ _ _ hc
  ·unfold MV;omega
  ·obtain⟨n,_,rfl⟩:=AY.1 hp;have:=Fk _ c hc;unfold MV;omega
 ·split at h
  ·injection h with h;subst h;exact oV _
  ·cases h
theorem Zg(v:Nat)(h:v<16):MV (xhd v):=by unfold xhd MV;split <;> omega
theorem nQ(raw:List Int)(hb:∀c∈raw,0<=c/\c<=255):∀c∈EQ raw,MV c:=by
 intro c hc;unfold EQ at hc;obtain⟨b,hbm,hc⟩:=List.mem_flatMap.1 hc;have:=hb b hbm;simp only[Ax,Ep,or_false]at hc;obtain rfl|rfl:=hc
 ·exact Zg _ (by omega)
 ·exact Zg _ (by omega)
def plC(c:Int):Prop:=0<=c/\c<=255/\c≠92/\c≠34/\c≠10/\c≠32/\c≠9/\c≠13/\c≠59/\c≠40/\c≠41
theorem uI:∀n:Fin 256,(n.val≠92/\n.val≠34/\n.val≠10/\n.val≠32/\n.val≠9/\n.val≠13/\n.val≠59/\n.val≠40/\n.val≠41)->DJ (CS n.val)=false/\CS n.val≠92/\CS n.val≠34:=by decide +kernel
theorem rH:∀l:List Int,(∀c∈l,plC c)->bwS false (txt l)=true
 |[],_=>rfl
 |c::r,h=>by
  obtain⟨h0,h1,h2⟩:=h c (by simp);have h3:=uI ⟨c.toNat,by omega⟩ (by simp only;omega);obtain⟨a1,a2,a3⟩:=h3;have ih:=rH r (fun b hb=>h b (by simp[hb]));show bwS false (CS c.toNat::txt r)=true;unfold bwS;rw[if_neg a2,a1,ih];simp[a3]
theorem Ug{l:List Int}(h:∀c∈l,plC c)(h0:l≠[]):CM (lb l,false)=true:=by
 unfold CM;have:(lb l).data.toList=txt l:=rfl;simp only[Bi,if_false,this,rH l h,Bool.and_true];cases l with
 |nil=>exact absurd rfl h0
 |cons c r=>rfl
theorem UM(b:List UInt8):∀(a:List UInt8) (e:Bool),qwS e a=true->qwS e (a++b)=qwS false b
 |[],e,h=>by cases e with
  |true=>simp[qwS]at h
  |false=>rfl
 |c::a,true,h=>by
  simp only[qwS,AA]at h;simp only[Ay,qwS,h.1,OE];exact UM b a false h.2
 |c::a,false,h=>by
  unfold qwS at h;rw[Ay];show(if c=92 then qwS true (a++b) else c != 10 && c != 34 && qwS false (a++b))=qwS false b;split at h
  ·rename_i e;rw[if_pos e];exact UM b a true h
  ·rename_i e
   rw[if_neg e];simp only[AA]at h;simp only[h.1.1,h.1.2,OE];exact UM b a false h.2
theorem tH:∀n:Fin 256,qwS false (txt (xq1 (n.val:Int)))=true:=by decide +kernel
theorem sE:∀l:List Int,(∀c∈l,0<=c/\c<=255)->qwS false (txt (xq l))=true
 |[],_=>rfl
 |c::r,h=>by
  have hc:=h c (by simp);have h1:=tH ⟨c.toNat,by omega⟩;have e:((c.toNat:Nat):Int)=c:=by omega
  simp only[e]at h1;have e2:txt (xq (c::r))=txt (xq1 c)++txt (xq r):=by simp[xq,txt]
  rw[e2,UM _ _ _ h1];exact sE r (fun b hb=>h b (by simp[hb]))
theorem uL(s:ByteArray):CM (Bz (xqw s))=true:=by
 rw[Qo];unfold CM;simp only[if_true];exact sE _ (CY s)
theorem tV(s:ByteArray):GH (Bz (xqw s))=(xqw s).data.toList:=by
 rw[Qo];unfold GH;simp only[if_true];show 34::(txt (xq (Ai s))++[34])=txt (Fp (Ai s));simp[Fp,txt]
theorem Nr{s:ByteArray}(h:Bz s=(s,false)):GH (Bz s)=s.data.toList:=by rw[h];rfl
theorem lF(n:Nat):CM (Bz (xnw n))=true:=by
 rw[IE,<- Uc];exact Qy (XQ n) (QL n)
theorem pT{raw s:List Int}(hb:∀c∈raw,0<=c/\c<=255)(e:Fl raw=some s):s≠[]:=by
 intro h0;subst h0;have:=QW raw [] hb e;have h2:Ez []=none:=by decide +kernel
 rw[h2]at this;cases this
def GT(s:ByteArray):Prop:=CM (Bz s)=true/\GH (Bz s)=s.data.toList
theorem Sg(t:Nat)(d:Dat)(hc:Bw t d=0)(hb:∀c∈d.raw,0<=c/\c<=255):∀s∈AZ t d,GT s:=by
 obtain⟨hm,hf,hn,hz⟩:=Eg hc;obtain⟨ns,us,ts,raw⟩:=d;unfold Ir at hf;simp only[AA,decide_eq_true_eq,Ct,AO]at hf;obtain⟨⟨⟨⟨⟨⟨⟨f1,f2⟩,f3⟩,f4⟩,f5⟩,f6⟩,f7⟩,f8⟩:=hf;simp only at hn hb;have gn:∀s∈us.map xnw,GT s:=fun s hs=>by
  obtain⟨n,_,rfl⟩:=AY.1 hs;exact⟨lF n,Nr (IE n)⟩
 have gm:∀s∈ns.map (fun n=>(AN n).1),GT s:=fun s hs=>by
  obtain⟨n,hh,rfl⟩:=AY.1 hs;have e:=Ky n (hn n hh);exact⟨by rw[e];exact JV (hn n hh),Nr e⟩
 have gq:∀(l:List ByteArray),∀s∈l.map xqw,GT s:=fun l s hs=>by
  obtain⟨a,_,rfl⟩:=AY.1 hs;exact⟨uL a,tV a⟩
 intro s hs;unfold AZ at hs;split at hs
 ·rename_i ht
  have hl:raw.length=4∨raw.length=16:=by
   obtain⟨h,e⟩|⟨h,e⟩|⟨h,e⟩|⟨h,e⟩|⟨h,e⟩|⟨h,e⟩|⟨h,e⟩|⟨h,e⟩|⟨h,e⟩:=Gc t;all_goals rw[e]at f5
   all_goals simp only at f5
   all_goals omega
  obtain⟨z,e⟩:=Lj raw hl;obtain⟨a1,a2,a3⟩:=OY z (Sd _ _ e);simp only[e,Option.getD_some,Bc]at hs;subst hs;refine⟨?_,Nr a2⟩;rw[a2];refine Ug (fun c hc=>?_) (pT hb e);have:=cO _ _ e c hc;unfold MV at this;unfold plC;omega
 ·split at hs
  ·have hsm:Bz (lb [92,35])=(lb [92,35],false):=GA _ (by rw[Ed _ (by decide)];decide);have hx:∀c∈EQ raw,0<=c/\c<=255:=fun c hc=>by have:=Mb raw hb c hc;omega
   obtain rfl|hs:=Ax.1 hs
   ·exact⟨by rw[hsm];decide +kernel,Nr hsm⟩
   ·obtain rfl|hs:=Ax.1 hs
    ·exact⟨lF _,Nr (IE _)⟩
    ·by_cases h0:raw=[]
     ·rw[if_pos h0]at hs;cases hs
     ·rw[if_neg h0,Bc]at hs;subst hs;have hh:Bz (lb (EQ raw))=(lb (EQ raw),false):=by
       apply GA
       rw[Ed _ hx];intro e;have:=Mb raw hb 34 (FL e);omega
      refine⟨?_,Nr hh⟩;rw[hh];refine Ug (fun c hc=>?_) (fun e=>by
       have:=congrArg FH e;rw[MA]at this;have h4:2*raw.length=0:=by simpa using this
       exact h0 (Aq.1 (by omega)))
      have:=nQ raw hb c hc;unfold MV at this;unfold plC;omega
  ·split at hs
   ·obtain hs|hs:=AG.1 hs
    ·exact gm s hs
    ·exact gn s hs
   ·obtain hs|hs:=AG.1 hs
    ·obtain hs|hs:=AG.1 hs
     ·exact gn s hs
     ·exact gm s hs
    ·unfold xtw at hs;split at hs
     ·rename_i h257
      cases ts with
      |nil=>cases hs
      |cons a r=>
       obtain rfl|hs:=Ax.1 hs
       ·have h8:tagB s=true:=by
         obtain h|h:=f8
         ·exact absurd h257 h
         ·simpa using h
        unfold tagB at h8;simp only[AA,decide_eq_true_eq]at h8;have hta:Bz s=(s,false):=by
         apply GA
         intro e;have:=AO.1 h8.2 34 (FL e);revert this;decide
        refine⟨?_,Nr hta⟩;rw[hta,<- Qu s];refine Ug (fun c hc=>?_) (fun e=>by
         have h9:=congrArg FH e;rw[Av]at h9;have h10:s.size=0:=h9;omega)
        have:=AO.1 h8.2 c hc;unfold Oi at this;simp at this;unfold plC;omega
       ·exact gq r s hs
     ·exact gq ts s hs
structure PrR(r:Rec):Prop where
 o:nck r.ow=0
 s:DP r.t=true
 c:Bw r.t r.d=0
 t:r.t<65536
 cl:r.cl<65536
 tt:r.tt<2147483648
 b:∀z∈r.d.raw,0<=z/\z<=255
 n:r.d.ts.length<=55
def pwR(r:Rec):Pw:=⟨tlT r.tt,clT r.cl,tyW r.t,(AZ r.t r.d).map Bz⟩
theorem Rm(t:Nat)(d:Dat)(hc:Bw t d=0)(h:d.ts.length<=55):(AZ t d).length<=60:=by
 obtain⟨hm,hf,hn,hz⟩:=Eg hc;obtain⟨ns,us,ts,raw⟩:=d;unfold Ir at hf;simp only[AA,decide_eq_true_eq,Ct,AO]at hf;obtain⟨⟨⟨⟨⟨⟨⟨f1,f2⟩,f3⟩,f4⟩,f5⟩,f6⟩,f7⟩,f8⟩:=hf;simp only at h f1 f2 f3 f4 f5;unfold AZ;split
 ·simp
 ·split
  ·split <;> simp
  ·have hx:(xtw t ts).length=ts.length:=by
    unfold xtw;split
    ·cases ts <;> simp
    ·simp
   obtain⟨q,e⟩|⟨q,e⟩|⟨q,e⟩|⟨q,e⟩|⟨q,e⟩|⟨q,e⟩|⟨q,e⟩|⟨q,e⟩|⟨q,e⟩:=Gc t;all_goals rw[e]at f1 f2 f3
   all_goals simp only at f1 f2 f3
   all_goals split
   all_goals simp only[Af,AS,hx]
   all_goals omega
theorem Xs{r:Rec}(h:PrR r):PW r (pwR r):=
 iD h.o h.t h.s h.cl h.tt (fun og hg=>Tm r.t r.d og h.c h.b hg) (fun w hw=>by
  obtain⟨s,hs,rfl⟩:=AY.1 hw;exact(Sg r.t r.d h.c h.b s hs).1) (by simpa using Rm r.t r.d h.c h.n)
def Qa:List ByteArray->List UInt8
 |[]=>[]
 |[a]=>a.data.toList
 |a::b::r=>a.data.toList++32::Qa (b::r)
theorem rP:∀l:List ByteArray,(∀s∈l,GT s)->Gp (l.map Bz)=Qa l
 |[],_=>rfl
 |[a],h=>(h a (by simp)).2
 |a::b::r,h=>by
  show GH (Bz a)++32::Gp ((b::r).map Bz)=_;rw[(h a (by simp)).2,rP (b::r) (fun s hs=>h s (by simp[hs]))]
  rfl
def PS(r:Rec):List UInt8:=(tyW r.t).data.toList++32::(Qa (AZ r.t r.d)++[10])
def DM(r:Rec):List UInt8:=(AN r.ow).1.data.toList++32::((tlT r.tt).data.toList++32::((clT r.cl).data.toList++32::PS r))
def LR(og:List ByteArray)(q:Option (List ByteArray × Nat))(r:Rec):List UInt8:=
 (if Qd q r then[32] else(shF r.ow og).data.toList++[32])++((tlT r.tt).data.toList++32::((if Oh q r then(clT r.cl).data.toList++[32] else[])++PS r))
def ES(og:List ByteArray):Option (List ByteArray × Nat)->List Rec->List UInt8
 |_,[]=>[]
 |q,r::l=>LR og q r++ES og (some (r.ow,r.cl)) l
theorem iQ{r:Rec}(h:PrR r):AZ r.t r.d≠[]:=by
 intro e;have hp:=Tm r.t r.d [] h.c h.b (by decide);have hm:=Eg h.c;rw[e]at hp;unfold Jq Ge at hp;rw[if_neg (by simp)]at hp;have hk:Ji r.t [] (([]:List ByteArray).map Bz)=none:=by
  unfold Ji;simp only[Df,CZ]
  repeat' split
  all_goals simp[rep,Ti,GN,LG,Hy,bB,stp,tkB,tkN]
 rw[hk]at hp;cases hp
theorem uK(a:Wd):∀l:List Wd,l≠[]->Gp (a::l)=GH a++32::Gp l
 |[],h=>absurd rfl h
 |b::r,_=>rfl
theorem RT{r:Rec}(h:PrR r)(blank cls:Bool)(s:ByteArray):Jb (GG blank s cls (pwR r))=(if blank then[32] else s.data.toList++[32])++((tlT r.tt).data.toList++32::((if cls then(clT r.cl).data.toList++[32] else[])++PS r)):=by
 have hw:=iQ h;have hwm:(AZ r.t r.d).map Bz≠[]:=by simpa using hw
 have h1:=rP (AZ r.t r.d) (fun s hs=>Sg r.t r.d h.c h.b s hs);have hb:∀z:ByteArray,GH (z,false)=z.data.toList:=fun _=>rfl
 unfold Jb GG pwR PS;cases blank <;> cases cls <;> simp[uK,hwm,hb,h1]
theorem SG(og:List ByteArray):∀(l:List Rec) (q:Option (List ByteArray × Nat)),(∀r∈l,PrR r)->GL (JU og q (l.map fun r=>(r,pwR r)))=ES og q l
 |[],_,_=>rfl
 |r::l,q,h=>by
  have ih:=SG og l (some (r.ow,r.cl)) (fun x hx=>h x (by simp[hx]));have e:GL (JU og q ((r::l).map fun r=>(r,pwR r)))=Jb (GG (Qd q r) (shF r.ow og) (Oh q r) (pwR r))++GL (JU og (some (r.ow,r.cl)) (l.map fun r=>(r,pwR r))):=rfl;rw[e,ih,RT (h r (by simp))]
  rfl
def Tx:List UInt8:=[36,79,82,73,71,73,78,32]
theorem Yg{og other:List ByteArray}{l:List Rec}{t:ByteArray}(hg:nck og=0)(ho:nck other=0)(h:∀r∈l,PrR r)(hn:l.length<=2048)(ht:t.data.toList=Tx++((AN og).1.data.toList++10::ES og none l))(hs:t.size<=65536):Mc t other=.ok l:=by
 have h1:=cE (l:=l.map fun r=>(r,pwR r)) (t:=t) hg ho (fun x hx=>by
  obtain⟨r,hr,rfl⟩:=AY.1 hx;exact Xs (h r hr)) (by simpa using hn) (by
  rw[ht];have e:GL (OX TT og::JU og none (l.map fun r=>(r,pwR r)))=Jb (OX TT og)++GL (JU og none (l.map fun r=>(r,pwR r))):=rfl;rw[e,mC,SG og l none h];simp[TT,Tx]) hs
 rw[h1,Fq,show((fun x:Rec × Pw=>x.1) ∘ fun r=>(r,pwR r))=id from rfl,List.map_id]
theorem bW{other:List ByteArray}{r:Rec}{t:ByteArray}(ho:nck other=0)(h:PrR r)(ht:t.data.toList=DM r)(hs:t.size<=65536):Mc t other=.ok [r]:=
 jZ ho (Xs h) (by rw[ht,RT h];simp[DM]) hs
set_option maxRecDepth 20000
theorem mL(t:List UInt8):∀e:Bool,bwS e t=true->(10:UInt8) ∉ t:=by
 induction t with
 |nil=>intro e _ h;cases h
 |cons c r ih=>
  intro e h hm;cases e with
  |true=>
   simp only[bwS,AA,bne_iff_ne]at h;obtain e|hm:=Ax.1 hm
   ·exact h.1 e.symm
   ·exact ih false h.2 hm
  |false=>
   unfold bwS at h;split at h
   ·rename_i h92
    obtain e|hm:=Ax.1 hm
    ·subst h92;cases e
    ·exact ih true h hm
   ·simp only[AA,Mv]at h;obtain e|hm:=Ax.1 hm
    ·exact(LS h.1.1).1 e.symm
    ·exact ih false h.2 hm
theorem qT(t:List UInt8):∀e:Bool,qwS e t=true->(10:UInt8) ∉ t:=by
 induction t with
 |nil=>intro e _ h;cases h
 |cons c r ih=>
  intro e h hm;cases e with
  |true=>
   simp only[qwS,AA,bne_iff_ne]at h;obtain e|hm:=Ax.1 hm
   ·exact h.1 e.symm
   ·exact ih false h.2 hm
  |false=>
   unfold qwS at h;split at h
   ·rename_i h92
    obtain e|hm:=Ax.1 hm
    ·subst h92;cases e
    ·exact ih true h hm
   ·simp only[AA,bne_iff_ne]at h;obtain e|hm:=Ax.1 hm
    ·exact h.1.1 e.symm
    ·exact ih false h.2 hm
theorem Ys{w:Wd}(h:CM w=true):(10:UInt8) ∉ GH w:=by
 obtain⟨t,b⟩:=w;unfold CM at h;unfold GH;cases b with
 |true=>
  simp only[if_true]at h ⊢;have:=qT _ _ h;simp only[Ax,AG,Ep,or_false,not_or];exact⟨by decide,this,by decide⟩
 |false=>
  simp only[Bi,if_false,AA]at h ⊢;exact mL _ _ h.2
theorem ZP:∀ws:List Wd,(∀w∈ws,CM w=true)->(10:UInt8) ∉ Gp ws
 |[],_=>by simp[Gp]
 |[w],h=>by simp only[Gp];exact Ys (h w (by simp))
 |w::v::r,h=>by
  simp only[Gp,AG,Ax,not_or];exact⟨Ys (h w (by simp)),by decide,ZP (v::r) (fun x hx=>h x (by simp[hx]))⟩
theorem lV{r:Rec}(h:PrR r):(DM r).count 10=1:=by
 have hp:=Xs h;have hok:=TQ (blank:=false) (cls:=true) hp (JV h.o);have e:DM r=Gp (GG false (AN r.ow).1 true (pwR r)).ws++[10]:=by
  have h1:=RT h false true (AN r.ow).1;have h2:Jb (GG false (AN r.ow).1 true (pwR r))=Gp (GG false (AN r.ow).1 true (pwR r)).ws++[10]:=rfl;rw[<- h2,h1];simp[DM]
 rw[e,List.count_append,List.count_eq_zero.2 (ZP _ hok.2.2)]
 rfl
theorem XB(M:Nat):∀l:List ByteArray,(∀s∈l,s.size<=M)->(Qa l).length<=l.length*(M+1)
 |[],_=>by simp[Qa]
 |[a],h=>by
  have:=h a (by simp);have e:(Qa [a]).length=a.size:=rfl;rw[e];simp;omega
 |a::b::r,h=>by
  have h1:=h a (by simp);have ih:=XB M (b::r) (fun s hs=>h s (by simp[hs]));have e:(Qa (a::b::r)).length=a.size+((Qa (b::r)).length+1):=by
   show(a.data.toList++32::Qa (b::r)).length=_;rw[Af,AP];rfl
  rw[e];have e2:(a::b::r).length*(M+1)=(b::r).length*(M+1)+(M+1):=by rw[AP,Nat.succ_mul]
  rw[e2];omega
theorem Sa(l:List Nat)(h:∀n∈l,n<65536):(Ev l).length<=l.length*5:=by
 have:=Gb 58 (l.map Dn) 4 (fun p hp=>by
  obtain⟨n,hn,rfl⟩:=AY.1 hp;exact(JW n (h n hn)).2)
 simpa[Ev] using this
theorem rB(l:List Nat)(h:∀n∈l,n<65536):(xa6 l).length<=l.length*10+2:=by
 unfold xa6;split
 ·have:=Sa l h;omega
 ·have h1:=Sa (l.take (Ei l).1) (fun n hn=>h n (Be hn));have h2:=Sa (l.drop ((Ei l).1+(Ei l).2)) (fun n hn=>h n (CT hn));have h3:(l.take (Ei l).1).length<=l.length:=by simp;omega
  have h4:(l.drop ((Ei l).1+(Ei l).2)).length<=l.length:=by simp
  simp only[Af,AP];omega
theorem aS{b s:List Int}(hb:∀c∈b,0<=c/\c<=255)(e:Fl b=some s):s.length<=100:=by
 unfold Fl at e;split at e
 ·rename_i h4
  injection e with e;subst e
  have:=Gb 46 (b.map fun c=>DR c.toNat) 3 (fun p hp=>by
   obtain⟨c,hc,rfl⟩:=AY.1 hp;have:=hb c hc;exact Qh c.toNat (by omega))
  simp[h4]at this;omega
 ·split at e
  ·rename_i h16
   injection e with e;subst e
   obtain⟨k1,_,k3⟩:=Qg b 8 (by omega) hb;have:=rB (Hr b) k3;omega
  ·cases e
theorem Ve(l:List Int):(lb l).size=l.length:=by simp[lb,LM,txt]
theorem fG(t:Nat)(d:Dat)(hc:Bw t d=0)(hb:∀c∈d.raw,0<=c/\c<=255)(h55:d.ts.length<=55)(h300:∀s∈d.ts,s.size<=300)(h2000:d.raw.length<=2000):(Qa (AZ t d)).length<=60000:=by
 obtain⟨hm,hf,hn,hz⟩:=Eg hc;obtain⟨ns,us,ts,raw⟩:=d;unfold Ir at hf;simp only[AA,decide_eq_true_eq,Ct,AO]at hf;obtain⟨⟨⟨⟨⟨⟨⟨f1,f2⟩,f3⟩,f4⟩,f5⟩,f6⟩,f7⟩,f8⟩:=hf;simp only at h55 h300 h2000 hb hn f1 f2 f3 f4 f5 f6 f7 f8;have gn:∀n∈us,(xnw n).size<=4010:=fun n hn=>by
  have h1:n<4294967296:=by
   have h2:=f6 n hn;obtain⟨q,e⟩|⟨q,e⟩|⟨q,e⟩|⟨q,e⟩|⟨q,e⟩|⟨q,e⟩|⟨q,e⟩|⟨q,e⟩|⟨q,e⟩:=Gc t <;> rw[e]at h2 <;> simp[Cg]at h2 <;> omega
  have:=Je n h1;unfold xnw;rw[Ve];omega
 have gm:∀n∈ns,(AN n).1.size<=4010:=fun n hh=>by have:=MH (hn n hh);omega
 by_cases h16:t=16
 ·have hx:AZ t ⟨ns,us,ts,raw⟩=us.map xnw++ns.map (fun n=>(AN n).1)++ts.map xqw:=by
   subst h16;unfold AZ;rw[if_neg (by omega),if_neg (by decide),if_neg (by omega)];simp[xtw]
  have e:shp t=⟨0,0,-1,0,0⟩:=by rw[h16];rfl
  rw[e]at f1 f2;have e1:ns=[]:=Aq.1 f1;have e2:us=[]:=Aq.1 f2;subst e1 e2;have h7:∀s∈ts,s.size<=255:=by
   obtain h|h:=f7
   ·exact absurd h16 h
   ·exact h
  rw[hx];have:=XB 1022 (([]:List Nat).map xnw++([]:List (List ByteArray)).map (fun n=>(AN n).1)++ts.map xqw) (fun s hs=>by
   simp only[Df,AQ]at hs;obtain⟨a,ha,rfl⟩:=AY.1 hs;have:=Om a;have:=h7 a ha;omega)
  simp at this ⊢;omega
 ·have hsz:∀s∈AZ t ⟨ns,us,ts,raw⟩,s.size<=4010:=by
   intro s hs;unfold AZ at hs;split at hs
   ·rename_i ht
    have hl:raw.length=4∨raw.length=16:=by
     obtain⟨h,e⟩|⟨h,e⟩|⟨h,e⟩|⟨h,e⟩|⟨h,e⟩|⟨h,e⟩|⟨h,e⟩|⟨h,e⟩|⟨h,e⟩:=Gc t;all_goals rw[e]at f5
     all_goals simp only at f5
     all_goals omega
    obtain⟨z,e⟩:=Lj raw hl;simp only[e,Option.getD_some,Bc]at hs;subst hs;have:=aS hb e;rw[Ve];omega
   ·split at hs
    ·obtain rfl|hs:=Ax.1 hs
     ·rw[Ve];simp
     ·obtain rfl|hs:=Ax.1 hs
      ·have:=Je raw.length (by omega);unfold xnw;rw[Ve];show(DR raw.length).length<=4010;omega
      ·by_cases h0:raw=[]
       ·rw[if_pos h0]at hs;cases hs
       ·rw[if_neg h0,Bc]at hs;subst hs;rw[Ve,MA];show 2*raw.length<=4010;omega
    ·have hmap:∀s∈us.map xnw,s.size<=4010:=fun s hs=>by obtain⟨n,hh,rfl⟩:=AY.1 hs;exact gn n hh
     have hmn:∀s∈ns.map (fun n=>(AN n).1),s.size<=4010:=fun s hs=>by obtain⟨n,hh,rfl⟩:=AY.1 hs;exact gm n hh
     have hmq:∀l:List ByteArray,(∀a∈l,a.size<=300)->∀s∈l.map xqw,s.size<=4010:=fun l hl s hs=>by
      obtain⟨a,ha,rfl⟩:=AY.1 hs;have:=Om a;have:=hl a ha;omega
     split at hs
     ·obtain hs|hs:=AG.1 hs
      ·exact hmn s hs
      ·exact hmap s hs
     ·obtain hs|hs:=AG.1 hs
      ·obtain hs|hs:=AG.1 hs
       ·exact hmap s hs
       ·exact hmn s hs
      ·unfold xtw at hs;split at hs
       ·cases ts with
        |nil=>cases hs
        |cons a r=>
         obtain rfl|hs:=Ax.1 hs
         ·have:=h300 s (by simp);omega
         ·exact hmq r (fun x hx=>h300 x (by simp[hx])) s hs
       ·exact hmq ts h300 s hs
  have hlen:(AZ t ⟨ns,us,ts,raw⟩).length<=7:=by
   unfold AZ;split
   ·simp
   ·split
    ·split <;> simp
    ·have hx:(xtw t ts).length=ts.length:=by
      unfold xtw;split
      ·cases ts <;> simp
      ·simp
     obtain⟨q,e⟩|⟨q,e⟩|⟨q,e⟩|⟨q,e⟩|⟨q,e⟩|⟨q,e⟩|⟨q,e⟩|⟨q,e⟩|⟨q,e⟩:=Gc t;all_goals rw[e]at f1 f2 f3
     all_goals simp only at f1 f2 f3
     all_goals split
     all_goals simp only[Af,AS,hx]
     all_goals omega
  have h1:=XB 4010 _ hsz;have h2:(AZ t ⟨ns,us,ts,raw⟩).length*(4010+1)<=7*4011:=Nat.mul_le_mul_right _ hlen;omega
theorem pB(n:Nat)(h:n<65536):(clT n).data.toList.length<=200:=by
 unfold clT;split
 ·show(Cm.data.toList++Bl 255).length<=200;have:=Ol 255 (by omega);rw[Af];have:Cm.data.toList.length=5:=rfl;omega
 ·exact UX IJ n h
theorem VD{r:Rec}(h:PrR r)(h300:∀s∈r.d.ts,s.size<=300)(h2000:r.d.raw.length<=2000):(DM r).length<=65536:=by
 have h1:=fG r.t r.d h.c h.b h.n h300 h2000;have h2:=MH h.o;have h3:=pB r.cl h.cl;have h4:(tyW r.t).data.toList.length<=200:=UX NA r.t h.t;have h5:(tlT r.tt).data.toList.length<=10:=by
  have:=Je r.tt (by have:=h.tt;omega);have e:(tlT r.tt).data.toList.length=(DR r.tt).length:=by
   show(Bl r.tt).length=((Bl r.tt).map fun b=>(b.toNat:Int)).length;rw[AS]
  omega
 have h6:(AN r.ow).1.data.toList.length=(AN r.ow).1.size:=rfl;unfold DM PS;simp only[Af,AP,CZ];omega
set_option maxRecDepth 100000
def lA:ByteArray:=⟨#[97]⟩
def lB:ByteArray:=⟨#[98]⟩
def exA:Rec:=⟨[lA,lB],1,1,60,⟨[],[],[],[1,2,3,4]⟩⟩
def exT:Rec:=⟨[lA,lB],16,1,60,⟨[],[],[⟨#[120]⟩],[]⟩⟩
def exC:Rec:=⟨[lB],1,3,5,⟨[],[],[],[1,2,3,5]⟩⟩
def Dc(r:Rec):Int:=
 if nck r.ow≠0 then nck r.ow else if DP r.t=false then 6 else if Bw r.t r.d≠0 then Bw r.t r.d else if 2147483647<r.tt then 2 else 0
def Hz(r:Rec):List UInt8 × Int:=if Dc r=0 then(DM r,0) else([],Dc r)
def Cj:List Rec->Int
 |[]=>0
 |r::l=>if Dc r=0 then Cj l else Dc r
def Ie(og:List ByteArray)(l:List Rec):List UInt8:=Tx++((AN og).1.data.toList++10::ES og none l)
def DW(og:List ByteArray)(l:List Rec):List UInt8 × Int:=
 if nck og≠0 then([],nck og) else if 2048<l.length then([],3) else if Cj l≠0 then([],Cj l) else if 65536<(Ie og l).length then([],3) else(Ie og l,0)
structure InR(r:Rec):Prop where
 t:r.t<65536
 cl:r.cl<65536
 b:∀z∈r.d.raw,0<=z/\z<=255
 n:r.d.ts.length<=55
 s:∀s∈r.d.ts,s.size<=300
 r:r.d.raw.length<=2000
theorem rN{r:Rec}(h:Dc r=0)(hi:InR r):PrR r:=by
 unfold Dc at h;split at h
 ·rename_i h1;exact absurd h h1
 ·rename_i h1
  split at h
  ·cases h
  ·rename_i h2
   split at h
   ·rename_i h3;exact absurd h h3
   ·rename_i h3
    split at h
    ·cases h
    ·rename_i h4
     exact⟨Cw.1 h1,by simpa using h2,Cw.1 h3,hi.t,hi.cl,by omega,hi.b,hi.n⟩
theorem OZ:∀{l:List Rec},Cj l=0->∀r∈l,Dc r=0
 |[],_,r,hr=>by cases hr
 |x::l,h,r,hr=>by
  unfold Cj at h;split at h
  ·rename_i h1
   obtain rfl|hr:=Ax.1 hr
   ·exact h1
   ·exact OZ h r hr
  ·rename_i h1;exact absurd h h1
theorem Wv{og:List ByteArray}{l:List Rec}(h:(DW og l).2=0):nck og=0/\l.length<=2048/\(∀r∈l,Dc r=0)/\(Ie og l).length<=65536/\(DW og l).1=Ie og l:=by
 unfold DW at h ⊢;by_cases h1:nck og=0
 ·rw[if_neg (fun e=>e h1)]at h ⊢;by_cases h2:2048<l.length
  ·rw[if_pos h2]at h;cases h
  ·rw[if_neg h2]at h ⊢;by_cases h3:Cj l=0
   ·rw[if_neg (fun e=>e h3)]at h ⊢;by_cases h4:65536<(Ie og l).length
    ·rw[if_pos h4]at h;cases h
    ·rw[if_neg h4];exact⟨h1,by omega,OZ h3,by omega,rfl⟩
   ·rw[if_pos h3]at h;exact absurd h h3
 ·rw[if_pos h1]at h;exact absurd h h1
theorem gS{og:List ByteArray}{l:List Rec}(h:(DW og l).2≠0):(DW og l).1=[]:=by
 unfold DW at h ⊢
 repeat' split
 all_goals first|rfl|simp_all
theorem XR{og other:List ByteArray}{l:List Rec}{t:ByteArray}(h:(DW og l).2=0)(hi:∀r∈l,InR r)(ho:nck other=0)(ht:t.data.toList=(DW og l).1) :
  Mc t other=.ok l/\∀r∈l,(Hz r).2=0/\(Hz r).1.count 10=1/\∀s:ByteArray,s.data.toList=(Hz r).1->Mc s other=.ok [r]:=by
 obtain⟨h1,h2,h3,h4,h5⟩:=Wv h;have hp:∀r∈l,PrR r:=fun r hr=>rN (h3 r hr) (hi r hr)
 rw[h5]at ht;refine⟨Yg h1 ho hp h2 ht (by
  have:=congrArg FH ht;have e:t.data.toList.length=t.size:=rfl;omega),fun r hr=>?_⟩
 have hl:Hz r=(DM r,0):=by unfold Hz;rw[if_pos (h3 r hr)]
 rw[hl];refine⟨rfl,lV (hp r hr),fun s hs=>bW ho (hp r hr) hs ?_⟩;have:=VD (hp r hr) (hi r hr).s (hi r hr).r;have e:=congrArg FH hs;have e2:s.data.toList.length=s.size:=rfl;simp only at e;omega
end Go.Proofs.YtoppdmlmhigogaaGreatDoor
namespace Go.Proofs.YtoppdmlmhigogaaGreatDoor
open Go.ChangeShapes Go.WideShapes Go.ChangeAt Go.RowKit Go.Sort
theorem mA(t:ByteArray)(hne:t.size≠0)(hmax:t.size<=9223372036854775806)(w:Ab) :
  Ag Aa 234 #[.string t,.int .i64 10,.int .i64 31] w fun e w'=>e=.returned (Lib.uintTupleM 287 2147483647 (Ck 2147483647 0 t.data.toList))/\w'=Eu w 5 t:=by
 have hemp:t.toList.isEmpty=false:=by
  rw[<- decide_eq_emptyBytes];exact decide_eq_false (fun h=>hne (by rw[h];rfl))
 have hcv:=Lib.run_convert_string_bytes (P:=Aa) w 9 39 5 t (u:=.string) AK AI Ba;have hB:∀j,j<t.size->(Eu w 5 t).cell? ⟨w.heap.size,j,none⟩=some (.int .u8 (t.data.toList.getD j 0).toNat):=fun j hj=>Lib.bytesWorld_cell w 5 t j hj
 obtain⟨W1,hW1⟩:∃W1,W1=Eu w 5 t:=⟨_,rfl⟩;rw[<- hW1]at hcv hB ⊢;clear hW1;obtain⟨bs,hL⟩:∃bs,bs=t.data.toList:=⟨_,rfl⟩;have hLn:bs.length=t.size:=by rw[hL,Lib.size_eq]
 rw[<- hL]at hB ⊢;clear hL;have hmv:LL.wrap (LL.wrap 2147483648 - 1)=2147483647:=by
  rw[MN,MN];decide
 go_enter NR,Tryz.ntmps234;go_wp2
 go_loop [12,13,101] (fun vu vn vi=>∃(k acc:Nat) (a:Int),vu=.bool false/\vn=.int .u64 a/\vi=.int .i64 k/\k<=t.size/\Hid (a=(acc:Int)/\acc<=2147483647/\Ck 2147483647 0 bs=Ck 2147483647 acc (bs.drop k)))
  (fun _ _ vi=>t.size - (intOf vi).toNat)
 case atStart=>exact⟨0,0,0,rfl,rfl,rfl,by omega,rfl,by omega,rfl⟩
 case round=>
  obtain⟨k,acc,a,rfl,rfl,rfl,hk,hh⟩:=hrel;obtain⟨ha,hacc,hdec⟩:=hh.out;clear hh;have a0:0<=a:=by omega
  have a1:a<=2147483647:=by omega
  by_cases hkn:k<t.size
  ·have hc:=hB k hkn;have hdrop:bs.drop k=bs[k]'(by omega)::bs.drop (k+1):=El (by omega);have hget:bs.getD k 0=bs[k]'(by omega):=by simp[List.getD,AF (show k<bs.length by omega)]
   rw[hdrop]at hdec;rw[hget]at hc;generalize bs[k]'(by omega)=c at hc hdec;have hc256:c.toNat<256:=c.toNat_lt;clear hB hdrop hget;generalize hR:bs.drop (k+1)=R at hdec;by_cases hdig:48<=c.toNat/\c.toNat<=57
   ·obtain⟨hd0,hd1⟩:=hdig;have hcut:¬ 1844674407370955162<=acc:=by omega
    by_cases hov:2147483647<acc*10+(c.toNat - 48)
    ·have hF:Ck 2147483647 acc (c::R)=.range:=by simp[Ck,hd0,hd1,hcut,hov]
     rw[hF]at hdec;have iov:2147483647<a*10+((c.toNat:Int) - 48):=by omega
     clear hcut hacc hF hov ha;go_wp2;go_ret2;exact⟨rfl,rfl⟩
    ·have hF:Ck 2147483647 acc (c::R)=Ck 2147483647 (acc*10+(c.toNat - 48)) R:=by simp[Ck,hd0,hd1,hcut,hov]
     have HN:Hid (a*10+((c.toNat:Int) - 48)=((acc*10+(c.toNat - 48):Nat):Int)/\acc*10+(c.toNat - 48)<=2147483647/\Ck 2147483647 0 bs=Ck 2147483647 (acc*10+(c.toNat - 48)) (bs.drop (k+1))):=Ac ⟨by omega,by omega,by rw[hR];exact hdec.trans hF⟩;have iov:a*10+((c.toNat:Int) - 48)<=2147483647:=by omega
     clear hcut hacc hF hov hdec ha;go_wp2;refine⟨⟨k+1,acc*10+(c.toNat - 48),a*10+((c.toNat:Int) - 48),rfl,(by first|rfl|(congr 1;omega)),(by first|rfl|(congr 1;omega)),by omega,HN⟩,by simp[intOf];omega⟩
   ·have hF:Ck 2147483647 acc (c::R)=.syntax:=by simp[Ck,hdig]
    rw[hF]at hdec;have KL:=Ac (Zo c.toNat hc256);have hv256:=(UA ⟨c.toNat,hc256⟩).2.2.2;have h95:c.toNat=95->c.toNat ||| 32=127:=by intro h;rw[h];rfl
    simp only at hv256;clear hacc hF ha;generalize c.toNat ||| 32=v at*
    by_cases h97:97<=v/\v<=122
    ·have hn95:¬ (c.toNat:Int)=95:=by intro h;have:=h95 (by omega);omega
     have i97:(97:Int)<=(v:Int):=by omega
     have i122:(v:Int)<=122:=by omega
     clear h95;obtain hq|hq:=(by omega:(c.toNat:Int)<48∨57<(c.toNat:Int))
     all_goals
      go_wp2_with (go_at_call 249;refine(KL.out _).mono ?_;rintro e w' ⟨rfl,hw⟩;subst w');go_ret2;first|exact⟨rfl,rfl⟩|exact⟨by rw[hdec];rfl,rfl⟩
    ·by_cases h97':97<=v
     ·have i97:(97:Int)<=(v:Int):=by omega
      have i122:122<(v:Int):=by omega
      clear h95;obtain hq|⟨hq,hq2⟩|hq|hq:=(by omega:(c.toNat:Int)<48∨(57<(c.toNat:Int)/\(c.toNat:Int)<95)∨95<(c.toNat:Int)∨c.toNat=95)
      case inr.inr.inr=>
       have hq:(c.toNat:Int)=95:=by omega
       rw[hq]at hc KL;go_wp2_with (go_at_call 249;refine(KL.out _).mono ?_;rintro e w' ⟨rfl,hw⟩;subst w');go_ret2;first|exact⟨rfl,rfl⟩|exact⟨by rw[hdec];rfl,rfl⟩
      all_goals
       go_wp2_with (go_at_call 249;refine(KL.out _).mono ?_;rintro e w' ⟨rfl,hw⟩;subst w');go_ret2;first|exact⟨rfl,rfl⟩|exact⟨by rw[hdec];rfl,rfl⟩
     ·have hn95:¬ (c.toNat:Int)=95:=by intro h;have:=h95 (by omega);omega
      have i97:(v:Int)<97:=by omega
      clear h95;obtain hq|hq:=(by omega:(c.toNat:Int)<48∨57<(c.toNat:Int))
      all_goals
       go_wp2_with (go_at_call 249;refine(KL.out _).mono ?_;rintro e w' ⟨rfl,hw⟩;subst w');go_ret2;first|exact⟨rfl,rfl⟩|exact⟨by rw[hdec];rfl,rfl⟩
  ·have hkk:k=t.size:=by omega
   subst hkk;have hF:Ck 2147483647 acc (bs.drop t.size)=.ok acc:=by rw[DH (by omega)];rfl
   rw[hF]at hdec;subst ha;clear hacc hF a0 a1;go_wp2;go_ret2;first|exact⟨rfl,rfl⟩|exact⟨by rw[hdec];rfl,rfl⟩
theorem WK(w:Ab):Ag Aa 234 #[.string ⟨#[]⟩,.int .i64 10,.int .i64 31] w fun e w'=>e=.returned (.tuple #[.int .u64 0,.iface 287 (.int .i64 2)])/\w'=w:=by
 go_enter NR,Tryz.ntmps234;go_wp2;go_ret2;exact⟨rfl,rfl⟩
end Go.Proofs.YtoppdmlmhigogaaGreatDoor
