/- Texts laid together, in parts: Zm Zn Zo Ma Mb Mb2 Sht Fol Mc Md. -/
import Derived.Test.YtjkljpdolhglcaaGreatDoorWoh
import Derived.WalkMore
import Derived.Shelf.Strings.Trim
import Derived.Test.YtjkljpdolhglcaaGreatDoorProg
import Derived.Deep.QuietTactic
import Derived.Shelf.Strings.SlTrimAscii
set_option maxRecDepth 100000
set_option maxHeartbeats 8000000
set_option linter.unusedVariables false
set_option linter.unusedSimpArgs false
namespace Go.Proofs.YtjkljpdolhglcaaGreatDoor
open Go.ChangeShapes Go.WideShapes Go.ChangeAt Go.RowKit
theorem end52_any(B R:Nat)(w0:Fx)(w:World)(s:ByteArray)(q:Cf)(start:Nat)(wv ev:Value)(wS:World)(k:Nat)(h:RSZ B R w0 w s q start wv ev wS)(hP:∀p∈w0.P,p.1<w.heap.size)(hs:s.size<=1000000)(hk:q.st=k)(hst:k<=6)(hc:q.st=1->CurS s q start s.size)(hw:q.ws.length<=64)(he:q.es.length<=1000000) :
  Calls Tryz.prog 60 #[.pointer (some ⟨R,0,none⟩),.int .u8 k] w (FnP B R w0 s (finF (linesF s.data.toList) q)):=by
 by_cases h1:k=3∨k=2∨k=4
 ·exact end52_no B R w0 w s q start wv ev wS k h hP hs hk h1
 ·by_cases h2:k=1
  ·exact end52_word B R w0 w s q start wv ev wS k h hP hs hk h2 (hc (by omega)) hw he
  ·exact end52_out B R w0 w s q start wv ev wS k h hP hs hk (by omega) he
structure Nb(q:Cf)(p:Nat):Prop where
 st:q.st<=6
 ln:q.line<=p+1
 op:q.op<=p
 es:q.es.length<=p
 ws:q.ws.length<=64
theorem keep_nb{q q':Cf}{b:Bool}(h:keepF q b=some q')(hw:q.ws.length<=64):q'.ws.length<=64/\q'.op=q.op/\q'.line=q.line/\q'.es=q.es:=by
 have h1:=keepF_es h
 have h2:=keep_line h
 unfold keepF at h
 split at h
 ·cases h
 ·refine ⟨?_,h1.2.1,h2,h1.1⟩
  rw[h1.2.2];simp;omega
theorem close_nb(q:Cf):(closeF q).es.length<=q.es.length+1:=by
 unfold closeF;simp only;split <;> simp
theorem out_nb{q q':Cf}{p:Nat}{c:UInt8}{r:List UInt8}(h:outF q c r=some q')(hl:q.line<=p+1)(ho:q.op<=p)(he:q.es.length<=p)(hw:q.ws.length<=64):Nb q' (p+1):=by
 unfold outF at h
 split at h
 ·cases h;exact ⟨by simp,by simp;omega,by simp;omega,by simp;omega,hw⟩
 ·split at h
  ·cases h;exact ⟨by simp,by simp;omega,by simp;omega,by simp;omega,hw⟩
  ·split at h
   ·split at h
    ·cases h
    ·cases h;exact ⟨by simp,by simp;omega,by simp;omega,by simp;omega,hw⟩
   ·split at h
    ·split at h
     ·cases h
      have:=close_nb { q with st:=0,line:=q.line+1 }
      refine ⟨by simp[beginF,closeF],by simp[beginF,closeF];omega,by simp[beginF,closeF];omega,?_,by simp[beginF]⟩
      show (closeF _).es.length<=p+1
      simp only at this;omega
     ·cases h;exact ⟨by simp,by simp;omega,by simp;omega,by simp;omega,hw⟩
    ·cases h;exact ⟨by simp,by simp;omega,by simp;omega,by simp;omega,hw⟩
theorem Nb.step{q q':Cf}{p:Nat}{c:UInt8}{r:List UInt8}(h:Nb q p)(hs:stepF q c r=.ok q'):Nb q' (p+1):=by
 obtain ⟨h1,h2,h3,h4,h5⟩:=h
 have m:∀k cur,k<=6->Nb { q with st:=k,cur:=cur } (p+1):=fun k cur hk=>⟨hk,by simp;omega,by simp;omega,by simp;omega,h5⟩
 unfold stepF at hs
 split at hs
 ·cases hs
 ·split at hs
  ·unfold firstF at hs
   split at hs
   ·exact out_nb (outR_ok hs) h2 h3 h4 h5
   ·split at hs
    ·cases hs;exact m 3 _ (by omega)
    ·split at hs
     ·cases hs;exact m 2 _ (by omega)
     ·cases hs;exact m 1 _ (by omega)
  ·split at hs
   ·unfold nextF at hs
    split at hs
    ·split at hs
     ·cases hs
     ·rename_i q1 hk
      obtain ⟨k1,k2,k3,k4⟩:=keep_nb hk h5
      exact out_nb (outR_ok hs) (by omega) (by omega) (by rw[k4];exact h4) k1
    ·split at hs
     ·cases hs
     ·split at hs
      ·cases hs;exact m 2 _ (by omega)
      ·cases hs;exact m 1 _ (by omega)
   ·split at hs
    ·cases hs;exact m 1 _ (by omega)
    ·split at hs
     ·unfold quotF at hs
      split at hs
      ·split at hs
       ·cases hs
       ·rename_i q1 hk
        obtain ⟨k1,k2,k3,k4⟩:=keep_nb hk h5
        cases hs
        exact ⟨by simp,by simp;omega,by simp;omega,by simp[k4];omega,k1⟩
      ·split at hs
       ·cases hs;exact m 4 _ (by omega)
       ·cases hs;exact m 3 _ (by omega)
     ·split at hs
      ·cases hs;exact m 3 _ (by omega)
      ·split at hs
       ·split at hs
        ·exact out_nb (outR_ok hs) h2 h3 h4 h5
        ·cases hs
       ·split at hs
        ·exact out_nb (outR_ok hs) h2 h3 h4 h5
        ·cases hs;exact ⟨h1,by omega,by omega,by omega,h5⟩
def Cu(s:ByteArray)(q:Cf)(start p:Nat):Prop:=(q.st=1∨q.st=2∨q.st=3∨q.st=4)->CurS s q start p
theorem drop_at(s:ByteArray)(p:Nat)(h:p<s.size):s.data.toList.drop p=s[p]::s.data.toList.drop (p+1):=by
 rw[List.drop_eq_getElem_cons (by simpa using h)];rfl
theorem run29(B R:Nat)(w0:Fx)(w:World)(s:ByteArray)(q0:Cf)(start0:Nat)(wv0 ev0:Value)(wS0:World)(h:RSZ B R w0 w s q0 start0 wv0 ev0 wS0)(hP:∀p∈w0.P,p.1<w.heap.size)(hs:s.size<=100000)(hq:q0.st=0)(hn:Nb q0 0) :
  Calls Tryz.prog 34 #[.pointer (some ⟨R,0,none⟩)] w (FnP B R w0 s (goF (linesF s.data.toList) q0 s.data.toList)):=by
 obtain ⟨G,hG⟩:∃G,goF (linesF s.data.toList) q0 s.data.toList=G:=⟨_,rfl⟩
 rw[hG]
 have hlt:=h.bx.lt
 have hB:B<=w.heap.size:=by have:=h.br;omega
 have HA:=Lib.hid ((h.go (al_below w (.cells #[.int .i64 0,.int .i64 0] 28))).put w.heap.size 0 0 (heap_alloc_new w _))
 have HJ:Hid (∀p∈w0.P,p.1≠w.heap.size):=fun p hp e=>by have:=hP p hp;omega
 have HPP:Hid (∀W:World,w.heap.size<W.heap.size->∀p∈(w0.put w.heap.size 0 0).P,p.1<W.heap.size):=fun W hW p hp=>by
  rcases List.mem_cons.1 hp with rfl|hp
  ·exact hW
  ·have:=hP p hp;omega
 have c0:=HA.out.bx.c0
 have HN:=Lib.hid hn
 have HG:=Lib.hid hG
 have HQ:=Lib.hid hq
 -- what is left to do behind the loop
 have HEND:Hid (∀(W:World) (a b:Nat),FnQ B R (w0.put w.heap.size 0 0) s a b W G->(W.heap[w.heap.size]?=some (.cells #[.int .i64 0,.int .i64 0] 28 (0,0)))/\FnQ B R w0 s a b ((W.setCell ⟨w.heap.size,0,none⟩ (.int .i64 a)).setCell ⟨w.heap.size,1,none⟩ (.int .i64 b)) G):=fun W a b hW=>by
  cases G with
  |er e l=>exact ⟨hW.2.2.cell,hW.1,hW.2.1,hW.2.2.pop.res hB HJ.out _ _⟩
  |ok es=>
   obtain ⟨h1,h2,q,st,wv,ev,h3,h4⟩:=hW
   exact ⟨h4.bl.cell,h1,h2,q,st,wv,ev,h3,h4.pop.res h4.bl.cell hB HJ.out _ _⟩
 clear h hP hn hG hq
 go_enter Tryz.func34,Tryz.ntmps34
 go_wp2
 go_step3
 go_wp2
 go_step3
 go_wp2
 go_loopw [3,4,12] (fun x3 x4 x12 wr=>∃(p k:Nat) (q:Cf) (start:Nat) (wv ev:Value) (wS:World),x3=.int .u8 k/\x4=.int .i64 0/\x12=.int .i64 p/\p<=s.size/\k<=6/\Hid (q.st=k)/\Hid (RSZ B R (w0.put w.heap.size 0 0) wr s q start wv ev wS)/\Hid (goF (linesF s.data.toList) q (s.data.toList.drop p)=G)/\Hid (Cu s q start p)/\Hid (Nb q p)) (fun _ _ x12 _=>s.size - (intOf x12).toNat)
 case atStart=>exact ⟨0,0,q0,start0,wv0,ev0,wS0,rfl,rfl,rfl,Nat.zero_le _,by omega,HQ,HA,(by show _=_;rw[List.drop_zero];exact HG.out),(fun e=>by have:=HQ.out;omega),HN⟩
 case round=>
  obtain ⟨p,k,q,start,wv,ev,wS,rfl,rfl,rfl,hp,hk6,HK,HRS,HGO,HCU,HNB⟩:=hrel
  by_cases hpe:p=s.size
  ·have KE:=Lib.hid (end52_any B R (w0.put w.heap.size 0 0) wr s q start wv ev wS k HRS.out (HPP.out _ (rc_lt HRS.out.bl.cell)) (by omega) HK.out hk6 (fun e=>hpe ▸ HCU.out (.inl e)) HNB.out.ws (by have:=HNB.out.es;omega))
   have HGX:Hid (finF (linesF s.data.toList) q=G):=(by
    show _=_
    rw[<- HGO.out,hpe,List.drop_of_length_le (by simp)];rfl)
   rw[HGX.out] at KE
   have hge:¬ (p:Int)<(s.size:Int):=by omega
   have c0w:=HRS.out.bx.c0
   clear HCU HNB HGO hpe
   go_wp2_with fail
   refine KE.out.mono ?_
   rintro e w2 ⟨a,b,rfl,H2⟩
   have HFN:=Lib.hid (HEND.out w2 a b H2.out)
   have k0:=rc_c0 HFN.out.1
   have k1:=rc_c1 HFN.out.1
   have kf:=rc_fz HFN.out.1
   have kl:=rc_lt HFN.out.1
   have z0:=rc_c0 (rc_put HFN.out.1 (.int .i64 a) (.int .i64 b))
   have z1:=rc_c1 (rc_put HFN.out.1 (.int .i64 a) (.int .i64 b))
   go_wp2_with fail
   try rw[Exit.noGoto_ret]
   refine bodyPost_ret (v:=.agg #[.int .i64 a,.int .i64 b]) ?_ rfl ⟨a,b,rfl,HFN.out.2⟩
   simp[results,Tryz.results34,go_sem,z0,z1,k0,k1,kl]
  ·have hpl:p<s.size:=by omega
   have hpl':(p:Int)<(s.size:Int):=by omega
   have c0w:=HRS.out.bx.c0
   have HD:=Lib.hid (drop_at s p hpl)
   have n10:=nbz s[p] 10
   simp only[show ((10:UInt8).toNat:Int)=10 from rfl] at n10
   have K46:=Lib.hid (fun w=>esc46 k w)
   clear hpe
   cases hX:stepF q s[p] (s.data.toList.drop (p+1)) with
   |er n=>
    have HX:=Lib.hid hX
    have HN0:Hid (n=230∨n=3):=step_er hX
    have HGX:Hid (G=.er n q.line):=(by show _=_;rw[<- HGO.out,HD.out,goF,hX])
    clear hX
    have hkk:k=0∨k=1∨k=2∨k=3∨k=4∨k=5∨k=6:=by omega
    rcases hkk with rfl|rfl|rfl|rfl|rfl|rfl|rfl
    ·rw[show decide ((0:Nat)=2∨(0:Nat)=4)=false from by decide] at K46
     have HSF:Hid (firstF q s[p] (s.data.toList.drop (p+1))=Rs.er n):=(by show _=_;have:=HX.out;simpa [stepF,HK.out] using this)
     clear HX HD HGO
     by_cases h10:s[p]=10
     ·have e10:((s[p].toNat:Nat):Int)=10:=bz s[p] 10 h10
      clear h10 n10
      have KS:=Lib.hid (first47 B R (w0.put w.heap.size 0 0) wr s q start wv ev wS p HRS.out hpl (by omega) (by have:=HNB.out.ln;omega) (by have:=HNB.out.op;omega) (by have:=HNB.out.es;omega))
      rw[HSF.out] at KS
      clear HCU HNB HSF HRS
      go_wp2_with fail
      refine (K46.out _).mono ?_
      rintro e w9 ⟨rfl,rfl⟩
      go_wp2_with fail
      refine KS.out.mono ?_
      rintro e w2 ⟨k2,er,rfl,H2⟩
      obtain ⟨rfl,q2,st2,wv2,ev2,wS2,hl2,r2⟩:=H2.out
      have HLN:=Lib.hid hl2
      have HR2:=Lib.hid r2
      clear H2 r2 hl2
      have hn0:¬ (er:Int)=0:=by have:=HN0.out;omega
      have hn1:((er:Int) == 0)=false:=by simpa using hn0
      have d1:=HR2.out.bx.c1
      rw[HLN.out] at d1
      have HFN:=Lib.hid (HEND.out _ er q.line (by rw[HGX.out];exact ⟨rfl,rfl,HR2.out.bl⟩))
      have k0:=rc_c0 HFN.out.1
      have k1:=rc_c1 HFN.out.1
      have kf:=rc_fz HFN.out.1
      have kl:=rc_lt HFN.out.1
      have z0:=rc_c0 (rc_put HFN.out.1 (.int .i64 (er:Nat)) (.int .i64 q.line))
      have z1:=rc_c1 (rc_put HFN.out.1 (.int .i64 (er:Nat)) (.int .i64 q.line))
      go_wp2_with fail
      try rw[Exit.noGoto_ret]
      refine bodyPost_ret (v:=.agg #[.int .i64 (er:Nat),.int .i64 q.line]) ?_ rfl ⟨er,q.line,rfl,HFN.out.2⟩
      simp[results,Tryz.results34,go_sem,z0,z1,k0,k1,kl]
     ·have m10:=n10 h10
      clear n10
      have KS:=Lib.hid (first47 B R (w0.put w.heap.size 0 0) wr s q start wv ev wS p HRS.out hpl (by omega) (by have:=HNB.out.ln;omega) (by have:=HNB.out.op;omega) (by have:=HNB.out.es;omega))
      rw[HSF.out] at KS
      clear HCU HNB HSF HRS
      go_wp2_with fail
      refine KS.out.mono ?_
      rintro e w2 ⟨k2,er,rfl,H2⟩
      obtain ⟨rfl,q2,st2,wv2,ev2,wS2,hl2,r2⟩:=H2.out
      have HLN:=Lib.hid hl2
      have HR2:=Lib.hid r2
      clear H2 r2 hl2
      have hn0:¬ (er:Int)=0:=by have:=HN0.out;omega
      have hn1:((er:Int) == 0)=false:=by simpa using hn0
      have d1:=HR2.out.bx.c1
      rw[HLN.out] at d1
      have HFN:=Lib.hid (HEND.out _ er q.line (by rw[HGX.out];exact ⟨rfl,rfl,HR2.out.bl⟩))
      have k0:=rc_c0 HFN.out.1
      have k1:=rc_c1 HFN.out.1
      have kf:=rc_fz HFN.out.1
      have kl:=rc_lt HFN.out.1
      have z0:=rc_c0 (rc_put HFN.out.1 (.int .i64 (er:Nat)) (.int .i64 q.line))
      have z1:=rc_c1 (rc_put HFN.out.1 (.int .i64 (er:Nat)) (.int .i64 q.line))
      go_wp2_with fail
      try rw[Exit.noGoto_ret]
      refine bodyPost_ret (v:=.agg #[.int .i64 (er:Nat),.int .i64 q.line]) ?_ rfl ⟨er,q.line,rfl,HFN.out.2⟩
      simp[results,Tryz.results34,go_sem,z0,z1,k0,k1,kl]
    ·rw[show decide ((1:Nat)=2∨(1:Nat)=4)=false from by decide] at K46
     have HSF:Hid (nextF q s[p] (s.data.toList.drop (p+1))=Rs.er n):=(by show _=_;have:=HX.out;simpa [stepF,HK.out] using this)
     clear HX HD HGO
     by_cases h10:s[p]=10
     ·have e10:((s[p].toNat:Nat):Int)=10:=bz s[p] 10 h10
      clear h10 n10
      have KS:=Lib.hid (next48 B R (w0.put w.heap.size 0 0) wr s q start wv ev wS p HRS.out (HCU.out (.inl HK.out)) hpl (by omega) (by have:=HNB.out.ln;omega) (by have:=HNB.out.op;omega) (by have:=HNB.out.es;omega) HNB.out.ws)
      rw[HSF.out] at KS
      clear HCU HNB HSF HRS
      go_wp2_with fail
      refine (K46.out _).mono ?_
      rintro e w9 ⟨rfl,rfl⟩
      go_wp2_with fail
      refine KS.out.mono ?_
      rintro e w2 ⟨k2,er,rfl,H2⟩
      obtain ⟨rfl,q2,st2,wv2,ev2,wS2,hl2,r2⟩:=H2.out
      have HLN:=Lib.hid hl2
      have HR2:=Lib.hid r2
      clear H2 r2 hl2
      have hn0:¬ (er:Int)=0:=by have:=HN0.out;omega
      have hn1:((er:Int) == 0)=false:=by simpa using hn0
      have d1:=HR2.out.bx.c1
      rw[HLN.out] at d1
      have HFN:=Lib.hid (HEND.out _ er q.line (by rw[HGX.out];exact ⟨rfl,rfl,HR2.out.bl⟩))
      have k0:=rc_c0 HFN.out.1
      have k1:=rc_c1 HFN.out.1
      have kf:=rc_fz HFN.out.1
      have kl:=rc_lt HFN.out.1
      have z0:=rc_c0 (rc_put HFN.out.1 (.int .i64 (er:Nat)) (.int .i64 q.line))
      have z1:=rc_c1 (rc_put HFN.out.1 (.int .i64 (er:Nat)) (.int .i64 q.line))
      go_wp2_with fail
      try rw[Exit.noGoto_ret]
      refine bodyPost_ret (v:=.agg #[.int .i64 (er:Nat),.int .i64 q.line]) ?_ rfl ⟨er,q.line,rfl,HFN.out.2⟩
      simp[results,Tryz.results34,go_sem,z0,z1,k0,k1,kl]
     ·have m10:=n10 h10
      clear n10
      have KS:=Lib.hid (next48 B R (w0.put w.heap.size 0 0) wr s q start wv ev wS p HRS.out (HCU.out (.inl HK.out)) hpl (by omega) (by have:=HNB.out.ln;omega) (by have:=HNB.out.op;omega) (by have:=HNB.out.es;omega) HNB.out.ws)
      rw[HSF.out] at KS
      clear HCU HNB HSF HRS
      go_wp2_with fail
      refine KS.out.mono ?_
      rintro e w2 ⟨k2,er,rfl,H2⟩
      obtain ⟨rfl,q2,st2,wv2,ev2,wS2,hl2,r2⟩:=H2.out
      have HLN:=Lib.hid hl2
      have HR2:=Lib.hid r2
      clear H2 r2 hl2
      have hn0:¬ (er:Int)=0:=by have:=HN0.out;omega
      have hn1:((er:Int) == 0)=false:=by simpa using hn0
      have d1:=HR2.out.bx.c1
      rw[HLN.out] at d1
      have HFN:=Lib.hid (HEND.out _ er q.line (by rw[HGX.out];exact ⟨rfl,rfl,HR2.out.bl⟩))
      have k0:=rc_c0 HFN.out.1
      have k1:=rc_c1 HFN.out.1
      have kf:=rc_fz HFN.out.1
      have kl:=rc_lt HFN.out.1
      have z0:=rc_c0 (rc_put HFN.out.1 (.int .i64 (er:Nat)) (.int .i64 q.line))
      have z1:=rc_c1 (rc_put HFN.out.1 (.int .i64 (er:Nat)) (.int .i64 q.line))
      go_wp2_with fail
      try rw[Exit.noGoto_ret]
      refine bodyPost_ret (v:=.agg #[.int .i64 (er:Nat),.int .i64 q.line]) ?_ rfl ⟨er,q.line,rfl,HFN.out.2⟩
      simp[results,Tryz.results34,go_sem,z0,z1,k0,k1,kl]
    ·rw[show decide ((2:Nat)=2∨(2:Nat)=4)=true from by decide] at K46
     by_cases h10:s[p]=10
     ·have e10:((s[p].toNat:Nat):Int)=10:=bz s[p] 10 h10
      have hn:n=230:=by
       have:=HX.out
       simp[stepF,HK.out,h10] at this
       exact this.symm
      subst hn
      clear h10 n10 HX HD HGO HCU HNB
      go_wp2_with fail
      refine (K46.out _).mono ?_
      rintro e w9 ⟨rfl,rfl⟩
      have d1:=HRS.out.bx.c1
      have HFN:=Lib.hid (HEND.out _ 230 q.line (by rw[HGX.out];exact ⟨rfl,rfl,HRS.out.bl⟩))
      have k0:=rc_c0 HFN.out.1
      have k1:=rc_c1 HFN.out.1
      have kf:=rc_fz HFN.out.1
      have kl:=rc_lt HFN.out.1
      have z0:=rc_c0 (rc_put HFN.out.1 (.int .i64 (230:Nat)) (.int .i64 q.line))
      have z1:=rc_c1 (rc_put HFN.out.1 (.int .i64 (230:Nat)) (.int .i64 q.line))
      go_wp2_with fail
      try rw[Exit.noGoto_ret]
      refine bodyPost_ret (v:=.agg #[.int .i64 (230:Nat),.int .i64 q.line]) ?_ rfl ⟨230,q.line,rfl,HFN.out.2⟩
      simp[results,Tryz.results34,go_sem,z0,z1,k0,k1,kl]
     ·exfalso
      have:=HX.out
      simp[stepF,HK.out,h10] at this
    ·rw[show decide ((3:Nat)=2∨(3:Nat)=4)=false from by decide] at K46
     by_cases h10:s[p]=10
     ·have e10:((s[p].toNat:Nat):Int)=10:=bz s[p] 10 h10
      have hn:n=230:=by
       have:=HX.out
       simp[stepF,HK.out,h10] at this
       exact this.symm
      subst hn
      clear h10 n10 HX HD HGO HCU HNB
      have d1:=HRS.out.bx.c1
      have HFN:=Lib.hid (HEND.out _ 230 q.line (by rw[HGX.out];exact ⟨rfl,rfl,HRS.out.bl⟩))
      have k0:=rc_c0 HFN.out.1
      have k1:=rc_c1 HFN.out.1
      have kf:=rc_fz HFN.out.1
      have kl:=rc_lt HFN.out.1
      have z0:=rc_c0 (rc_put HFN.out.1 (.int .i64 (230:Nat)) (.int .i64 q.line))
      have z1:=rc_c1 (rc_put HFN.out.1 (.int .i64 (230:Nat)) (.int .i64 q.line))
      go_wp2_with fail
      try rw[Exit.noGoto_ret]
      refine bodyPost_ret (v:=.agg #[.int .i64 (230:Nat),.int .i64 q.line]) ?_ rfl ⟨230,q.line,rfl,HFN.out.2⟩
      simp[results,Tryz.results34,go_sem,z0,z1,k0,k1,kl]
     ·have m10:=n10 h10
      have HSF:Hid (quotF q s[p]=Rs.er n):=(by show _=_;have:=HX.out;simpa [stepF,HK.out,h10] using this)
      clear HX HD HGO
      clear n10 h10
      have KS:=Lib.hid (quot49 B R (w0.put w.heap.size 0 0) wr s q start wv ev wS p HRS.out (HCU.out (.inr (.inr (.inl HK.out)))) hpl (by omega) HNB.out.ws)
      rw[HSF.out] at KS
      clear HCU HNB HSF HRS
      go_wp2_with fail
      refine KS.out.mono ?_
      rintro e w2 ⟨k2,er,rfl,H2⟩
      obtain ⟨rfl,q2,st2,wv2,ev2,wS2,hl2,r2⟩:=H2.out
      have HLN:=Lib.hid hl2
      have HR2:=Lib.hid r2
      clear H2 r2 hl2
      have hn0:¬ (er:Int)=0:=by have:=HN0.out;omega
      have hn1:((er:Int) == 0)=false:=by simpa using hn0
      have d1:=HR2.out.bx.c1
      rw[HLN.out] at d1
      have HFN:=Lib.hid (HEND.out _ er q.line (by rw[HGX.out];exact ⟨rfl,rfl,HR2.out.bl⟩))
      have k0:=rc_c0 HFN.out.1
      have k1:=rc_c1 HFN.out.1
      have kf:=rc_fz HFN.out.1
      have kl:=rc_lt HFN.out.1
      have z0:=rc_c0 (rc_put HFN.out.1 (.int .i64 (er:Nat)) (.int .i64 q.line))
      have z1:=rc_c1 (rc_put HFN.out.1 (.int .i64 (er:Nat)) (.int .i64 q.line))
      go_wp2_with fail
      try rw[Exit.noGoto_ret]
      refine bodyPost_ret (v:=.agg #[.int .i64 (er:Nat),.int .i64 q.line]) ?_ rfl ⟨er,q.line,rfl,HFN.out.2⟩
      simp[results,Tryz.results34,go_sem,z0,z1,k0,k1,kl]
    ·rw[show decide ((4:Nat)=2∨(4:Nat)=4)=true from by decide] at K46
     by_cases h10:s[p]=10
     ·have e10:((s[p].toNat:Nat):Int)=10:=bz s[p] 10 h10
      have hn:n=230:=by
       have:=HX.out
       simp[stepF,HK.out,h10] at this
       exact this.symm
      subst hn
      clear h10 n10 HX HD HGO HCU HNB
      go_wp2_with fail
      refine (K46.out _).mono ?_
      rintro e w9 ⟨rfl,rfl⟩
      have d1:=HRS.out.bx.c1
      have HFN:=Lib.hid (HEND.out _ 230 q.line (by rw[HGX.out];exact ⟨rfl,rfl,HRS.out.bl⟩))
      have k0:=rc_c0 HFN.out.1
      have k1:=rc_c1 HFN.out.1
      have kf:=rc_fz HFN.out.1
      have kl:=rc_lt HFN.out.1
      have z0:=rc_c0 (rc_put HFN.out.1 (.int .i64 (230:Nat)) (.int .i64 q.line))
      have z1:=rc_c1 (rc_put HFN.out.1 (.int .i64 (230:Nat)) (.int .i64 q.line))
      go_wp2_with fail
      try rw[Exit.noGoto_ret]
      refine bodyPost_ret (v:=.agg #[.int .i64 (230:Nat),.int .i64 q.line]) ?_ rfl ⟨230,q.line,rfl,HFN.out.2⟩
      simp[results,Tryz.results34,go_sem,z0,z1,k0,k1,kl]
     ·exfalso
      have:=HX.out
      simp[stepF,HK.out,h10] at this
    ·rw[show decide ((5:Nat)=2∨(5:Nat)=4)=false from by decide] at K46
     by_cases h10:s[p]=10
     ·cases hen:endsW s[p] with
      |true=>
       have K50:=Lib.hid (fun w=>ends50 ((s[p].toNat:Nat):Int) w)
       have HZ:Hid (endsz ((s[p].toNat:Nat):Int)=endsW s[p]):=endsz_bI s[p]
       rw[HZ.out,hen] at K50
       have HSF:Hid (outR q s[p] (s.data.toList.drop (p+1))=Rs.er n):=(by show _=_;have:=HX.out;simpa [stepF,HK.out,hen] using this)
       have KS:=Lib.hid (outside51 B R (w0.put w.heap.size 0 0) wr s q start wv ev wS p HRS.out hpl (by omega) (by have:=HNB.out.ln;omega) (by have:=HNB.out.op;omega) (by have:=HNB.out.es;omega))
       rw[HSF.out] at KS
       have e10:((s[p].toNat:Nat):Int)=10:=bz s[p] 10 h10
       simp only[e10] at K50
       clear HX HD HGO HSF HCU HNB HRS h10 n10 HZ hen
       go_wp2_with fail
       refine (K46.out _).mono ?_
       rintro e w9 ⟨rfl,rfl⟩
       go_wp2_with fail
       refine (K50.out _).mono ?_
       rintro e w8 ⟨rfl,rfl⟩
       go_wp2_with fail
       refine KS.out.mono ?_
       rintro e w2 ⟨k2,er,rfl,H2⟩
       obtain ⟨rfl,q2,st2,wv2,ev2,wS2,hl2,r2⟩:=H2.out
       have HLN:=Lib.hid hl2
       have HR2:=Lib.hid r2
       clear H2 r2 hl2
       have hn0:¬ (er:Int)=0:=by have:=HN0.out;omega
       have hn1:((er:Int) == 0)=false:=by simpa using hn0
       have d1:=HR2.out.bx.c1
       rw[HLN.out] at d1
       have HFN:=Lib.hid (HEND.out _ er q.line (by rw[HGX.out];exact ⟨rfl,rfl,HR2.out.bl⟩))
       have k0:=rc_c0 HFN.out.1
       have k1:=rc_c1 HFN.out.1
       have kf:=rc_fz HFN.out.1
       have kl:=rc_lt HFN.out.1
       have z0:=rc_c0 (rc_put HFN.out.1 (.int .i64 (er:Nat)) (.int .i64 q.line))
       have z1:=rc_c1 (rc_put HFN.out.1 (.int .i64 (er:Nat)) (.int .i64 q.line))
       go_wp2_with fail
       try rw[Exit.noGoto_ret]
       refine bodyPost_ret (v:=.agg #[.int .i64 (er:Nat),.int .i64 q.line]) ?_ rfl ⟨er,q.line,rfl,HFN.out.2⟩
       simp[results,Tryz.results34,go_sem,z0,z1,k0,k1,kl]
      |false=>
       have K50:=Lib.hid (fun w=>ends50 ((s[p].toNat:Nat):Int) w)
       have HZ:Hid (endsz ((s[p].toNat:Nat):Int)=endsW s[p]):=endsz_bI s[p]
       rw[HZ.out,hen] at K50
       have hn:n=230:=by
        have:=HX.out
        simp[stepF,HK.out,hen] at this
        exact this.symm
       subst hn
       have e10:((s[p].toNat:Nat):Int)=10:=bz s[p] 10 h10
       simp only[e10] at K50
       clear h10 n10 HX HD HGO HCU HNB HZ hen
       go_wp2_with fail
       refine (K46.out _).mono ?_
       rintro e w9 ⟨rfl,rfl⟩
       go_wp2_with fail
       refine (K50.out _).mono ?_
       rintro e w8 ⟨rfl,rfl⟩
       have d1:=HRS.out.bx.c1
       have HFN:=Lib.hid (HEND.out _ 230 q.line (by rw[HGX.out];exact ⟨rfl,rfl,HRS.out.bl⟩))
       have k0:=rc_c0 HFN.out.1
       have k1:=rc_c1 HFN.out.1
       have kf:=rc_fz HFN.out.1
       have kl:=rc_lt HFN.out.1
       have z0:=rc_c0 (rc_put HFN.out.1 (.int .i64 (230:Nat)) (.int .i64 q.line))
       have z1:=rc_c1 (rc_put HFN.out.1 (.int .i64 (230:Nat)) (.int .i64 q.line))
       go_wp2_with fail
       try rw[Exit.noGoto_ret]
       refine bodyPost_ret (v:=.agg #[.int .i64 (230:Nat),.int .i64 q.line]) ?_ rfl ⟨230,q.line,rfl,HFN.out.2⟩
       simp[results,Tryz.results34,go_sem,z0,z1,k0,k1,kl]
     ·cases hen:endsW s[p] with
      |true=>
       have K50:=Lib.hid (fun w=>ends50 ((s[p].toNat:Nat):Int) w)
       have HZ:Hid (endsz ((s[p].toNat:Nat):Int)=endsW s[p]):=endsz_bI s[p]
       rw[HZ.out,hen] at K50
       have HSF:Hid (outR q s[p] (s.data.toList.drop (p+1))=Rs.er n):=(by show _=_;have:=HX.out;simpa [stepF,HK.out,hen] using this)
       have KS:=Lib.hid (outside51 B R (w0.put w.heap.size 0 0) wr s q start wv ev wS p HRS.out hpl (by omega) (by have:=HNB.out.ln;omega) (by have:=HNB.out.op;omega) (by have:=HNB.out.es;omega))
       rw[HSF.out] at KS
       have m10:=n10 h10
       clear HX HD HGO HSF HCU HNB HRS h10 n10 HZ hen
       go_wp2_with fail
       refine (K50.out _).mono ?_
       rintro e w8 ⟨rfl,rfl⟩
       go_wp2_with fail
       refine KS.out.mono ?_
       rintro e w2 ⟨k2,er,rfl,H2⟩
       obtain ⟨rfl,q2,st2,wv2,ev2,wS2,hl2,r2⟩:=H2.out
       have HLN:=Lib.hid hl2
       have HR2:=Lib.hid r2
       clear H2 r2 hl2
       have hn0:¬ (er:Int)=0:=by have:=HN0.out;omega
       have hn1:((er:Int) == 0)=false:=by simpa using hn0
       have d1:=HR2.out.bx.c1
       rw[HLN.out] at d1
       have HFN:=Lib.hid (HEND.out _ er q.line (by rw[HGX.out];exact ⟨rfl,rfl,HR2.out.bl⟩))
       have k0:=rc_c0 HFN.out.1
       have k1:=rc_c1 HFN.out.1
       have kf:=rc_fz HFN.out.1
       have kl:=rc_lt HFN.out.1
       have z0:=rc_c0 (rc_put HFN.out.1 (.int .i64 (er:Nat)) (.int .i64 q.line))
       have z1:=rc_c1 (rc_put HFN.out.1 (.int .i64 (er:Nat)) (.int .i64 q.line))
       go_wp2_with fail
       try rw[Exit.noGoto_ret]
       refine bodyPost_ret (v:=.agg #[.int .i64 (er:Nat),.int .i64 q.line]) ?_ rfl ⟨er,q.line,rfl,HFN.out.2⟩
       simp[results,Tryz.results34,go_sem,z0,z1,k0,k1,kl]
      |false=>
       have K50:=Lib.hid (fun w=>ends50 ((s[p].toNat:Nat):Int) w)
       have HZ:Hid (endsz ((s[p].toNat:Nat):Int)=endsW s[p]):=endsz_bI s[p]
       rw[HZ.out,hen] at K50
       have hn:n=230:=by
        have:=HX.out
        simp[stepF,HK.out,hen] at this
        exact this.symm
       subst hn
       have m10:=n10 h10
       clear h10 n10 HX HD HGO HCU HNB HZ hen
       go_wp2_with fail
       refine (K50.out _).mono ?_
       rintro e w8 ⟨rfl,rfl⟩
       have d1:=HRS.out.bx.c1
       have HFN:=Lib.hid (HEND.out _ 230 q.line (by rw[HGX.out];exact ⟨rfl,rfl,HRS.out.bl⟩))
       have k0:=rc_c0 HFN.out.1
       have k1:=rc_c1 HFN.out.1
       have kf:=rc_fz HFN.out.1
       have kl:=rc_lt HFN.out.1
       have z0:=rc_c0 (rc_put HFN.out.1 (.int .i64 (230:Nat)) (.int .i64 q.line))
       have z1:=rc_c1 (rc_put HFN.out.1 (.int .i64 (230:Nat)) (.int .i64 q.line))
       go_wp2_with fail
       try rw[Exit.noGoto_ret]
       refine bodyPost_ret (v:=.agg #[.int .i64 (230:Nat),.int .i64 q.line]) ?_ rfl ⟨230,q.line,rfl,HFN.out.2⟩
       simp[results,Tryz.results34,go_sem,z0,z1,k0,k1,kl]
    ·rw[show decide ((6:Nat)=2∨(6:Nat)=4)=false from by decide] at K46
     by_cases h10:s[p]=10
     ·have e10:((s[p].toNat:Nat):Int)=10:=bz s[p] 10 h10
      have HSF:Hid (outR q s[p] (s.data.toList.drop (p+1))=Rs.er n):=(by show _=_;have:=HX.out;simpa [stepF,HK.out,h10] using this)
      have KS:=Lib.hid (outside51 B R (w0.put w.heap.size 0 0) wr s q start wv ev wS p HRS.out hpl (by omega) (by have:=HNB.out.ln;omega) (by have:=HNB.out.op;omega) (by have:=HNB.out.es;omega))
      rw[HSF.out] at KS
      clear HX HD HGO HSF HCU HNB HRS h10 n10
      go_wp2_with fail
      refine (K46.out _).mono ?_
      rintro e w9 ⟨rfl,rfl⟩
      go_wp2_with fail
      refine KS.out.mono ?_
      rintro e w2 ⟨k2,er,rfl,H2⟩
      obtain ⟨rfl,q2,st2,wv2,ev2,wS2,hl2,r2⟩:=H2.out
      have HLN:=Lib.hid hl2
      have HR2:=Lib.hid r2
      clear H2 r2 hl2
      have hn0:¬ (er:Int)=0:=by have:=HN0.out;omega
      have hn1:((er:Int) == 0)=false:=by simpa using hn0
      have d1:=HR2.out.bx.c1
      rw[HLN.out] at d1
      have HFN:=Lib.hid (HEND.out _ er q.line (by rw[HGX.out];exact ⟨rfl,rfl,HR2.out.bl⟩))
      have k0:=rc_c0 HFN.out.1
      have k1:=rc_c1 HFN.out.1
      have kf:=rc_fz HFN.out.1
      have kl:=rc_lt HFN.out.1
      have z0:=rc_c0 (rc_put HFN.out.1 (.int .i64 (er:Nat)) (.int .i64 q.line))
      have z1:=rc_c1 (rc_put HFN.out.1 (.int .i64 (er:Nat)) (.int .i64 q.line))
      go_wp2_with fail
      try rw[Exit.noGoto_ret]
      refine bodyPost_ret (v:=.agg #[.int .i64 (er:Nat),.int .i64 q.line]) ?_ rfl ⟨er,q.line,rfl,HFN.out.2⟩
      simp[results,Tryz.results34,go_sem,z0,z1,k0,k1,kl]
     ·exfalso
      have:=HX.out
      simp[stepF,HK.out,h10] at this
   |ok q'=>
    have HX:=Lib.hid hX
    have HNB2:=Lib.hid (HNB.out.step hX)
    have HGX:Hid (goF (linesF s.data.toList) q' (s.data.toList.drop (p+1))=G):=(by show _=_;rw[<- HGO.out,HD.out,goF,hX])
    clear hX
    have hkk:k=0∨k=1∨k=2∨k=3∨k=4∨k=5∨k=6:=by omega
    rcases hkk with rfl|rfl|rfl|rfl|rfl|rfl|rfl
    ·rw[show decide ((0:Nat)=2∨(0:Nat)=4)=false from by decide] at K46
     have HSF:Hid (firstF q s[p] (s.data.toList.drop (p+1))=Rs.ok q'):=(by show _=_;have:=HX.out;simpa [stepF,HK.out] using this)
     clear HX HD HGO
     by_cases h10:s[p]=10
     ·have e10:((s[p].toNat:Nat):Int)=10:=bz s[p] 10 h10
      clear h10 n10
      have KS:=Lib.hid (first47 B R (w0.put w.heap.size 0 0) wr s q start wv ev wS p HRS.out hpl (by omega) (by have:=HNB.out.ln;omega) (by have:=HNB.out.op;omega) (by have:=HNB.out.es;omega))
      rw[HSF.out] at KS
      clear HCU HNB HSF HRS
      go_wp2_with fail
      refine (K46.out _).mono ?_
      rintro e w9 ⟨rfl,rfl⟩
      go_wp2_with fail
      refine KS.out.mono ?_
      rintro e w2 ⟨k2,er,rfl,H2⟩
      obtain ⟨rfl,rfl,st2,wv2,ev2,wS2,r2,cu2⟩:=H2.out
      have HR2:=Lib.hid r2
      have HC2:=Lib.hid cu2
      clear H2 r2 cu2
      go_wp2_with fail
      go_roundw
      case rel=>exact ⟨p+1,q'.st,q',st2,wv2,ev2,wS2,rfl,rfl,by go_num,by omega,HNB2.out.st,rfl,HR2,HGX,HC2,HNB2⟩
      case measure=>simp[intOf];omega
     ·have m10:=n10 h10
      clear n10
      have KS:=Lib.hid (first47 B R (w0.put w.heap.size 0 0) wr s q start wv ev wS p HRS.out hpl (by omega) (by have:=HNB.out.ln;omega) (by have:=HNB.out.op;omega) (by have:=HNB.out.es;omega))
      rw[HSF.out] at KS
      clear HCU HNB HSF HRS
      go_wp2_with fail
      refine KS.out.mono ?_
      rintro e w2 ⟨k2,er,rfl,H2⟩
      obtain ⟨rfl,rfl,st2,wv2,ev2,wS2,r2,cu2⟩:=H2.out
      have HR2:=Lib.hid r2
      have HC2:=Lib.hid cu2
      clear H2 r2 cu2
      go_wp2_with fail
      go_roundw
      case rel=>exact ⟨p+1,q'.st,q',st2,wv2,ev2,wS2,rfl,rfl,by go_num,by omega,HNB2.out.st,rfl,HR2,HGX,HC2,HNB2⟩
      case measure=>simp[intOf];omega
    ·rw[show decide ((1:Nat)=2∨(1:Nat)=4)=false from by decide] at K46
     have HSF:Hid (nextF q s[p] (s.data.toList.drop (p+1))=Rs.ok q'):=(by show _=_;have:=HX.out;simpa [stepF,HK.out] using this)
     clear HX HD HGO
     by_cases h10:s[p]=10
     ·have e10:((s[p].toNat:Nat):Int)=10:=bz s[p] 10 h10
      clear h10 n10
      have KS:=Lib.hid (next48 B R (w0.put w.heap.size 0 0) wr s q start wv ev wS p HRS.out (HCU.out (.inl HK.out)) hpl (by omega) (by have:=HNB.out.ln;omega) (by have:=HNB.out.op;omega) (by have:=HNB.out.es;omega) HNB.out.ws)
      rw[HSF.out] at KS
      clear HCU HNB HSF HRS
      go_wp2_with fail
      refine (K46.out _).mono ?_
      rintro e w9 ⟨rfl,rfl⟩
      go_wp2_with fail
      refine KS.out.mono ?_
      rintro e w2 ⟨k2,er,rfl,H2⟩
      obtain ⟨rfl,rfl,st2,wv2,ev2,wS2,r2,cu2⟩:=H2.out
      have HR2:=Lib.hid r2
      have HC2:=Lib.hid cu2
      clear H2 r2 cu2
      go_wp2_with fail
      go_roundw
      case rel=>exact ⟨p+1,q'.st,q',st2,wv2,ev2,wS2,rfl,rfl,by go_num,by omega,HNB2.out.st,rfl,HR2,HGX,HC2,HNB2⟩
      case measure=>simp[intOf];omega
     ·have m10:=n10 h10
      clear n10
      have KS:=Lib.hid (next48 B R (w0.put w.heap.size 0 0) wr s q start wv ev wS p HRS.out (HCU.out (.inl HK.out)) hpl (by omega) (by have:=HNB.out.ln;omega) (by have:=HNB.out.op;omega) (by have:=HNB.out.es;omega) HNB.out.ws)
      rw[HSF.out] at KS
      clear HCU HNB HSF HRS
      go_wp2_with fail
      refine KS.out.mono ?_
      rintro e w2 ⟨k2,er,rfl,H2⟩
      obtain ⟨rfl,rfl,st2,wv2,ev2,wS2,r2,cu2⟩:=H2.out
      have HR2:=Lib.hid r2
      have HC2:=Lib.hid cu2
      clear H2 r2 cu2
      go_wp2_with fail
      go_roundw
      case rel=>exact ⟨p+1,q'.st,q',st2,wv2,ev2,wS2,rfl,rfl,by go_num,by omega,HNB2.out.st,rfl,HR2,HGX,HC2,HNB2⟩
      case measure=>simp[intOf];omega
    ·rw[show decide ((2:Nat)=2∨(2:Nat)=4)=true from by decide] at K46
     by_cases h10:s[p]=10
     ·exfalso
      have:=HX.out
      simp[stepF,HK.out,h10] at this
     ·have m10:=n10 h10
      have hq:q'={ q with st:=1,cur:=q.cur++[s[p]] }:=by
       have:=HX.out
       simp[stepF,HK.out,h10] at this
       exact this.symm
      subst hq
      have HR2:=Lib.hid (HRS.out.setQ 1 (q.cur++[s[p]]))
      have HC2:Hid (Cu s { q with st:=1,cur:=q.cur++[s[p]] } start (p+1)):=fun _=>(HCU.out (.inr (.inl HK.out))).push hpl 1
      clear h10 n10 HX HD HGO HCU HNB HRS
      go_wp2_with fail
      go_roundw
      case rel=>exact ⟨p+1,1,{ q with st:=1,cur:=q.cur++[s[p]] },start,wv,ev,wS,rfl,rfl,by go_num,by omega,HNB2.out.st,rfl,HR2,HGX,HC2,HNB2⟩
      case measure=>simp[intOf];omega
    ·rw[show decide ((3:Nat)=2∨(3:Nat)=4)=false from by decide] at K46
     by_cases h10:s[p]=10
     ·exfalso
      have:=HX.out
      simp[stepF,HK.out,h10] at this
     ·have m10:=n10 h10
      have HSF:Hid (quotF q s[p]=Rs.ok q'):=(by show _=_;have:=HX.out;simpa [stepF,HK.out,h10] using this)
      clear HX HD HGO
      clear n10 h10
      have KS:=Lib.hid (quot49 B R (w0.put w.heap.size 0 0) wr s q start wv ev wS p HRS.out (HCU.out (.inr (.inr (.inl HK.out)))) hpl (by omega) HNB.out.ws)
      rw[HSF.out] at KS
      clear HCU HNB HSF HRS
      go_wp2_with fail
      refine KS.out.mono ?_
      rintro e w2 ⟨k2,er,rfl,H2⟩
      obtain ⟨rfl,rfl,st2,wv2,ev2,wS2,r2,cu2⟩:=H2.out
      have HR2:=Lib.hid r2
      have HC2:=Lib.hid cu2
      clear H2 r2 cu2
      go_wp2_with fail
      go_roundw
      case rel=>exact ⟨p+1,q'.st,q',st2,wv2,ev2,wS2,rfl,rfl,by go_num,by omega,HNB2.out.st,rfl,HR2,HGX,HC2,HNB2⟩
      case measure=>simp[intOf];omega
    ·rw[show decide ((4:Nat)=2∨(4:Nat)=4)=true from by decide] at K46
     by_cases h10:s[p]=10
     ·exfalso
      have:=HX.out
      simp[stepF,HK.out,h10] at this
     ·have m10:=n10 h10
      have hq:q'={ q with st:=3,cur:=q.cur++[s[p]] }:=by
       have:=HX.out
       simp[stepF,HK.out,h10] at this
       exact this.symm
      subst hq
      have HR2:=Lib.hid (HRS.out.setQ 3 (q.cur++[s[p]]))
      have HC2:Hid (Cu s { q with st:=3,cur:=q.cur++[s[p]] } start (p+1)):=fun _=>(HCU.out (.inr (.inr (.inr HK.out)))).push hpl 3
      clear h10 n10 HX HD HGO HCU HNB HRS
      go_wp2_with fail
      go_roundw
      case rel=>exact ⟨p+1,3,{ q with st:=3,cur:=q.cur++[s[p]] },start,wv,ev,wS,rfl,rfl,by go_num,by omega,HNB2.out.st,rfl,HR2,HGX,HC2,HNB2⟩
      case measure=>simp[intOf];omega
    ·rw[show decide ((5:Nat)=2∨(5:Nat)=4)=false from by decide] at K46
     by_cases h10:s[p]=10
     ·cases hen:endsW s[p] with
      |true=>
       have K50:=Lib.hid (fun w=>ends50 ((s[p].toNat:Nat):Int) w)
       have HZ:Hid (endsz ((s[p].toNat:Nat):Int)=endsW s[p]):=endsz_bI s[p]
       rw[HZ.out,hen] at K50
       have HSF:Hid (outR q s[p] (s.data.toList.drop (p+1))=Rs.ok q'):=(by show _=_;have:=HX.out;simpa [stepF,HK.out,hen] using this)
       have KS:=Lib.hid (outside51 B R (w0.put w.heap.size 0 0) wr s q start wv ev wS p HRS.out hpl (by omega) (by have:=HNB.out.ln;omega) (by have:=HNB.out.op;omega) (by have:=HNB.out.es;omega))
       rw[HSF.out] at KS
       have e10:((s[p].toNat:Nat):Int)=10:=bz s[p] 10 h10
       simp only[e10] at K50
       clear HX HD HGO HSF HCU HNB HRS h10 n10 HZ hen
       go_wp2_with fail
       refine (K46.out _).mono ?_
       rintro e w9 ⟨rfl,rfl⟩
       go_wp2_with fail
       refine (K50.out _).mono ?_
       rintro e w8 ⟨rfl,rfl⟩
       go_wp2_with fail
       refine KS.out.mono ?_
       rintro e w2 ⟨k2,er,rfl,H2⟩
       obtain ⟨rfl,rfl,st2,wv2,ev2,wS2,r2,cu2⟩:=H2.out
       have HR2:=Lib.hid r2
       have HC2:=Lib.hid cu2
       clear H2 r2 cu2
       go_wp2_with fail
       go_roundw
       case rel=>exact ⟨p+1,q'.st,q',st2,wv2,ev2,wS2,rfl,rfl,by go_num,by omega,HNB2.out.st,rfl,HR2,HGX,HC2,HNB2⟩
       case measure=>simp[intOf];omega
      |false=>
       have K50:=Lib.hid (fun w=>ends50 ((s[p].toNat:Nat):Int) w)
       have HZ:Hid (endsz ((s[p].toNat:Nat):Int)=endsW s[p]):=endsz_bI s[p]
       rw[HZ.out,hen] at K50
       exfalso
       have:=HX.out
       simp[stepF,HK.out,hen] at this
     ·cases hen:endsW s[p] with
      |true=>
       have K50:=Lib.hid (fun w=>ends50 ((s[p].toNat:Nat):Int) w)
       have HZ:Hid (endsz ((s[p].toNat:Nat):Int)=endsW s[p]):=endsz_bI s[p]
       rw[HZ.out,hen] at K50
       have HSF:Hid (outR q s[p] (s.data.toList.drop (p+1))=Rs.ok q'):=(by show _=_;have:=HX.out;simpa [stepF,HK.out,hen] using this)
       have KS:=Lib.hid (outside51 B R (w0.put w.heap.size 0 0) wr s q start wv ev wS p HRS.out hpl (by omega) (by have:=HNB.out.ln;omega) (by have:=HNB.out.op;omega) (by have:=HNB.out.es;omega))
       rw[HSF.out] at KS
       have m10:=n10 h10
       clear HX HD HGO HSF HCU HNB HRS h10 n10 HZ hen
       go_wp2_with fail
       refine (K50.out _).mono ?_
       rintro e w8 ⟨rfl,rfl⟩
       go_wp2_with fail
       refine KS.out.mono ?_
       rintro e w2 ⟨k2,er,rfl,H2⟩
       obtain ⟨rfl,rfl,st2,wv2,ev2,wS2,r2,cu2⟩:=H2.out
       have HR2:=Lib.hid r2
       have HC2:=Lib.hid cu2
       clear H2 r2 cu2
       go_wp2_with fail
       go_roundw
       case rel=>exact ⟨p+1,q'.st,q',st2,wv2,ev2,wS2,rfl,rfl,by go_num,by omega,HNB2.out.st,rfl,HR2,HGX,HC2,HNB2⟩
       case measure=>simp[intOf];omega
      |false=>
       have K50:=Lib.hid (fun w=>ends50 ((s[p].toNat:Nat):Int) w)
       have HZ:Hid (endsz ((s[p].toNat:Nat):Int)=endsW s[p]):=endsz_bI s[p]
       rw[HZ.out,hen] at K50
       exfalso
       have:=HX.out
       simp[stepF,HK.out,hen] at this
    ·rw[show decide ((6:Nat)=2∨(6:Nat)=4)=false from by decide] at K46
     by_cases h10:s[p]=10
     ·have e10:((s[p].toNat:Nat):Int)=10:=bz s[p] 10 h10
      have HSF:Hid (outR q s[p] (s.data.toList.drop (p+1))=Rs.ok q'):=(by show _=_;have:=HX.out;simpa [stepF,HK.out,h10] using this)
      have KS:=Lib.hid (outside51 B R (w0.put w.heap.size 0 0) wr s q start wv ev wS p HRS.out hpl (by omega) (by have:=HNB.out.ln;omega) (by have:=HNB.out.op;omega) (by have:=HNB.out.es;omega))
      rw[HSF.out] at KS
      clear HX HD HGO HSF HCU HNB HRS h10 n10
      go_wp2_with fail
      refine (K46.out _).mono ?_
      rintro e w9 ⟨rfl,rfl⟩
      go_wp2_with fail
      refine KS.out.mono ?_
      rintro e w2 ⟨k2,er,rfl,H2⟩
      obtain ⟨rfl,rfl,st2,wv2,ev2,wS2,r2,cu2⟩:=H2.out
      have HR2:=Lib.hid r2
      have HC2:=Lib.hid cu2
      clear H2 r2 cu2
      go_wp2_with fail
      go_roundw
      case rel=>exact ⟨p+1,q'.st,q',st2,wv2,ev2,wS2,rfl,rfl,by go_num,by omega,HNB2.out.st,rfl,HR2,HGX,HC2,HNB2⟩
      case measure=>simp[intOf];omega
     ·have m10:=n10 h10
      have hq:q'=q:=by
       have:=HX.out
       simp[stepF,HK.out,h10] at this
       exact this.symm
      subst hq
      have HC2:Hid (Cu s q' start (p+1)):=fun e=>by have:=HK.out;omega
      clear h10 n10 HX HD HGO HCU HNB
      go_wp2_with fail
      go_roundw
      case rel=>exact ⟨p+1,6,_,start,wv,ev,wS,rfl,rfl,by go_num,by omega,by omega,HK,HRS,HGX,HC2,HNB2⟩
      case measure=>simp[intOf];omega
def EnQ(B:Nat)(w0:World)(v:Value)(a b:Nat)(w':World):Rt->Prop
 | .er e l=>v=.slice none 0 0/\a=e/\b=l/\Below B w0 w'
 | .ok es=>a=0/\b=0/\OwE B w' v es/\Below B w0 w'
def EnP(w0:World)(r:Rt)(e:Ending)(w':World):Prop:=
 ∃v,∃a b:Nat,e=.returned (.tuple #[v,.agg #[.int .i64 a,.int .i64 b]])/\Hid (EnQ w0.heap.size w0 v a b w' r)
theorem entries12_long(s:ByteArray)(w:World)(hs:65536<s.size):Calls Tryz.prog 18 #[.string s] w (EnP w (entsF s.data.toList)):=by
 have hs':(65536:Int)<(s.size:Int):=by omega
 have hl:s.data.toList.length=s.size:=by simp
 have HX:Hid (entsF s.data.toList=.er 3 0):=(by show _=_;simp only[entsF,hl,if_pos hs])
 rw[HX.out]
 clear HX hl
 go_enter Tryz.func18,Tryz.ntmps18
 go_wp2_with fail
 refine bodyPost_ret (v:=.tuple #[.slice none 0 0,.agg #[.int .i64 3,.int .i64 0]]) ?_ rfl ⟨_,3,0,rfl,rfl,rfl,rfl,(Below.refl _ _).alloc (Nat.le_refl _) _⟩
 simp[results,Tryz.results18,go_sem]
def qz:Cf:=⟨0,1,0,[],0,false,[],[]⟩
theorem rc_new(w:World)(s:ByteArray):RC w.heap.size (w.heap.size+1) ⟨w,[(w.heap.size,0,0)]⟩ ((w.alloc (.cells #[.int .i64 0,.int .i64 0] 28)).alloc (.cells #[.string s,.int .i64 1,.int .i64 0,.int .i64 0,.int .i64 0,.bool false,.slice none 0 0,.slice none 0 0] 87)) s qz 0 (.slice none 0 0) (.slice none 0 0):=by
 have h1:=heap_alloc_new (w.alloc (.cells #[.int .i64 0,.int .i64 0] 28)) (.cells #[.string s,.int .i64 1,.int .i64 0,.int .i64 0,.int .i64 0,.bool false,.slice none 0 0,.slice none 0 0] 87)
 refine ⟨?_,OwE.nil _ _,by omega,?_,?_⟩
 ·simpa [Bx,qz] using h1
 ·exact ((Below.refl _ _).alloc (Nat.le_refl _) _).alloc (by simp) _
 ·intro j hj
  simp only[List.mem_singleton] at hj
  subst hj
  rw[(al_below (w.alloc (.cells #[.int .i64 0,.int .i64 0] 28)) _).block w.heap.size (by simp)]
  exact heap_alloc_new w _
theorem entries12_go(s:ByteArray)(w:World)(hs:s.size<=65536):Calls Tryz.prog 18 #[.string s] w (EnP w (entsF s.data.toList)):=by
 have hs':¬ (65536:Int)<(s.size:Int):=by omega
 have hl:s.data.toList.length=s.size:=by simp
 have HX:Hid (entsF s.data.toList=goF (linesF s.data.toList) (q0 s.data.toList) s.data.toList):=(by show _=_;simp only[entsF,hl];rw[if_neg (by omega)])
 rw[HX.out]
 have KB:=Lib.hid (begin28 w.heap.size (w.heap.size+1) ⟨w,[(w.heap.size,0,0)]⟩ _ s qz 0 _ _ 0 (rc_new w s) (by omega))
 have KR:Hid (∀W wv ev wS,RSZ w.heap.size (w.heap.size+1) ⟨w,[(w.heap.size,0,0)]⟩ W s (q0 s.data.toList) 0 wv ev wS->Calls Tryz.prog 34 #[.pointer (some ⟨w.heap.size+1,0,none⟩)] W (FnP w.heap.size (w.heap.size+1) ⟨w,[(w.heap.size,0,0)]⟩ s (goF (linesF s.data.toList) (q0 s.data.toList) s.data.toList))):=fun W wv ev wS hW=>run29 _ _ _ W s _ 0 wv ev wS hW (fun p hp=>by simp only[List.mem_singleton] at hp;subst hp;have:=hW.bx.lt;simp only;omega) (by omega) rfl ⟨by simp[q0],by simp[q0],by simp[q0],by simp[q0],by simp[q0]⟩
 have HE:Hid (∀e l,goF (linesF s.data.toList) (q0 s.data.toList) s.data.toList=.er e l->e=230∨e=3):=fun e l h=>(ents_er (by rw[hl];exact hs) (HX.out.trans h)).1
 generalize goF (linesF s.data.toList) (q0 s.data.toList) s.data.toList=G at*
 clear HX hl
 go_enter Tryz.func18,Tryz.ntmps18
 go_wp2_with fail
 refine KB.out.mono ?_
 rintro e w1 ⟨rfl,H1⟩
 obtain ⟨wS,hrs⟩:=H1.out
 have HRS:Hid (RSZ w.heap.size (w.heap.size+1) ⟨w,[(w.heap.size,0,0)]⟩ w1 s (q0 s.data.toList) 0 (.slice none 0 0) (.slice none 0 0) wS):=(by show _;rw[List.drop_zero] at hrs;exact hrs)
 clear H1 hrs KB
 go_wp2_with fail
 refine (KR.out _ _ _ _ HRS.out).mono ?_
 rintro e w2 ⟨a,b,rfl,H2⟩
 cases G with
 |er e l=>
  obtain ⟨rfl,rfl,hfr⟩:=H2.out
  have HF:=Lib.hid hfr
  have hJ:=hfr.2 (w.heap.size,0,0) (by simp)
  have hJ2:(w2.alloc (.cells #[.int .i64 a,.int .i64 b] 28)).heap[w.heap.size]?=some (.cells #[.int .i64 0,.int .i64 0] 28 (0,0)):=((al_below w2 _).block w.heap.size (rc_lt hJ)).trans hJ
  have n0:¬ (a:Int)=0:=by have:=HE.out a b rfl;omega
  have n1:((a:Int) == 0)=false:=by simpa using n0
  have k0:=rc_c0 hJ2
  have k1:=rc_c1 hJ2
  have kf:=rc_fz hJ2
  have kl:=rc_lt hJ2
  have z0:=rc_c0 (rc_put hJ2 (.int .i64 a) (.int .i64 b))
  have z1:=rc_c1 (rc_put hJ2 (.int .i64 a) (.int .i64 b))
  have HFI:Hid (Below w.heap.size w (((w2.alloc (.cells #[.int .i64 a,.int .i64 b] 28)).setCell ⟨w.heap.size,0,none⟩ (.int .i64 a)).setCell ⟨w.heap.size,1,none⟩ (.int .i64 b)).drew):=((((HF.out.1.alloc HF.out.1.size _)).setCell (p:=⟨w.heap.size,0,none⟩) (Nat.le_refl _) _).setCell (p:=⟨w.heap.size,1,none⟩) (Nat.le_refl _) _).drew
  clear H2 hfr hJ hJ2
  go_wp2_with fail
  go_region_law (fail)
  all_goals
   go_wp2_with fail
   refine bodyPost_ret (v:=.tuple #[.slice none 0 0,.agg #[.int .i64 a,.int .i64 b]]) ?_ rfl ⟨_,a,b,rfl,rfl,rfl,rfl,HFI.out⟩
   simp[results,Tryz.results18,go_sem,z0,z1,k0,k1,kl]
 |ok es=>
  obtain ⟨rfl,rfl,q,st,wv,ev,hq,hrc⟩:=H2.out
  have hJ:=hrc.bl.2 (w.heap.size,0,0) (by simp)
  have hJ2:(w2.alloc (.cells #[.int .i64 0,.int .i64 0] 28)).heap[w.heap.size]?=some (.cells #[.int .i64 0,.int .i64 0] 28 (0,0)):=((al_below w2 _).block w.heap.size (rc_lt hJ)).trans hJ
  have r7:(w2.alloc (.cells #[.int .i64 0,.int .i64 0] 28)).cell? ⟨w.heap.size+1,7,none⟩=some ev:=((al_below w2 _).cell (p:=⟨w.heap.size+1,7,none⟩) hrc.bx.lt).trans hrc.bx.c7
  have k0:=rc_c0 hJ2
  have k1:=rc_c1 hJ2
  have kf:=rc_fz hJ2
  have kl:=rc_lt hJ2
  have z0:=rc_c0 (rc_put hJ2 (.int .i64 0) (.int .i64 0))
  have z1:=rc_c1 (rc_put hJ2 (.int .i64 0) (.int .i64 0))
  have HOW:Hid (OwE w.heap.size (((w2.alloc (.cells #[.int .i64 0,.int .i64 0] 28)).setCell ⟨w.heap.size,0,none⟩ (.int .i64 0)).setCell ⟨w.heap.size,1,none⟩ (.int .i64 0)) ev es):=(by
   show OwE _ _ _ _
   have h1:OwE w.heap.size (w2.alloc (.cells #[.int .i64 0,.int .i64 0] 28)) ev es:=by rw[<- hq];exact hrc.ow.stays (al_below w2 _)
   refine h1.go (by simp) (fun k _ hk=>?_)
   have hne:k≠w.heap.size:=fun e=>by
    obtain ⟨c,t,a1,a2⟩:=hk
    rw[e,hJ2] at a1;cases a1;simp at a2
   rw[Below.heap_setCell _ _ _ _ hne,Below.heap_setCell _ _ _ _ hne])
  have HFI:Hid (Below w.heap.size w (((w2.alloc (.cells #[.int .i64 0,.int .i64 0] 28)).setCell ⟨w.heap.size,0,none⟩ (.int .i64 0)).setCell ⟨w.heap.size,1,none⟩ (.int .i64 0))):=((hrc.bl.1.alloc hrc.bl.1.size _).setCell (p:=⟨w.heap.size,0,none⟩) (Nat.le_refl _) _).setCell (p:=⟨w.heap.size,1,none⟩) (Nat.le_refl _) _
  clear H2 hrc hJ hJ2 hq
  go_wp2_with fail
  refine bodyPost_ret (v:=.tuple #[ev,.agg #[.int .i64 0,.int .i64 0]]) ?_ rfl ⟨_,0,0,rfl,rfl,rfl,HOW.out,HFI.out⟩
  simp[results,Tryz.results18,go_sem,z0,z1,k0,k1,kl]
theorem entries12(s:ByteArray)(w:World):Calls Tryz.prog 18 #[.string s] w (EnP w (entsF s.data.toList)):=by
 by_cases h:s.size<=65536
 ·exact entries12_go s w h
 ·exact entries12_long s w (by omega)
def dgsD(l:List Int):List Int:=l.takeWhile xdig
def aftD(l:List Int):List Int:=l.dropWhile xdig
def num31(l:List Int):Option Nat:=xnum l 2147483648
def lets:List Int:=[119,100,104,109,115]
def lens:List Nat:=[604800,86400,3600,60,1]
def plF(c:Int):List Int->Option Nat
 |[]=>none
 |a::r=>if a=c then some 0 else (plF c r).map (·+1)
def sumF:Nat->List Int->Nat->Nat->Option (Nat × Nat)
 |k,[],frm,all=>some (frm,all)
 |0,_::_,_,_=>none
 |k+1,a::s,frm,all=>
  (num31 (dgsD (a::s))).bind fun n=>match aftD (a::s) with
   |[]=>none
   |c::t=>(plF c (lets.drop frm)).bind fun p=>sumF k t (frm+p+1) (all+n*lens.getD (frm+p) 0)
def ttlF(s:ByteArray):Option Nat:=
 match num31 (nums s) with
 |some n=>some n
 |none=>(sumF 6 (nums (foldL s)) 0 0).bind fun p=>if 0<p.1/\p.2<2147483648 then some p.2 else none
structure Cy where
 og:List ByteArray
 ow:List ByteArray
 cl:Nat
 df:Nat
 tt:Nat
 ho:Bool
 hc:Bool
 ht:Bool
 sd:Bool
structure Rec where
 ow:List ByteArray
 t:Nat
 cl:Nat
 tt:Nat
 d:Dat
def opnF(e:En):ByteArray:=if e.blank then ⟨#[]⟩ else match e.ws with
 |(s,false)::_=>s
 |_=>⟨#[]⟩
def cOrigin:ByteArray:=⟨#[36,111,114,105,103,105,110]⟩
def cTTL:ByteArray:=⟨#[36,116,116,108]⟩
def cmdF(e:En):Nat:=if foldL (opnF e)=cOrigin then 1 else if foldL (opnF e)=cTTL then 2 else 0
def marked(e:En):Bool:=(nums (opnF e)).head? == some 36
def ownF(e:En)(c:Cy):List ByteArray × List Wd × Int:=
 if e.blank then (if c.ho then (c.ow,e.ws,0) else ([],[],9)) else match e.ws with
  |(s,false)::r=>((nrel s c.og).1,r,(nrel s c.og).2)
  |_=>([],[],240)
def isT(s:ByteArray):Bool:=match nums s with
 |[]=>false
 |c::_=>xdig c
def tyF(s:ByteArray):Option Nat:=readC typesW typesP.data.toList 65536 (up s).data.toList
def clF(s:ByteArray):Option Nat:=readC classesW classesP.data.toList 65536 (up s).data.toList
def isC(s:ByteArray):Bool:=(clF s).isSome && (tyF s).isNone
structure Say where
 k:Nat
 c:Nat
 t:Nat
 hk:Bool
 hc:Bool
 ht:Bool
def say0:Say:=⟨0,0,0,false,false,false⟩
def tkF(y:Say)(w:Wd):Except Int Say:=
 if w.2=true then .error 240
 else if (y.ht && isT w.1)=true then .error 240
 else if (y.hc && isC w.1)=true then .error 240
 else if isT w.1=true then (match ttlF w.1 with|some n=>.ok { y with t:=n,ht:=true }|none=>.error 240)
 else if isC w.1=true then (match clF w.1 with|some n=>.ok { y with c:=n,hc:=true }|none=>.error 6)
 else match tyF w.1 with|some n=>(if storedF n then .ok { y with k:=n,hk:=true } else .error 6)|none=>.error 6
def saysF(y:Say):List Wd->Except Int (Say × List Wd)
 |[]=>.error 240
 |w::r=>match tkF y w with
  | .error e=>.error e
  | .ok y'=>if y'.hk then .ok (y',r) else saysF y' r
def tmF(y:Say)(d:Dat)(c:Cy):Option (Nat × Cy):=
 if y.ht then some (y.t,{ c with tt:=y.t,ht:=true })
 else if c.sd then some (c.df,c)
 else if c.ht then some (c.tt,c)
 else if y.k=6/\d.us.getD 4 0<2147483648 then some (d.us.getD 4 0,{ c with tt:=d.us.getD 4 0,ht:=true })
 else none
def csF(y:Say)(c:Cy):Nat:=if y.hc then y.c else if c.hc then c.cl else 1
def entF(e:En)(c:Cy):Except Int (Rec × Cy):=
 if e.ws=[]∨marked e=true then .error 240
 else if (ownF e c).2.2≠0 then .error (ownF e c).2.2
 else match saysF say0 (ownF e c).2.1 with
  | .error er=>.error er
  | .ok (y,r)=>match prsF y.k c.og r with
   |none=>.error 7
   |some d=>match tmF y d c with
    |none=>.error 9
    |some (n,c')=>.ok (⟨(ownF e c).1,y.k,csF y c',n,d⟩,{ c' with ow:=(ownF e c).1,ho:=true,cl:=csF y c',hc:=true })
def cmdE(k:Nat)(ws:List Wd)(c:Cy):Except Int Cy:=
 match ws with
 |[(s,false)]=>if k=1 then (if (nrel s c.og).2=0 then .ok { c with og:=(nrel s c.og).1 } else .error (nrel s c.og).2)
   else (match ttlF s with|some n=>.ok { c with df:=n,sd:=true }|none=>.error 240)
 |_=>.error 240
def stpE(e:En)(c:Cy)(rs:List Rec):Except Int (Cy × List Rec):=
 if cmdF e=0 then (match entF e c with
  | .error er=>.error er
  | .ok (r,c')=>if rs.length=2048 then .error 3 else .ok (c',rs++[r]))
 else (match cmdE (cmdF e) e.ws.tail c with
  | .error er=>.error er
  | .ok c'=>.ok (c',rs))
inductive Ra where
 |er (e:Int) (line:Int)
 |ok (rs:List Rec)
def allF:List En->Cy->List Rec->Ra
 |[],_,rs=>.ok rs
 |e::es,c,rs=>match stpE e c rs with
  | .error er=>.er er e.line
  | .ok (c',rs')=>allF es c' rs'
def cy0(og:List ByteArray):Cy:=⟨og,[],0,0,0,false,false,false,false⟩
def mstF(s:ByteArray)(og:List ByteArray):Ra:=
 if nck og=0 then (match entsF s.data.toList with
  | .er e l=>.er e l
  | .ok es=>allF es (cy0 og) [])
 else .er (nck og) 0
end Go.Proofs.YtjkljpdolhglcaaGreatDoor
namespace Go.Proofs.YtjkljpdolhglcaaGreatDoor
open Go.ChangeShapes Go.WideShapes Go.ChangeAt Go.RowKit Go.Sort
theorem pu31_in(t:ByteArray)(hne:t.size≠0)(hmax:t.size<=9223372036854775806)(w:World) :
  Calls Tryz.prog 98 #[.string t,.int .i64 10,.int .i64 31] w fun e w'=>e=.returned (Lib.uintTupleM 181 2147483647 (Lib.parseUintM 2147483647 0 t.data.toList))/\w'=Lib.bytesWorld w 5 t:=by
 have hemp:t.toList.isEmpty=false:=by
  rw[<- decide_eq_emptyBytes]
  exact decide_eq_false (fun h=>hne (by rw[h];rfl))
 have hcv:=Lib.run_convert_string_bytes (P:=Tryz.prog) w 9 46 5 t (u:=.string) Tryz.underlying9 Tryz.underlying46 Tryz.underlying5
 have hB:∀j,j<t.size->(Lib.bytesWorld w 5 t).cell? ⟨w.heap.size,j,none⟩=some (.int .u8 (t.data.toList.getD j 0).toNat):=fun j hj=>Lib.bytesWorld_cell w 5 t j hj
 obtain ⟨W1,hW1⟩:∃W1,W1=Lib.bytesWorld w 5 t:=⟨_,rfl⟩
 rw[<- hW1] at hcv hB ⊢
 clear hW1
 obtain ⟨bs,hL⟩:∃bs,bs=t.data.toList:=⟨_,rfl⟩
 have hLn:bs.length=t.size:=by rw[hL,Lib.size_eq]
 rw[<- hL] at hB ⊢
 clear hL
 have hmv:IntKind.u64.wrap (IntKind.u64.wrap 2147483648 - 1)=2147483647:=by
  rw[IntKind.wrap_u64,IntKind.wrap_u64]
  decide
 go_enter Tryz.func98,Tryz.ntmps98
 go_wp2
 go_loop [12,13,101] (fun vu vn vi=>∃(k acc:Nat) (a:Int),vu=.bool false/\vn=.int .u64 a/\vi=.int .i64 k/\k<=t.size/\Hid (a=(acc:Int)/\acc<=2147483647/\Lib.parseUintM 2147483647 0 bs=Lib.parseUintM 2147483647 acc (bs.drop k)))
  (fun _ _ vi=>t.size - (intOf vi).toNat)
 case atStart=>exact ⟨0,0,0,rfl,rfl,rfl,by omega,rfl,by omega,rfl⟩
 case round=>
  obtain ⟨k,acc,a,rfl,rfl,rfl,hk,hh⟩:=hrel
  obtain ⟨ha,hacc,hdec⟩:=hh.out
  clear hh
  have a0:0<=a:=by omega
  have a1:a<=2147483647:=by omega
  by_cases hkn:k<t.size
  ·have hc:=hB k hkn
   have hdrop:bs.drop k=bs[k]'(by omega)::bs.drop (k+1):=List.drop_eq_getElem_cons (by omega)
   have hget:bs.getD k 0=bs[k]'(by omega):=by simp[List.getD,List.getElem?_eq_getElem (show k<bs.length by omega)]
   rw[hdrop] at hdec
   rw[hget] at hc
   generalize bs[k]'(by omega)=c at hc hdec
   have hc256:c.toNat<256:=c.toNat_lt
   clear hB hdrop hget
   generalize hR:bs.drop (k+1)=R at hdec
   by_cases hdig:48<=c.toNat/\c.toNat<=57
   ·obtain ⟨hd0,hd1⟩:=hdig
    have hcut:¬ 1844674407370955162<=acc:=by omega
    by_cases hov:2147483647<acc*10+(c.toNat - 48)
    ·have hF:Lib.parseUintM 2147483647 acc (c::R)=.range:=by simp[Lib.parseUintM,hd0,hd1,hcut,hov]
     rw[hF] at hdec
     have iov:2147483647<a*10+((c.toNat:Int) - 48):=by omega
     clear hcut hacc hF hov ha
     go_wp2
     go_ret2
     exact ⟨rfl,rfl⟩
    ·have hF:Lib.parseUintM 2147483647 acc (c::R)=Lib.parseUintM 2147483647 (acc*10+(c.toNat - 48)) R:=by simp[Lib.parseUintM,hd0,hd1,hcut,hov]
     have HN:Hid (a*10+((c.toNat:Int) - 48)=((acc*10+(c.toNat - 48):Nat):Int)/\acc*10+(c.toNat - 48)<=2147483647/\Lib.parseUintM 2147483647 0 bs=Lib.parseUintM 2147483647 (acc*10+(c.toNat - 48)) (bs.drop (k+1))):=Lib.hid ⟨by omega,by omega,by rw[hR];exact hdec.trans hF⟩
     have iov:a*10+((c.toNat:Int) - 48)<=2147483647:=by omega
     clear hcut hacc hF hov hdec ha
     go_wp2
     refine ⟨⟨k+1,acc*10+(c.toNat - 48),a*10+((c.toNat:Int) - 48),rfl,(by first|rfl|(congr 1;omega)),(by first|rfl|(congr 1;omega)),by omega,HN⟩,by simp[intOf];omega⟩
   ·have hF:Lib.parseUintM 2147483647 acc (c::R)=.syntax:=by simp[Lib.parseUintM,hdig]
    rw[hF] at hdec
    have KL:=Lib.hid (low_any c.toNat hc256)
    have hv256:=(low_all ⟨c.toNat,hc256⟩).2.2.2
    have h95:c.toNat=95->c.toNat ||| 32=127:=by intro h;rw[h];rfl
    simp only at hv256
    clear hacc hF ha
    generalize c.toNat ||| 32=v at*
    by_cases h97:97<=v/\v<=122
    ·have hn95:¬ (c.toNat:Int)=95:=by intro h;have:=h95 (by omega);omega
     have i97:(97:Int)<=(v:Int):=by omega
     have i122:(v:Int)<=122:=by omega
     clear h95
     rcases (by omega:(c.toNat:Int)<48∨57<(c.toNat:Int)) with hq|hq
     all_goals
      go_wp2_with (go_at_call 116;refine (KL.out _).mono ?_;rintro e w' ⟨rfl,hw⟩;subst w')
      go_ret2
      first|exact ⟨rfl,rfl⟩|exact ⟨by rw[hdec];rfl,rfl⟩
    ·by_cases h97':97<=v
     ·have i97:(97:Int)<=(v:Int):=by omega
      have i122:122<(v:Int):=by omega
      clear h95
      rcases (by omega:(c.toNat:Int)<48∨(57<(c.toNat:Int)/\(c.toNat:Int)<95)∨95<(c.toNat:Int)∨c.toNat=95) with hq|⟨hq,hq2⟩|hq|hq
      case inr.inr.inr=>
       have hq:(c.toNat:Int)=95:=by omega
       rw[hq] at hc KL
       go_wp2_with (go_at_call 116;refine (KL.out _).mono ?_;rintro e w' ⟨rfl,hw⟩;subst w')
       go_ret2
       first|exact ⟨rfl,rfl⟩|exact ⟨by rw[hdec];rfl,rfl⟩
      all_goals
       go_wp2_with (go_at_call 116;refine (KL.out _).mono ?_;rintro e w' ⟨rfl,hw⟩;subst w')
       go_ret2
       first|exact ⟨rfl,rfl⟩|exact ⟨by rw[hdec];rfl,rfl⟩
     ·have hn95:¬ (c.toNat:Int)=95:=by intro h;have:=h95 (by omega);omega
      have i97:(v:Int)<97:=by omega
      clear h95
      rcases (by omega:(c.toNat:Int)<48∨57<(c.toNat:Int)) with hq|hq
      all_goals
       go_wp2_with (go_at_call 116;refine (KL.out _).mono ?_;rintro e w' ⟨rfl,hw⟩;subst w')
       go_ret2
       first|exact ⟨rfl,rfl⟩|exact ⟨by rw[hdec];rfl,rfl⟩
  ·have hkk:k=t.size:=by omega
   subst hkk
   have hF:Lib.parseUintM 2147483647 acc (bs.drop t.size)=.ok acc:=by rw[List.drop_eq_nil_of_le (by omega)];rfl
   rw[hF] at hdec
   subst ha
   clear hacc hF a0 a1
   go_wp2
   go_ret2
   first|exact ⟨rfl,rfl⟩|exact ⟨by rw[hdec];rfl,rfl⟩
theorem pu31_empty(w:World):Calls Tryz.prog 98 #[.string ⟨#[]⟩,.int .i64 10,.int .i64 31] w fun e w'=>e=.returned (.tuple #[.int .u64 0,.iface 181 (.int .i64 2)])/\w'=w:=by
 go_enter Tryz.func98,Tryz.ntmps98
 go_wp2
 go_ret2
 exact ⟨rfl,rfl⟩
def Pu31(s:ByteArray)(w:World)(e:Ending)(w':World):Prop:=
 (∃u:Nat,e=.returned (.tuple #[.int .u64 u,.nilIface])/\Lib.parseUintB 31 s.data.toList=.ok u/\Below w.heap.size w w') ∨
 (∃x N,e=.returned (.tuple #[.int .u64 x,.iface 183 (.pointer (some ⟨N,0,none⟩))])/\(0<=x/\x<=2147483647)/\(∀u,Lib.parseUintB 31 s.data.toList≠.ok u)/\Below w.heap.size w w')
theorem pu31_any(s:ByteArray)(hs:s.size<=281474976710656)(w:World)(hE:LayE w):Calls Tryz.prog 78 #[.string s,.int .i64 10,.int .i64 31] w (Pu31 s w):=by
 have HE:Hid (LayE w):=hE
 have K:(∃W1 u,Lib.parseUintB 31 s.data.toList=.ok u/\Calls Tryz.prog 98 #[.string s,.int .i64 10,.int .i64 31] w fun e w'=>e=.returned (.tuple #[.int .u64 (u:Nat),.nilIface])/\w'=W1/\Below w.heap.size w W1) ∨
   (∃W1 x y,(y=1∨y=2)/\(0<=x/\x<=2147483647)/\(∀u,Lib.parseUintB 31 s.data.toList≠.ok u)/\Calls Tryz.prog 98 #[.string s,.int .i64 10,.int .i64 31] w fun e w'=>e=.returned (.tuple #[.int .u64 x,.iface 181 (.int .i64 y)])/\w'=W1/\Below w.heap.size w W1):=by
  by_cases h0:s.data.toList=[]
  ·have e:=ba_nil h0
   subst e
   exact .inr ⟨w,0,2,.inr rfl,by omega,fun u h=>by simp[Lib.parseUintB] at h,(pu31_empty w).mono fun e w' ⟨h1,h2⟩=>⟨h1,h2,Below.refl _ _⟩⟩
  ·have K:=pu31_in s (size_ne h0) (by omega) w
   have eM:(2:Nat) ^ 31 - 1=2147483647:=by decide
   have hp:Lib.parseUintB 31 s.data.toList=Lib.parseUintM 2147483647 0 s.data.toList:=by rw[Lib.parseUintB,if_neg h0,eM]
   rw[hp]
   cases hr:Lib.parseUintM 2147483647 0 s.data.toList with
   |ok u=>rw[hr] at K;exact .inl ⟨_,u,rfl,K.mono fun e w' ⟨h1,h2⟩=>⟨h1,h2,Lib.bytesWorld_below _ _ _⟩⟩
   |«syntax»=>rw[hr] at K;exact .inr ⟨_,0,2,.inr rfl,by omega,fun u h=>(by cases h),K.mono fun e w' ⟨h1,h2⟩=>⟨h1,h2,Lib.bytesWorld_below _ _ _⟩⟩
   |range=>rw[hr] at K;exact .inr ⟨_,2147483647,1,.inl rfl,by omega,fun u h=>(by cases h),K.mono fun e w' ⟨h1,h2⟩=>⟨h1,h2,Lib.bytesWorld_below _ _ _⟩⟩
 clear hE
 rcases K with ⟨W1,u,hu,K⟩|⟨W1,x,y,hy,hx,hno,K⟩
 ·have K:=Lib.hid K
  have HU:=Lib.hid hu
  clear hu
  go_enter Tryz.func78,Tryz.ntmps78
  go_wp2_with fail
  refine K.out.mono ?_
  rintro e w' ⟨rfl,hw,hb⟩
  subst w'
  have HB:Hid (Below w.heap.size w W1):=hb
  clear hb
  go_wp2_with fail
  go_ret2
  exact .inl ⟨u,rfl,HU.out,HB.out⟩
 ·have K:=Lib.hid K
  have HX:Hid ((0<=x/\x<=2147483647)/\∀u,Lib.parseUintB 31 s.data.toList≠.ok u):=⟨hx,hno⟩
  clear hx hno
  rcases hy with rfl|rfl
  ·go_enter Tryz.func78,Tryz.ntmps78
   go_wp2_with fail
   refine K.out.mono ?_
   rintro e w' ⟨rfl,hw,hb⟩
   subst w'
   have HB:Hid (Below w.heap.size w W1):=hb
   have HE1:=Lib.hid (HE.out.below hb)
   clear hb HE
   obtain ⟨⟨tp,p,h1⟩,⟨tq,q,h2⟩,_,_⟩:=HE1.out
   have g1:W1.cell? ⟨5,0,none⟩=some (.iface tp p):=by have h0:=World.var?_cell gSyn h1 0;simpa using h0
   have g2:W1.cell? ⟨6,0,none⟩=some (.iface tq q):=by have h0:=World.var?_cell gRng h2 0;simpa using h0
   have G1:=Lib.hid g1
   have G2:=Lib.hid g2
   clear g1 g2 h1 h2
   go_wp2_with fail
   refine (Tryz.strconv_toError_range _ s 10 31 (.iface tq q) W1 hs G2.out (Or.inr ⟨tq,q,rfl⟩)).mono ?_
   rintro e w' ⟨N,rfl,_,_,hb⟩
   have HB2:Hid (Below w.heap.size w w'):=HB.out.trans (hb.mono HB.out.size)
   clear hb
   go_wp2_with fail
   go_ret2
   exact .inr ⟨x,N,rfl,HX.out.1,HX.out.2,HB2.out⟩
  ·go_enter Tryz.func78,Tryz.ntmps78
   go_wp2_with fail
   refine K.out.mono ?_
   rintro e w' ⟨rfl,hw,hb⟩
   subst w'
   have HB:Hid (Below w.heap.size w W1):=hb
   have HE1:=Lib.hid (HE.out.below hb)
   clear hb HE
   obtain ⟨⟨tp,p,h1⟩,⟨tq,q,h2⟩,_,_⟩:=HE1.out
   have g1:W1.cell? ⟨5,0,none⟩=some (.iface tp p):=by have h0:=World.var?_cell gSyn h1 0;simpa using h0
   have g2:W1.cell? ⟨6,0,none⟩=some (.iface tq q):=by have h0:=World.var?_cell gRng h2 0;simpa using h0
   have G1:=Lib.hid g1
   have G2:=Lib.hid g2
   clear g1 g2 h1 h2
   go_wp2_with fail
   refine (Tryz.strconv_toError_syntax _ s 10 31 (.iface tp p) W1 hs G1.out (Or.inr ⟨tp,p,rfl⟩)).mono ?_
   rintro e w' ⟨N,rfl,_,_,hb⟩
   have HB2:Hid (Below w.heap.size w w'):=HB.out.trans (hb.mono HB.out.size)
   clear hb
   go_wp2_with fail
   go_ret2
   exact .inr ⟨x,N,rfl,HX.out.1,HX.out.2,HB2.out⟩
def N31(s:ByteArray)(w:World)(e:Ending)(w':World):Prop:=
 ∃(n:Nat) (b:Bool),e=.returned (.tuple #[.int .u32 (n:Int),.bool b])/\Hid (n<=2147483647)/\Hid ((b=true->num31 (nums s)=some n)/\(b=false->num31 (nums s)=none))/\Hid (Below w.heap.size w w')
theorem xnum31(s:ByteArray)(hz:¬ (1<s.data.toList.length/\(bi s.data.toList).head?=some 48))(u:Nat):Lib.parseUintB 31 s.data.toList=.ok u↔num31 (nums s)=some u:=lnum_ok 31 (by decide) _ u hz
theorem num31_any(s:ByteArray)(hs:s.size<=281474976710656)(w:World)(hE:LayE w):Calls Tryz.prog 50 #[.string s] w (N31 s w):=by
 by_cases hz:1<s.data.toList.length/\(bi s.data.toList).head?=some 48
 ·have h1:1<s.size:=hz.1
  have h1':(1:Int)<(s.size:Int):=by omega
  have h0':(0:Int)<(s.size:Int):=by omega
  have h48:(s[0].toNat:Int)=48:=by
   have:=hz.2
   rw[<- nums_bi,head_at s (by omega)] at this
   injection this
  have HN:Hid (num31 (nums s)=none):=lnum_zero (nums s) _ (by rw[nums_bi,bi_len];exact hz.1) hz.2
  clear hz
  go_enter Tryz.func50,Tryz.ntmps50
  go_wp2_with fail
  go_ret2
  exact ⟨0,false,rfl,Nat.zero_le _,⟨fun h=>by (cases h),fun _=>HN.out⟩,Below.refl _ _⟩
 ·have HI:=Lib.hid (xnum31 s hz)
  have K:=Lib.hid (fun W hW=>pu31_any s hs W hW)
  have HE:=Lib.hid hE
  clear hE
  by_cases h1:1<s.size
  ·have h1':(1:Int)<(s.size:Int):=by omega
   have h0':(0:Int)<(s.size:Int):=by omega
   have h48:((s[0].toNat:Int) == 48)=false:=by
    rw[beq_eq_false_iff_ne]
    intro e
    exact hz ⟨h1,by rw[<- nums_bi,head_at s (by omega),e]⟩
   clear hz
   go_enter Tryz.func50,Tryz.ntmps50
   go_wp2_with fail
   refine (K.out _ HE.out).mono ?_
   rintro e w' (⟨u,rfl,hu,hb⟩|⟨x,N,rfl,hx,hu,hb⟩)
   ·have HU:=Lib.hid ((HI.out u).1 hu)
    have HB:=Lib.hid hb
    have hu1:u<2147483648:=(xnum_some HU.out).2
    have hu2:u<4294967296:=by omega
    clear hu hb
    go_wp2_with fail
    go_quiet (fail)
    go_wp2_with fail
    go_ret2
    exact ⟨u,true,rfl,by show _<=_;omega,⟨fun _=>HU.out,fun h=>by (cases h)⟩,HB.out.trans ⟨rfl,rfl,rfl,Nat.le_refl _,fun _ _=>rfl⟩⟩
   ·have HU:Hid (num31 (nums s)=none):=by
     show _=_
     cases h:num31 (nums s) with
     |none=>rfl
     |some n=>exact absurd ((HI.out n).2 h) (hu n)
    have HB:=Lib.hid hb
    obtain ⟨n,rfl⟩:∃n:Nat,x=(n:Int):=⟨x.toNat,by omega⟩
    have hu2:n<4294967296:=by omega
    have HN:Hid (n<=2147483647):=by show _<=_;omega
    clear hu hb hx
    go_wp2_with fail
    go_quiet (fail)
    go_wp2_with fail
    go_ret2
    exact ⟨n,false,rfl,HN.out,⟨fun h=>by (cases h),fun _=>HU.out⟩,HB.out.trans ⟨rfl,rfl,rfl,Nat.le_refl _,fun _ _=>rfl⟩⟩
  ·have h1':¬ (1:Int)<(s.size:Int):=by omega
   clear hz
   go_enter Tryz.func50,Tryz.ntmps50
   go_wp2_with fail
   refine (K.out _ HE.out).mono ?_
   rintro e w' (⟨u,rfl,hu,hb⟩|⟨x,N,rfl,hx,hu,hb⟩)
   ·have HU:=Lib.hid ((HI.out u).1 hu)
    have HB:=Lib.hid hb
    have hu1:u<2147483648:=(xnum_some HU.out).2
    have hu2:u<4294967296:=by omega
    clear hu hb
    go_wp2_with fail
    go_quiet (fail)
    go_wp2_with fail
    go_ret2
    exact ⟨u,true,rfl,by show _<=_;omega,⟨fun _=>HU.out,fun h=>by (cases h)⟩,HB.out.trans ⟨rfl,rfl,rfl,Nat.le_refl _,fun _ _=>rfl⟩⟩
   ·have HU:Hid (num31 (nums s)=none):=by
     show _=_
     cases h:num31 (nums s) with
     |none=>rfl
     |some n=>exact absurd ((HI.out n).2 h) (hu n)
    have HB:=Lib.hid hb
    obtain ⟨n,rfl⟩:∃n:Nat,x=(n:Int):=⟨x.toNat,by omega⟩
    have hu2:n<4294967296:=by omega
    have HN:Hid (n<=2147483647):=by show _<=_;omega
    clear hu hb hx
    go_wp2_with fail
    go_quiet (fail)
    go_wp2_with fail
    go_ret2
    exact ⟨n,false,rfl,HN.out,⟨fun h=>by (cases h),fun _=>HU.out⟩,HB.out.trans ⟨rfl,rfl,rfl,Nat.le_refl _,fun _ _=>rfl⟩⟩
end Go.Proofs.YtjkljpdolhglcaaGreatDoor
namespace Go.Proofs
open Go.Shelf
def Tryz.lays161_ren:Go.Shelf.Ren:=⟨fun|161=>79|231=>100|227=>101|233=>102|235=>103|228=>122|197=>67|151=>123|260=>93|152=>144|137=>80|119=>162|224=>76|225=>75|217=>74|266=>96|n=>n,fun|9=>9|4=>4|3=>3|5=>5|117=>162|116=>161|0=>0|124=>165|105=>119|21=>21|119=>174|46=>129|139=>177|138=>176|n=>n,fun|3=>3|4=>4|n=>n⟩
theorem Tryz.lays161:Go.Proofs.Lays.n161 Tryz.prog Tryz.lays161_ren:={
 mixed:=by kernel_rfl
 f119:=Tryz.func162.trans (congrArg some (by kernel_rfl))
 f137:=Tryz.func80.trans (congrArg some (by kernel_rfl))
 f151:=Tryz.func123.trans (congrArg some (by kernel_rfl))
 f152:=Tryz.func144.trans (congrArg some (by kernel_rfl))
 f161:=Tryz.func79.trans (congrArg some (by kernel_rfl))
 f197:=Tryz.func67.trans (congrArg some (by kernel_rfl))
 f217:=Tryz.func74.trans (congrArg some (by kernel_rfl))
 f224:=Tryz.func76.trans (congrArg some (by kernel_rfl))
 f225:=Tryz.func75.trans (congrArg some (by kernel_rfl))
 f227:=Tryz.func101.trans (congrArg some (by kernel_rfl))
 f228:=Tryz.func122.trans (congrArg some (by kernel_rfl))
 f231:=Tryz.func100.trans (congrArg some (by kernel_rfl))
 f233:=Tryz.func102.trans (congrArg some (by kernel_rfl))
 f235:=Tryz.func103.trans (congrArg some (by kernel_rfl))
 f260:=Tryz.func93.trans (congrArg some (by kernel_rfl))
 f266:=Tryz.func96.trans (congrArg some (by kernel_rfl))
 t0:=Tryz.underlying0
 a0:=Tryz.isAgg0
 z0:=Tryz.sizeOf0
 v0:=Tryz.zeroValue0
 t3:=Tryz.underlying3
 a3:=Tryz.isAgg3
 z3:=Tryz.sizeOf3
 v3:=Tryz.zeroValue3
 t4:=Tryz.underlying4
 a4:=Tryz.isAgg4
 z4:=Tryz.sizeOf4
 v4:=Tryz.zeroValue4
 t5:=Tryz.underlying5
 a5:=Tryz.isAgg5
 z5:=Tryz.sizeOf5
 v5:=Tryz.zeroValue5
 t9:=Tryz.underlying9
 a9:=Tryz.isAgg9
 z9:=Tryz.sizeOf9
 v9:=Tryz.zeroValue9
 t21:=Tryz.underlying21
 a21:=Tryz.isAgg21
 z21:=Tryz.sizeOf21
 v21:=Tryz.zeroValue21
 t46:=Tryz.underlying129
 a46:=Tryz.isAgg129
 z46:=Tryz.sizeOf129
 v46:=Tryz.zeroValue129
 t105:=Tryz.underlying119
 a105:=Tryz.isAgg119
 z105:=Tryz.sizeOf119
 v105:=Tryz.zeroValue119
 t116:=Tryz.underlying161
 a116:=Tryz.isAgg161
 z116:=Tryz.sizeOf161
 t117:=Tryz.underlying162
 a117:=Tryz.isAgg162
 z117:=Tryz.sizeOf162
 v117:=Tryz.zeroValue162
 t119:=Tryz.underlying174
 a119:=Tryz.isAgg174
 z119:=Tryz.sizeOf174
 t124:=Tryz.underlying165
 a124:=Tryz.isAgg165
 z124:=Tryz.sizeOf165
 v124:=Tryz.zeroValue165
 t138:=Tryz.underlying176
 a138:=Tryz.isAgg176
 z138:=Tryz.sizeOf176
 v138:=Tryz.zeroValue176
 t139:=Tryz.underlying177
 a139:=Tryz.isAgg177
 z139:=Tryz.sizeOf177
 v139:=Tryz.zeroValue177
 g3:=by kernel_rfl
 g4:=by kernel_rfl }
end Go.Proofs
namespace Go.Proofs.YtjkljpdolhglcaaGreatDoor
open Go.ChangeShapes Go.WideShapes Go.ChangeAt Go.RowKit
theorem fold_any(s:ByteArray)(w:World)(hs:s.size<=9223372036854775807) :
  Calls Tryz.prog 52 #[.string s] w fun e w'=>e=.returned (.string ⟨(txt ((nums s).map fz)).toArray⟩)/\Hid (Below w.heap.size w w'):=by
 obtain ⟨zs,hc,hb,ht,hl⟩:=conv_new s w
 have H0:Hid (Blk2 (w.drew.alloc (.cells (zs.map (Value.int .u8)).toArray 5 (zs.length,zs.length+1))) w.heap.size zs/\FSt (nums s) zs 0/\Below w.heap.size w (w.drew.alloc (.cells (zs.map (Value.int .u8)).toArray 5 (zs.length,zs.length+1)))):=by
  refine ⟨hb,FSt.zero (by rw[nums_len];exact ht) (by rw[nums_len];exact hl),(Below.refl _ _).drew.alloc (Nat.le_refl _) _⟩
 have HLn:Hid (zs.length=zs.length):=rfl
 clear hb ht
 go_enter Tryz.func52,Tryz.ntmps52
 generalize hzl:zs.length=C at*
 have HZ:Hid (zs.length=C):=hzl
 clear hzl
 generalize (w.drew.alloc (.cells (zs.map (Value.int .u8)).toArray 5 (C,C+1)))=W0 at*
 go_wp2_with fail
 go_loopw [10] (fun x wr=>∃k:Nat,k<=s.size/\x=.int .i64 k/\Hid (∃ys,ys.length=C/\Blk2 wr w.heap.size ys/\FSt (nums s) ys k)/\Hid (Below w.heap.size w wr)) (fun x _=>s.size - (intOf x).toNat)
 case atStart=>exact ⟨0,Nat.zero_le _,rfl,⟨zs,HZ.out,H0.out.1,H0.out.2.1⟩,H0.out.2.2⟩
 case round=>
  obtain ⟨k,hk,rfl,HW,HB⟩:=hrel
  clear H0 hc
  by_cases hlt:k<s.size
  ·have hlt':(k:Int)<(s.size:Int):=by omega
   obtain ⟨ys,e1,e2,e3⟩:=HW.out
   have hcell:=e2.cell k (by omega)
   have hfr:=e2.frozen k (by omega)
   have hv:=e3.2 k (by rw[nums_len];exact hlt)
   rw[if_neg (by omega)] at hv
   rw[hv] at hcell
   have hbd:=nums_bd s k
   have HY:Hid (ys.length=C/\Blk2 wr w.heap.size ys/\FSt (nums s) ys k):=⟨e1,e2,e3⟩
   have HK:Hid (k<(nums s).length):=(show k<_ by rw[nums_len];exact hlt)
   have HF:Hid (fz ((nums s).getD k 0)=if 65<=(nums s).getD k 0/\(nums s).getD k 0<=90 then (nums s).getD k 0+32 else (nums s).getD k 0):=(show _=_ from rfl)
   have HS1:Hid (fz ((nums s).getD k 0)=(nums s).getD k 0->FSt (nums s) ys (k+1)):=fun h=>e3.same h
   have HS2:Hid (FSt (nums s) (ys.set k (fz ((nums s).getD k 0))) (k+1)):=e3.set HK.out
   clear e1 e2 e3 hv
   generalize (nums s).getD k 0=z at*
   by_cases hu:65<=z/\z<=90
   ·have hz1:fz z=z+32:=by rw[HF.out,if_pos hu]
    rw[hz1] at HS2
    have HB3:Hid (Blk2 (wr.setCell ⟨w.heap.size,k,none⟩ (.int .u8 (z+32))) w.heap.size (ys.set k (z+32))/\Below w.heap.size w (wr.setCell ⟨w.heap.size,k,none⟩ (.int .u8 (z+32)))):=⟨HY.out.2.1.stored k _ (by omega),HB.out.setCell (Nat.le_refl _) _⟩
    clear hz1
    go_wp2
    rw[show z - 65+97=z+32 by omega]
    refine ⟨⟨k+1,by omega,by go_num,⟨_,?_,HB3.out.1,HS2.out⟩,HB3.out.2⟩,by simp[intOf];omega⟩
    rw[List.length_set];exact HY.out.1
   ·have hz1:fz z=z:=by rw[HF.out,if_neg hu]
    have HS3:Hid (FSt (nums s) ys (k+1)):=HS1.out hz1
    clear hz1 HS1 HS2
    have hor:z<65∨90<z:=by omega
    clear HF
    rcases hor with ho|ho
    all_goals
     go_wp2
     exact ⟨⟨k+1,by omega,by go_num,⟨ys,HY.out.1,HY.out.2.1,HS3.out⟩,HB.out⟩,by simp[intOf];omega⟩
  ·have hge:(s.size:Int)<=(k:Int):=by omega
   obtain ⟨ys,e1,e2,e3⟩:=HW.out
   have hks:k=s.size:=by omega
   have hd:ys.take s.size=(nums s).map fz:=by
    have:=FSt.done (l:=nums s) (zs:=ys) (by rw[nums_len,<- hks];exact e3)
    rw[nums_len] at this
    exact this
   have hrd:=e2.rd s.size
   rw[hd] at hrd
   have hcv:=conv_rd (some ⟨w.heap.size,0,none⟩) s.size C ((nums s).map fz) wr hrd (by rw[List.length_map,nums_len])
   clear hrd hd e1 e2 e3
   go_wp2
   go_ret
   exact ⟨rfl,HB.out⟩
end Go.Proofs.YtjkljpdolhglcaaGreatDoor
namespace Go.Proofs.YtjkljpdolhglcaaGreatDoor
open Go.ChangeShapes Go.WideShapes Go.ChangeAt Go.RowKit
abbrev digB:ByteArray:=⟨#[48,49,50,51,52,53,54,55,56,57]⟩
abbrev letB:ByteArray:=⟨#[119,100,104,109,115]⟩
theorem dig_has(c:UInt8):digB.data.toList.contains c=xdig (c.toNat:Int):=by
 have:∀c:Fin 256,digB.data.toList.contains (UInt8.ofNat c.val)=xdig ((UInt8.ofNat c.val).toNat:Int):=by decide +kernel
 have h:=this ⟨c.toNat,c.toNat_lt⟩
 simpa using h
def behB(s:ByteArray):ByteArray:=⟨(Lib.trimLeftS s.data.toList digB.data.toList).toArray⟩
theorem behB_nums(s:ByteArray):nums (behB s)=aftD (nums s):=by
 rw[nums_bi,nums_bi]
 show bi (Lib.trimLeftS s.data.toList digB.data.toList)=_
 unfold Lib.trimLeftS aftD bi
 rw[List.dropWhile_map]
 congr 2
 funext c
 exact dig_has c
theorem dgs_aft(l:List Int):dgsD l++aftD l=l:=List.takeWhile_append_dropWhile
theorem ext_nums(s:ByteArray)(k:Nat)(hk:k<=s.size):nums (s.extract 0 k)=(nums s).take k:=by
 rw[nums_bi,nums_bi]
 unfold bi
 rw[<- List.map_take]
 congr 1
 simp
theorem ext_dgs(s:ByteArray):nums (s.extract 0 (s.size - (behB s).size))=dgsD (nums s)/\(behB s).size<=s.size:=by
 have h1:(behB s).size=(aftD (nums s)).length:=by rw[<- behB_nums,nums_len]
 have h2:=congrArg List.length (dgs_aft (nums s))
 rw[List.length_append,nums_len] at h2
 refine ⟨?_,by omega⟩
 rw[ext_nums s _ (by omega)]
 conv=>lhs;arg 2;rw[<- dgs_aft (nums s)]
 rw[List.take_left' (by omega)]
theorem ext_tail(s:ByteArray):nums (s.extract 1 s.size)=(nums s).drop 1:=by
 rw[nums_bi,nums_bi]
 unfold bi
 rw[<- List.map_drop]
 congr 1
 simp
 try exact List.take_of_length_le (by simp)
theorem pl_idx(c:UInt8):∀L:List UInt8,(plF c.toNat (bi L)=none/\Lib.indexByte L c = -1)∨(∃p,plF c.toNat (bi L)=some p/\Lib.indexByte L c=(p:Int)/\p<L.length)
 |[]=>.inl ⟨rfl,rfl⟩
 |b::L=>by
  by_cases h:b=c
  ·subst h
   exact .inr ⟨0,by simp[bi,plF],by simp[Lib.indexByte],by simp⟩
  ·have h1:¬ ((b.toNat:Int)=(c.toNat:Int)):=fun e=>h (u8i e)
   have h2:(b == c)=false:=by simpa using h
   rcases pl_idx c L with ⟨a1,a2⟩|⟨p,a1,a2,a3⟩
   ·left
    refine ⟨?_,?_⟩
    ·rw[bi_cons];unfold plF;rw[if_neg h1,a1];rfl
    ·unfold Lib.indexByte;rw[h2,a2];simp
   ·right
    refine ⟨p+1,?_,?_,by simp;omega⟩
    ·rw[bi_cons];unfold plF;rw[if_neg h1,a1];rfl
    ·unfold Lib.indexByte
     rw[h2,a2]
     have:((p:Int) == -1)=false:=by rw[beq_eq_false_iff_ne];omega
     simp[this]
theorem let_ext(f:Nat)(hf:f<=5):bi (letB.extract f 5).data.toList=lets.drop f/\(letB.extract f 5).data.toList.length=5 - f:=by
 rcases (by omega:f=0∨f=1∨f=2∨f=3∨f=4∨f=5) with rfl|rfl|rfl|rfl|rfl|rfl <;> exact ⟨by decide +kernel,by decide +kernel⟩
def PlO(c:UInt8)(f:Nat)(i:Int):Prop:=(plF c.toNat (lets.drop f)=none/\i = -1)∨(∃p:Nat,plF c.toNat (lets.drop f)=some p/\i=p/\f+p<=4)
theorem pl_o(c:UInt8)(f:Nat)(hf:f<=5):PlO c f (Lib.indexByte (letB.extract f 5).data.toList c):=by
 obtain ⟨h1,h2⟩:=let_ext f hf
 rcases pl_idx c (letB.extract f 5).data.toList with ⟨a1,a2⟩|⟨p,a1,a2,a3⟩
 ·exact .inl ⟨by rw[<- h1];exact a1,a2⟩
 ·exact .inr ⟨p,by rw[<- h1];exact a1,a2,by omega⟩
theorem sumF_step {k : Nat} {l : List Int} {f al : Nat} (hl : l ≠ []) : sumF (k + 1) l f al = (num31 (dgsD l)).bind fun n => match aftD l with
      | [] => none
      | c :: t => (plF c (lets.drop f)).bind fun p => sumF k t (f + p + 1) (al + n * lens.getD (f + p) 0) := by
  cases l with
  | nil => exact absurd rfl hl
  | cons a l => rfl
theorem lens_bd(p:Nat)(h:p<=4):lens.getD p 0<=604800:=by
 rcases (by omega:p=0∨p=1∨p=2∨p=3∨p=4) with rfl|rfl|rfl|rfl|rfl <;> decide
theorem lens_tab(p:Nat)(h:p<=4):lenTab.getD p 0=((lens.getD p 0:Nat):Int):=by
 rcases (by omega:p=0∨p=1∨p=2∨p=3∨p=4) with rfl|rfl|rfl|rfl|rfl <;> decide
theorem lens_cell{w:World}(hL:LayT w)(p:Nat)(h:p<=4):w.cell? ⟨1,p,none⟩=some (.int .u64 ((lens.getD p 0:Nat):Int)):=by
 rw[hL.2.2.cell gLen p (by simp;omega),lens_tab p h]
theorem fits_any(n:Nat)(hn:n<18446744073709551616)(w:World):Calls Tryz.prog 81 #[.int .u64 (n:Int)] w fun e w'=>e=.returned (.bool (decide (n<2147483648)))/\w'=w:=by
 by_cases h:n<2147483648
 ·have h':(n:Int)<2147483648:=by omega
  go_enter Tryz.func81,Tryz.ntmps81
  go_wp2_with fail
  go_ret
  exact ⟨by simp[h],rfl⟩
 ·have h':¬ (n:Int)<2147483648:=by omega
  go_enter Tryz.func81,Tryz.ntmps81
  go_wp2_with fail
  go_ret
  exact ⟨by simp[h],rfl⟩
theorem trim_any(s:ByteArray)(w:World):Calls Tryz.prog 79 #[.string s,.string digB] w fun e w'=>e=.returned (.string (behB s))/\Hid (Below w.heap.size w w'):=
 (Any.strings_TrimLeft_laid Tryz.lays161 (by kernel_rfl) s digB w (by decide) (ascii_of_all (by decide))).mono fun e w' h=>h
theorem let_sl(f:Nat)(hf:f<=5)(w:World):(Instr.slice 9 (.string ⟨#[119,100,104,109,115]⟩) (some (.int .i64 (f:Int))) none none).run Tryz.prog w=.ok (.string (letB.extract f 5)) w:=by
 rcases (by omega:f=0∨f=1∨f=2∨f=3∨f=4∨f=5) with rfl|rfl|rfl|rfl|rfl|rfl <;> (clear hf;show Sem.run _ _ _=Result.ok _ _;kernel_rfl)
theorem let_sa(f:Nat)(hf:f<=5)(w:World):(Instr.sliceAt 9 (.string ⟨#[119,100,104,109,115]⟩) (some (.int .i64 (f:Int))) none none).run Tryz.prog w=.ok (.string (letB.extract f 5)) w:=by
 rcases (by omega:f=0∨f=1∨f=2∨f=3∨f=4∨f=5) with rfl|rfl|rfl|rfl|rfl|rfl <;> (clear hf;show Sem.run _ _ _=Result.ok _ _;kernel_rfl)
def SumO(o:Option (Nat × Nat))(w:World)(e:Ending)(w':World):Prop:=
 ∃(n:Nat) (b:Bool),e=.returned (.tuple #[.int .u32 (n:Int),.bool b])/\Hid ((b=true->((o.bind fun p=>if 0<p.1/\p.2<2147483648 then some p.2 else none)=some n))/\(b=false->(o.bind fun p=>if 0<p.1/\p.2<2147483648 then some p.2 else none)=none))/\Hid (Below w.heap.size w w')
def SmI(S:ByteArray)(s:ByteArray)(f al:Nat):Prop:=f<=5/\s.size<=S.size/\al<=f*1298801745100800/\∃k,6<=k+f/\sumF 6 (nums S) 0 0=sumF k (nums s) f al
def szS:Value->Nat
 | .string t=>t.size
 |_=>0
theorem sum_any(S:ByteArray)(hs:S.size<=281474976710656)(w:World)(hE:LayE w)(hL:LayT w):Calls Tryz.prog 51 #[.string S] w (SumO (sumF 6 (nums S) 0 0) w):=by
 have HE:Hid (LayE w/\LayT w):=⟨hE,hL⟩
 have HS:Hid (S.size<=281474976710656):=hs
 have H0:Hid (SmI S S 0 0):=⟨by omega,Nat.le_refl _,by omega,6,by omega,rfl⟩
 clear hE hL hs
 go_enter Tryz.func51,Tryz.ntmps51
 go_wp2_with fail
 go_loopw [0,4,5] (fun vs va vf wr=>∃(s:ByteArray) (f al:Nat),vs=.string s/\va=.int .u64 (al:Int)/\vf=.int .i64 (f:Int)/\Hid (SmI S s f al)/\Hid (Below w.heap.size w wr)) (fun vs _ _ _=>szS vs)
 case atStart=>exact ⟨S,0,0,rfl,rfl,rfl,H0.out,Below.refl _ _⟩
 case round=>
  obtain ⟨s,f,al,rfl,rfl,rfl,HI,HB⟩:=hrel
  have hf5:=HI.out.1
  have hal:al<=7000000000000000:=by have:=HI.out.2.2.1;omega
  have hss:s.size<=281474976710656:=by have:=HI.out.2.1;have:=HS.out;omega
  by_cases h0:s.data.toList=[]
  ·have e:=ba_nil h0
   subst e
   have KF:=Lib.hid (fun W=>fits_any al (by omega) W)
   have HQ:Hid (sumF 6 (nums S) 0 0=some (f,al)):=by
    obtain ⟨k,hk,e⟩:=HI.out.2.2.2
    show _=_
    rw[e]
    cases k <;> rfl
   by_cases hf:f=0
   ·subst hf
    go_wp2_with fail
    go_ret2
    refine ⟨_,false,rfl,⟨fun h=>by (cases h),fun _=>by rw[HQ.out];rfl⟩,HB.out⟩
   ·have hf1:(0:Int)<(f:Int):=by omega
    by_cases ha:al<2147483648
    ·have hd:decide (al<2147483648)=true:=decide_eq_true ha
     rw[hd] at KF
     have ha2:al<4294967296:=by omega
     go_wp2_with fail
     refine (KF.out _).mono ?_
     rintro e W ⟨rfl,rfl⟩
     go_wp2_with fail
     go_ret2
     refine ⟨al,true,rfl,⟨fun _=>?_,fun h=>by (cases h)⟩,HB.out⟩
     rw[HQ.out]
     show (if _ then _ else _)=_
     rw[if_pos ⟨by omega,ha⟩]
    ·have hd:decide (al<2147483648)=false:=decide_eq_false ha
     rw[hd] at KF
     go_wp2_with fail
     refine (KF.out _).mono ?_
     rintro e W ⟨rfl,rfl⟩
     go_wp2_with fail
     go_ret2
     refine ⟨al % 4294967296,false,?_,⟨fun h=>by (cases h),fun _=>?_⟩,HB.out⟩
     ·rw[show ((al % 4294967296:Nat):Int)=(al:Int) % 4294967296 from by omega]
      first|rfl|(rw[IntKind.wrap_u32])
     ·rw[HQ.out]
      show (if _ then _ else _)=_
      rw[if_neg (by omega)]
  ·have hne:(s.toList == [])=false:=by
    rw[beq_eq_false_iff_ne,Lib.toList_data];exact h0
   have hln:nums s≠[]:=by
    intro e
    apply h0
    rw[nums_bi] at e
    have:=congrArg List.length e
    rw[bi_len] at this
    exact List.length_eq_zero_iff.1 (by simpa using this)
   have KT:=Lib.hid (fun W=>trim_any s W)
   have KN:=Lib.hid (fun W (hW:Below w.heap.size w W)=>num31_any (s.extract 0 (s.size - (behB s).size)) (by simp;omega) W (HE.out.1.below hW))
   obtain ⟨hx1,hx2⟩:=ext_dgs s
   have HX:Hid (nums (s.extract 0 (s.size - (behB s).size))=dgsD (nums s)):=hx1
   have HA:Hid (nums (behB s)=aftD (nums s)):=behB_nums s
   have HST:Hid (∃k,6<=k+1+f/\sumF 6 (nums S) 0 0=(num31 (dgsD (nums s))).bind fun n=>match aftD (nums s) with
     |[]=>none
     |c::t=>(plF c (lets.drop f)).bind fun p=>sumF k t (f+p+1) (al+n*lens.getD (f+p) 0)):=by
    obtain ⟨k,hk,e⟩:=HI.out.2.2.2
    obtain ⟨k,rfl⟩:∃j,k=j+1:=⟨k - 1,by omega⟩
    exact ⟨k,by omega,by rw[e,sumF_step hln]⟩
   generalize behB s=bh at*
   generalize hex:s.extract 0 (s.size - bh.size)=dg at*
   have hsub:(s.size:Int) - (bh.size:Int)=((s.size - bh.size:Nat):Int):=by omega
   generalize hsd:s.size - bh.size=sd at*
   clear h0 hx1 hln
   go_wp2_with fail
   refine (KT.out _).mono ?_
   rintro e w1 ⟨rfl,H1⟩
   have HB1:Hid (Below w.heap.size w w1):=HB.out.trans (H1.out.mono HB.out.size)
   clear KT H1 HB
   go_wp2_with fail
   try rw[hex]
   refine (KN.out _ HB1.out).mono ?_
   rintro e w2 ⟨n,b,rfl,Hn,H8,H2⟩
   have HB2:Hid (Below w.heap.size w w2):=HB1.out.trans (H2.out.mono HB1.out.size)
   have hn:=Hn.out
   clear KN H2 HB1
   cases b with
   |false=>
    go_wp2_with fail
    go_ret2
    refine ⟨0,false,rfl,⟨fun h=>by (cases h),fun _=>?_⟩,HB2.out⟩
    obtain ⟨k,hk,e⟩:=HST.out
    rw[e,<- HX.out,H8.out.2 (by simp)];rfl
   |true=>
    by_cases hb0:bh.data.toList=[]
    ·have e:=ba_nil hb0
     subst e
     go_wp2_with fail
     go_ret2
     refine ⟨0,false,rfl,⟨fun h=>by (cases h),fun _=>?_⟩,HB2.out⟩
     obtain ⟨k,hk,e⟩:=HST.out
     rw[e,<- HX.out,H8.out.1 (by simp),<- HA.out];rfl
    ·have hbe:(bh.toList == [])=false:=by
      rw[beq_eq_false_iff_ne,Lib.toList_data];exact hb0
     have hb1:0<bh.size:=by have:=size_ne hb0;omega
     have hb1':(0:Int)<(bh.size:Int):=by omega
     have HAF:Hid (aftD (nums s)=(bh[0].toNat:Int)::nums (bh.extract 1 bh.size)):=by
      show _=_
      rw[<- HA.out,ext_tail]
      exact nums_from bh 0 hb1
     have HPL:=Lib.hid (pl_o bh[0] f hf5)
     have KI:=Lib.hid (fun W=>Tryz.strings_IndexByte (letB.extract f 5) ((bh[0].toNat:Nat):Int) W)
     have hub:(((bh[0].toNat:Nat):Int).toNat.toUInt8)=bh[0]:=by simp
     rw[hub] at KI
     have hc255:bh[0].toNat<256:=bh[0].toNat_lt
     have hsl:=fun W=>let_sl f hf5 W
     have hsa:=fun W=>let_sa f hf5 W
     generalize hle:letB.extract f 5=le at*
     generalize Lib.indexByte le.data.toList bh[0]=ix at*
     clear hb0 hub
     go_wp2_with fail
     go_quiet (first
      |(go_at_call 80;exact Calls.quiet_of_same (KI.out _)))
     rcases HPL.out with ⟨hp,hix⟩|⟨p,hp,hix,hfp⟩
     ·subst hix
      go_wp2_with fail
      go_ret2
      refine ⟨0,false,rfl,⟨fun h=>by (cases h),fun _=>?_⟩,HB2.out.trans ⟨rfl,rfl,rfl,Nat.le_refl _,fun _ _=>rfl⟩⟩
      obtain ⟨k,hk,e⟩:=HST.out
      rw[e,<- HX.out,H8.out.1 (by simp),HAF.out]
      simp[hp]
     ·subst hix
      have HP:Hid (plF bh[0].toNat (lets.drop f)=some p):=hp
      have hlc:=lens_cell (HE.out.2.below HB2.out) (f+p) hfp
      have hL0:=lens_bd (f+p) hfp
      have HLN:Hid (∃L,L=lens.getD (f+p) 0):=⟨_,rfl⟩
      obtain ⟨L,hLL⟩:=HLN.out
      rw[<- hLL] at hlc hL0
      have HLL:Hid (L=lens.getD (f+p) 0):=hLL
      obtain ⟨Mm,hMm⟩:∃Mm,Mm=n*L:=⟨_,rfl⟩
      have HMm:Hid (Mm=n*L):=hMm
      have hMb:Mm<=1298801745100800:=by rw[hMm];exact Nat.le_trans (Nat.mul_le_mul hn hL0) (by decide)
      have hmul:(n:Int)*(L:Int)=(Mm:Int):=by rw[hMm,Int.natCast_mul]
      have hwr:IntKind.u64.wrap ((n:Int)*(L:Int))=(Mm:Int):=by rw[hmul,IntKind.wrap_u64];omega
      have hfp0:(f:Int)+(p:Int)<5:=by omega
      have hfp1:(f:Int)+(p:Int)<=4:=by omega
      have hpn:¬ (p:Int)<0:=by omega
      have hnw:n<4294967296:=by omega
      clear hLL hMm hp
      go_wp2_with fail
      refine ⟨⟨bh.extract 1 bh.size,f+p+1,al+Mm,rfl,?_,?_,?_,HB2.out.trans ⟨rfl,rfl,rfl,Nat.le_refl _,fun _ _=>rfl⟩⟩,?_⟩
      ·first|rfl|(congr 1;omega)
      ·first|rfl|(congr 1;omega)
      ·obtain ⟨k,hk,e⟩:=HST.out
       refine ⟨by omega,?_,?_,k,by omega,?_⟩
       ·have:=HI.out.2.1
        simp
        omega
       ·have:=HI.out.2.2.1
        have h9:(f+p+1)*1298801745100800=(f+p)*1298801745100800+1298801745100800:=by rw[Nat.succ_mul]
        have h8:f*1298801745100800<=(f+p)*1298801745100800:=Nat.mul_le_mul_right _ (by omega)
        omega
       ·rw[e,<- HX.out,H8.out.1 (by simp),HAF.out]
        simp only[Option.bind_some]
        rw[HP.out]
        simp only[Option.bind_some]
        rw[<- HLL.out,<- HMm.out]
      ·simp[szS]
       omega
def SecO(o:Option Nat)(w:World)(e:Ending)(w':World):Prop:=
 ∃(n:Nat) (b:Bool),e=.returned (.tuple #[.int .u32 (n:Int),.bool b])/\Hid ((b=true->o=some n)/\(b=false->o=none))/\Hid (Below w.heap.size w w')
theorem seconds_any(s:ByteArray)(hs:s.size<=281474976710656)(w:World)(hE:LayE w)(hL:LayT w):Calls Tryz.prog 30 #[.string s] w (SecO (ttlF s) w):=by
 have KN:=Lib.hid (num31_any s hs w hE)
 have KF:Hid (∀W,Calls Tryz.prog 52 #[.string s] W fun e w'=>e=.returned (.string (foldL s))/\Hid (Below W.heap.size W w')):=fun W=>fold_any s W (by omega)
 have KS:Hid (∀W,Below w.heap.size w W->Calls Tryz.prog 51 #[.string (foldL s)] W (SumO (sumF 6 (nums (foldL s)) 0 0) W)):=fun W hW=>sum_any (foldL s) (by rw[foldL_size];exact hs) W (hE.below hW) (hL.below hW)
 have HT:Hid (∀n,num31 (nums s)=some n->ttlF s=some n):=fun n h=>by unfold ttlF;rw[h]
 have HT2:Hid (num31 (nums s)=none->ttlF s=(sumF 6 (nums (foldL s)) 0 0).bind fun p=>if 0<p.1/\p.2<2147483648 then some p.2 else none):=fun h=>by unfold ttlF;rw[h]
 clear hE hL hs
 generalize foldL s=fs at*
 generalize ttlF s=tf at*
 go_enter Tryz.func30,Tryz.ntmps30
 go_wp2_with fail
 refine KN.out.mono ?_
 rintro e w1 ⟨n,b,rfl,Hn,H8,HB⟩
 clear KN
 cases b with
 |true=>
  have HR:Hid (tf=some n):=HT.out n (H8.out.1 rfl)
  clear H8 HT HT2 Hn
  go_wp2_with fail
  go_ret2
  exact ⟨n,true,rfl,⟨fun _=>HR.out,fun h=>by (cases h)⟩,HB.out⟩
 |false=>
  have HR:=Lib.hid (HT2.out (H8.out.2 rfl))
  clear H8 HT HT2 Hn
  go_wp2_with fail
  refine (KF.out _).mono ?_
  rintro e w2 ⟨rfl,H2⟩
  have HB2:Hid (Below w.heap.size w w2):=HB.out.trans (H2.out.mono HB.out.size)
  clear KF H2 HB
  go_wp2_with fail
  refine (KS.out _ HB2.out).mono ?_
  rintro e w3 ⟨m,b,rfl,H9,H3⟩
  have HB3:Hid (Below w.heap.size w w3):=HB2.out.trans (H3.out.mono HB2.out.size)
  clear KS H3 HB2
  go_wp2_with fail
  go_ret2
  exact ⟨m,b,rfl,⟨fun h=>by rw[HR.out];exact H9.out.1 h,fun h=>by rw[HR.out];exact H9.out.2 h⟩,HB3.out⟩
def TtO(o:Option Nat)(w:World)(e:Ending)(w':World):Prop:=
 ∃(n:Nat) (er:Int),e=.returned (.tuple #[.int .u32 (n:Int),.int .i64 er])/\Hid ((er=0/\o=some n)∨(er=240/\o=none/\n=0))/\Hid (Below w.heap.size w w')
theorem ttl_any(s:ByteArray)(hs:s.size<=281474976710656)(w:World)(hE:LayE w)(hL:LayT w):Calls Tryz.prog 16 #[.string s] w (TtO (ttlF s) w):=by
 have K:=Lib.hid (seconds_any s hs w hE hL)
 clear hE hL hs
 generalize ttlF s=tf at*
 go_enter Tryz.func16,Tryz.ntmps16
 go_wp2_with fail
 refine K.out.mono ?_
 rintro e w1 ⟨n,b,rfl,H8,HB⟩
 clear K
 cases b with
 |true=>
  have HR:=Lib.hid (H8.out.1 rfl)
  clear H8
  go_wp2_with fail
  go_ret2
  exact ⟨n,0,rfl,.inl ⟨rfl,HR.out⟩,HB.out⟩
 |false=>
  have HR:=Lib.hid (H8.out.2 rfl)
  clear H8
  go_wp2_with fail
  go_ret2
  exact ⟨0,240,rfl,.inr ⟨rfl,HR.out,rfl⟩,HB.out⟩
structure Ws(w:World)(x:Sl)(ws:List Wd):Prop where
 n:x.n=ws.length
 c:ws.length<=x.c
 c63:x.c<=9223372036854775807
 rd:RdW w x.a ws
 wb:WB ws
theorem Ws.below{w w':World}{x:Sl}{ws:List Wd}(h:Ws w x ws)(hb:Below w.heap.size w w'):Ws w' x ws:=⟨h.n,h.c,h.c63,h.rd.below hb,h.wb⟩
abbrev enV(x:Sl)(e:En):Value:=.agg #[.int .i64 e.line,.bool e.blank,.slice x.a x.n x.c]
theorem opn_size(e:En)(h:WB e.ws):(opnF e).size<=1000000:=by
 unfold opnF
 split
 ·exact Nat.zero_le _
 ·split
  ·rename_i s r hs
   exact h.2 (s,false) (by rw[hs];simp)
  ·exact Nat.zero_le _
theorem opening_any(x:Sl)(e:En)(w:World)(h:Ws w x e.ws):Calls Tryz.prog 63 #[enV x e] w fun r w'=>r=.returned (.string (opnF e))/\Hid (Below w.heap.size w w'):=by
 obtain ⟨ln,bl,ws⟩:=e
 obtain ⟨a,n,c⟩:=x
 have HN:Hid (n=ws.length):=h.n
 have hrd:RdW w a ws:=h.rd
 have HB:Hid (Below w.heap.size w (w.alloc (.cells #[.int .i64 ln,.bool bl,.slice a n c] 75))):=(Below.refl _ _).alloc (Nat.le_refl _) _
 clear h
 cases bl with
 |true=>
  have HO:Hid (opnF ⟨ln,true,ws⟩=⟨#[]⟩):=rfl
  rw[HO.out]
  go_enter Tryz.func63,Tryz.ntmps63
  go_wp2_with fail
  go_ret
  exact ⟨rfl,HB.out⟩
 |false=>
  cases ws with
  |nil=>
   have HO:Hid (opnF ⟨ln,false,[]⟩=⟨#[]⟩):=rfl
   rw[HO.out]
   have hn:n=0:=HN.out
   subst hn
   go_enter Tryz.func63,Tryz.ntmps63
   go_wp2_with fail
   go_ret
   exact ⟨rfl,HB.out⟩
  |cons p r=>
   obtain ⟨s,q⟩:=p
   obtain ⟨b,o,rfl,hb,c1,c2,-⟩:=hrd.head
   have hn0:¬ (n:Int)=0:=by have:=HN.out;simp at this;omega
   have hn1:((n:Int) == 0)=false:=by rw[beq_eq_false_iff_ne];exact hn0
   have hn2:(0:Int)<(n:Int):=by omega
   have hne:¬ w.heap.size=b:=by omega
   have hne2:¬ b=w.heap.size:=by omega
   clear hrd
   cases q with
   |true=>
    have HO:Hid (opnF ⟨ln,false,(s,true)::r⟩=⟨#[]⟩):=rfl
    rw[HO.out]
    go_enter Tryz.func63,Tryz.ntmps63
    go_wp2_with fail
    go_ret
    exact ⟨rfl,HB.out⟩
   |false=>
    have HO:Hid (opnF ⟨ln,false,(s,false)::r⟩=s):=rfl
    rw[HO.out]
    go_enter Tryz.func63,Tryz.ntmps63
    go_wp2_with fail
    go_ret
    exact ⟨rfl,HB.out⟩
theorem cmdword_any(x:Sl)(e:En)(w:World)(h:Ws w x e.ws):Calls Tryz.prog 36 #[enV x e] w fun r w'=>r=.returned (.string (foldL (opnF e)))/\Hid (Below w.heap.size w w'):=by
 have HB:Hid (Below w.heap.size w (w.alloc (.cells #[.int .i64 e.line,.bool e.blank,.slice x.a x.n x.c] 75))):=(Below.refl _ _).alloc (Nat.le_refl _) _
 have KO:=Lib.hid (opening_any x e _ (h.below HB.out))
 have KF:=Lib.hid (fun W=>fold_any (opnF e) W (by have:=opn_size e h.wb;omega))
 obtain ⟨F,hF⟩:∃F,foldL (opnF e)=F:=⟨_,rfl⟩
 have e1:(⟨(txt ((nums (opnF e)).map fz)).toArray⟩:ByteArray)=F:=hF
 rw[e1] at KF
 rw[hF]
 clear hF e1 h
 generalize opnF e=op at*
 obtain ⟨ln,bl,ws⟩:=e
 go_enter Tryz.func36,Tryz.ntmps36
 go_wp2_with fail
 refine KO.out.mono ?_
 rintro e w1 ⟨rfl,H1⟩
 have HB1:Hid (Below w.heap.size w w1):=HB.out.trans (H1.out.mono HB.out.size)
 clear KO H1
 go_wp2_with fail
 refine (KF.out _).mono ?_
 rintro e w2 ⟨rfl,H2⟩
 have HB2:Hid (Below w.heap.size w w2):=HB1.out.trans (H2.out.mono HB1.out.size)
 clear KF H2
 go_wp2_with fail
 go_ret
 exact ⟨rfl,HB2.out⟩
theorem pre_marked(e:En):Lib.hasPrefix (opnF e).data.toList [36]=marked e:=by
 unfold marked Lib.hasPrefix
 rw[nums_bi]
 generalize (opnF e).data.toList=l
 cases l with
 |nil=>rfl
 |cons c r=>
  rw[bi_cons]
  simp only[List.isPrefixOf,Bool.and_true,List.head?_cons]
  by_cases h:c=36
  ·subst h;rfl
  ·have h2:¬ ((c.toNat:Int)=36):=fun e=>h (u8i e)
   have h3:((36:UInt8) == c)=false:=by rw[beq_eq_false_iff_ne];exact fun e=>h e.symm
   rw[h3]
   symm
   rw[beq_eq_false_iff_ne]
   intro e
   injection e with e
   exact h2 e
theorem marked_any(x:Sl)(e:En)(w:World)(h:Ws w x e.ws):Calls Tryz.prog 86 #[enV x e] w fun r w'=>r=.returned (.bool (marked e))/\Hid (Below w.heap.size w w'):=by
 have HB:Hid (Below w.heap.size w (w.alloc (.cells #[.int .i64 e.line,.bool e.blank,.slice x.a x.n x.c] 75))):=(Below.refl _ _).alloc (Nat.le_refl _) _
 have KO:=Lib.hid (opening_any x e _ (h.below HB.out))
 have KP:=Lib.hid (fun W=>Tryz.strings_HasPrefix (opnF e) ⟨#[36]⟩ W)
 rw[pre_marked e] at KP
 clear h
 generalize opnF e=op at*
 generalize marked e=mk at*
 obtain ⟨ln,bl,ws⟩:=e
 go_enter Tryz.func86,Tryz.ntmps86
 go_wp2_with fail
 refine KO.out.mono ?_
 rintro e w1 ⟨rfl,H1⟩
 have HB1:Hid (Below w.heap.size w w1):=HB.out.trans (H1.out.mono HB.out.size)
 clear KO H1
 go_wp2_with fail
 refine (KP.out _).mono ?_
 rintro e w2 ⟨rfl,hw⟩
 subst w2
 clear KP
 go_wp2_with fail
 go_ret
 exact ⟨rfl,HB1.out⟩
theorem isT_nil{s:ByteArray}(h:s.data.toList=[]):isT s=false:=by
 unfold isT
 rw[nums_bi,h];rfl
theorem isT_at{s:ByteArray}(h:0<s.size):isT s=xdig (s[0].toNat:Int):=by
 unfold isT
 have:=nums_from s 0 h
 rw[List.drop_zero] at this
 rw[this]
theorem isT_any(s:ByteArray)(w:World):Calls Tryz.prog 130 #[.string s] w fun e w'=>e=.returned (.bool (isT s))/\w'=w:=by
 by_cases h0:s.data.toList=[]
 ·have e:=ba_nil h0
  rw[isT_nil h0]
  subst e
  go_enter Tryz.func130,Tryz.ntmps130
  go_wp2_with fail
  go_ret
  exact ⟨rfl,rfl⟩
 ·have hne:(s.toList == [])=false:=by rw[beq_eq_false_iff_ne,Lib.toList_data];exact h0
  have h1:0<s.size:=by have:=size_ne h0;omega
  have h1':(0:Int)<(s.size:Int):=by omega
  rw[isT_at h1]
  clear h0
  by_cases ha:48<=s[0].toNat
  ·have ha':(48:Int)<=(s[0].toNat:Int):=by omega
   by_cases hb:s[0].toNat<=57
   ·have hb':(s[0].toNat:Int)<=57:=by omega
    have e:xdig (s[0].toNat:Int)=true:=by unfold xdig;simp;omega
    rw[e]
    go_enter Tryz.func130,Tryz.ntmps130
    go_wp2_with fail
    go_ret
    exact ⟨rfl,rfl⟩
   ·have hb':¬ (s[0].toNat:Int)<=57:=by omega
    have e:xdig (s[0].toNat:Int)=false:=by unfold xdig;simp;omega
    rw[e]
    go_enter Tryz.func130,Tryz.ntmps130
    go_wp2_with fail
    go_ret
    exact ⟨rfl,rfl⟩
  ·have ha':¬ (48:Int)<=(s[0].toNat:Int):=by omega
   have e:xdig (s[0].toNat:Int)=false:=by unfold xdig;simp;omega
   rw[e]
   go_enter Tryz.func130,Tryz.ntmps130
   go_wp2_with fail
   go_ret
   exact ⟨rfl,rfl⟩
theorem res_err{o:Option Nat}{x y:Int}(h:Res o x y):(o.isSome=true/\y=0/\∃n:Nat,o=some n/\x=n)∨(o.isSome=false/\y=6/\x=0/\o=none):=by
 cases o with
 |none=>exact .inr ⟨rfl,(h.2 rfl).2,(h.2 rfl).1,rfl⟩
 |some n=>exact .inl ⟨rfl,(h.1 n rfl).2,n,rfl,(h.1 n rfl).1⟩
theorem isC_any(s:ByteArray)(hs:s.size<=1000000)(w:World)(hL:LayT w)(hE:LayE w):Calls Tryz.prog 131 #[.string s] w fun e w'=>e=.returned (.bool (isC s))/\Hid (Below w.heap.size w w'):=by
 have KT:Hid (∀W,Below w.heap.size w W->Calls Tryz.prog 147 #[.string s] W fun e w'=>∃x y,e=.returned (.tuple #[.int .u16 x,.int .i64 y])/\Hid (Res (tyF s) x y)/\Hid (Below W.heap.size W w')):=fun W hW=>ptype_any s (by omega) W (hL.below hW) (hE.below hW)
 have HI:Hid (isC s=((clF s).isSome && (tyF s).isNone)):=rfl
 have KC:Hid (Calls Tryz.prog 132 #[.string s] w fun e w'=>∃x y,e=.returned (.tuple #[.int .u16 x,.int .i64 y])/\Hid (Res (clF s) x y)/\Hid (Below w.heap.size w w')):=pclass_any s (by omega) w hL hE
 clear hL hE
 generalize isC s=ic at*
 generalize clF s=oc at*
 generalize tyF s=ot at*
 go_enter Tryz.func131,Tryz.ntmps131
 go_wp2_with fail
 refine KC.out.mono ?_
 rintro e w1 ⟨x,y,rfl,HR,HB⟩
 clear KC
 go_wp2_with fail
 refine (KT.out _ HB.out).mono ?_
 rintro e w2 ⟨x2,y2,rfl,HR2,HB2⟩
 have HB3:Hid (Below w.heap.size w w2):=HB.out.trans (HB2.out.mono HB.out.size)
 clear KT HB HB2
 rcases res_err HR.out with ⟨a1,rfl,-⟩|⟨a1,rfl,-⟩
 ·rcases res_err HR2.out with ⟨a2,rfl,-⟩|⟨a2,rfl,-⟩
  ·have hic:ic=false:=by rw[HI.out,a1];cases ot <;> simp at a2 ⊢
   subst hic
   clear a1 a2 HR HR2 HI
   go_wp2_with fail
   go_ret
   exact ⟨rfl,HB3.out⟩
  ·have hic:ic=true:=by rw[HI.out,a1];cases ot <;> simp at a2 ⊢
   subst hic
   clear a1 a2 HR HR2 HI
   go_wp2_with fail
   go_ret
   exact ⟨rfl,HB3.out⟩
 ·have hic:ic=false:=by rw[HI.out,a1];rfl
  subst hic
  clear a1 HR HR2 HI
  go_wp2_with fail
  go_ret
  exact ⟨rfl,HB3.out⟩
def styF(s:ByteArray):Nat × Int:=match tyF s with
 |some n=>if storedF n then (n,0) else (n,6)
 |none=>(0,6)
theorem stype_any(s:ByteArray)(hs:s.size<=1000000)(w:World)(hL:LayT w)(hE:LayE w):Calls Tryz.prog 133 #[.string s] w fun e w'=>e=.returned (.tuple #[.int .u16 ((styF s).1:Int),.int .i64 (styF s).2])/\Hid (Below w.heap.size w w'):=by
 have KT:Hid (Calls Tryz.prog 147 #[.string s] w fun e w'=>∃x y,e=.returned (.tuple #[.int .u16 x,.int .i64 y])/\Hid (Res (tyF s) x y)/\Hid (Below w.heap.size w w')):=ptype_any s (by omega) w hL hE
 have HI:Hid (∀n,tyF s=some n->styF s=if storedF n then (n,0) else (n,6)):=fun n h=>by unfold styF;rw[h]
 have HI2:Hid (tyF s=none->styF s=(0,6)):=fun h=>by unfold styF;rw[h]
 clear hL hE
 generalize tyF s=ot at*
 generalize styF s=st at*
 go_enter Tryz.func133,Tryz.ntmps133
 go_wp2_with fail
 refine KT.out.mono ?_
 rintro e w2 ⟨x2,y2,rfl,HR2,HB2⟩
 clear KT
 rcases res_err HR2.out with ⟨a2,rfl,n,hn,rfl⟩|⟨a2,rfl,rfl,hn⟩
 ·have hs:=HI.out n hn
  have KS:=Lib.hid (fun W=>stored_any (n:Int) W)
  cases hst:storedF (n:Int) with
  |true=>
   rw[hst] at hs KS
   simp only[if_true] at hs
   subst hs
   clear HI HI2 HR2 a2 hn hst
   go_wp2_with fail
   refine (KS.out _).mono ?_
   rintro e W ⟨rfl,rfl⟩
   go_wp2_with fail
   go_ret2
   exact ⟨rfl,HB2.out⟩
  |false=>
   rw[hst] at hs KS
   simp only[Bool.false_eq_true,if_false] at hs
   subst hs
   clear HI HI2 HR2 a2 hn hst
   go_wp2_with fail
   refine (KS.out _).mono ?_
   rintro e W ⟨rfl,rfl⟩
   go_wp2_with fail
   go_ret2
   exact ⟨rfl,HB2.out⟩
 ·have hs:=HI2.out hn
  subst hs
  clear HI HI2 HR2 a2 hn
  go_wp2_with fail
  go_ret2
  exact ⟨rfl,HB2.out⟩
end Go.Proofs.YtjkljpdolhglcaaGreatDoor
