/- Texts laid together, in parts: Zn Zo Ma Mb Mb2 Sht Fol Mc Md Me Mf. -/
import Derived.Test.YtjkljpdolhglcaaGreatDoorWjh
import Derived.WalkMore
import Derived.Shelf.Strings.Trim
import Derived.Test.YtjkljpdolhglcaaGreatDoorProg
import Derived.Deep.QuietTactic
import Derived.Shelf.Strings.SlTrimAscii
set_option maxRecDepth 100000
set_option maxHeartbeats 8000000
set_option linter.unusedVariables false
set_option linter.unusedSimpArgs false
namespace Go.Proofs.YtjkljpdolhglcaaGreatDoor
open Go.ChangeShapes Go.WideShapes Go.ChangeAt Go.RowKit
theorem run29(B R:Nat)(w0:Fx)(w:World)(s:ByteArray)(q0:Cf)(start0:Nat)(wv0 ev0:Value)(wS0:World)(h:RSZ B R w0 w s q0 start0 wv0 ev0 wS0)(hP:∀p∈w0.P,p.1<w.heap.size)(hs:s.size<=100000)(hq:q0.st=0)(hn:Nb q0 0) :
  Calls Tryz.prog 34 #[.pointer (some ⟨R,0,none⟩)] w (FnP B R w0 s (goF (linesF s.data.toList) q0 s.data.toList)):=by
 obtain ⟨G,hG⟩:∃G,goF (linesF s.data.toList) q0 s.data.toList=G:=⟨_,rfl⟩
 rw[hG]
 have hlt:=h.bx.lt
 have hB:B<=w.heap.size:=by have:=h.br;omega
 have HA:=Lib.hid ((h.go (al_below w (.cells #[.int .i64 0,.int .i64 0] 28))).put w.heap.size 0 0 (heap_alloc_new w _))
 have HJ:Hid (∀p∈w0.P,p.1≠w.heap.size):=fun p hp e=>by have:=hP p hp;omega
 have HPP:Hid (∀W:World,w.heap.size<W.heap.size->∀p∈(w0.put w.heap.size 0 0).P,p.1<W.heap.size):=fun W hW p hp=>by
  rcases List.mem_cons.1 hp with rfl|hp
  ·exact hW
  ·have:=hP p hp;omega
 have c0:=HA.out.bx.c0
 have HN:=Lib.hid hn
 have HG:=Lib.hid hG
 have HQ:=Lib.hid hq
 -- what is left to do behind the loop
 have HEND:Hid (∀(W:World) (a b:Nat),FnQ B R (w0.put w.heap.size 0 0) s a b W G->(W.heap[w.heap.size]?=some (.cells #[.int .i64 0,.int .i64 0] 28 (0,0)))/\FnQ B R w0 s a b ((W.setCell ⟨w.heap.size,0,none⟩ (.int .i64 a)).setCell ⟨w.heap.size,1,none⟩ (.int .i64 b)) G):=fun W a b hW=>by
  cases G with
  |er e l=>exact ⟨hW.2.2.cell,hW.1,hW.2.1,hW.2.2.pop.res hB HJ.out _ _⟩
  |ok es=>
   obtain ⟨h1,h2,q,st,wv,ev,h3,h4⟩:=hW
   exact ⟨h4.bl.cell,h1,h2,q,st,wv,ev,h3,h4.pop.res h4.bl.cell hB HJ.out _ _⟩
 clear h hP hn hG hq
 go_enter Tryz.func34,Tryz.ntmps34
 go_wp2
 go_step3
 go_wp2
 go_step3
 go_wp2
 go_loopw [3,4,12] (fun x3 x4 x12 wr=>∃(p k:Nat) (q:Cf) (start:Nat) (wv ev:Value) (wS:World),x3=.int .u8 k/\x4=.int .i64 0/\x12=.int .i64 p/\p<=s.size/\k<=6/\Hid (q.st=k)/\Hid (RSZ B R (w0.put w.heap.size 0 0) wr s q start wv ev wS)/\Hid (goF (linesF s.data.toList) q (s.data.toList.drop p)=G)/\Hid (Cu s q start p)/\Hid (Nb q p)) (fun _ _ x12 _=>s.size - (intOf x12).toNat)
 case atStart=>exact ⟨0,0,q0,start0,wv0,ev0,wS0,rfl,rfl,rfl,Nat.zero_le _,by omega,HQ,HA,(by show _=_;rw[List.drop_zero];exact HG.out),(fun e=>by have:=HQ.out;omega),HN⟩
 case round=>
  obtain ⟨p,k,q,start,wv,ev,wS,rfl,rfl,rfl,hp,hk6,HK,HRS,HGO,HCU,HNB⟩:=hrel
  by_cases hpe:p=s.size
  ·have KE:=Lib.hid (end52_any B R (w0.put w.heap.size 0 0) wr s q start wv ev wS k HRS.out (HPP.out _ (rc_lt HRS.out.bl.cell)) (by omega) HK.out hk6 (fun e=>hpe ▸ HCU.out (.inl e)) HNB.out.ws (by have:=HNB.out.es;omega))
   have HGX:Hid (finF (linesF s.data.toList) q=G):=(by
    show _=_
    rw[<- HGO.out,hpe,List.drop_of_length_le (by simp)];rfl)
   rw[HGX.out] at KE
   have hge:¬ (p:Int)<(s.size:Int):=by omega
   have c0w:=HRS.out.bx.c0
   clear HCU HNB HGO hpe
   go_wp2_with fail
   refine KE.out.mono ?_
   rintro e w2 ⟨a,b,rfl,H2⟩
   have HFN:=Lib.hid (HEND.out w2 a b H2.out)
   have k0:=rc_c0 HFN.out.1
   have k1:=rc_c1 HFN.out.1
   have kf:=rc_fz HFN.out.1
   have kl:=rc_lt HFN.out.1
   have z0:=rc_c0 (rc_put HFN.out.1 (.int .i64 a) (.int .i64 b))
   have z1:=rc_c1 (rc_put HFN.out.1 (.int .i64 a) (.int .i64 b))
   go_wp2_with fail
   try rw[Exit.noGoto_ret]
   refine bodyPost_ret (v:=.agg #[.int .i64 a,.int .i64 b]) ?_ rfl ⟨a,b,rfl,HFN.out.2⟩
   simp[results,Tryz.results34,go_sem,z0,z1,k0,k1,kl]
  ·have hpl:p<s.size:=by omega
   have hpl':(p:Int)<(s.size:Int):=by omega
   have c0w:=HRS.out.bx.c0
   have HD:=Lib.hid (drop_at s p hpl)
   have n10:=nbz s[p] 10
   simp only[show ((10:UInt8).toNat:Int)=10 from rfl] at n10
   have K46:=Lib.hid (fun w=>esc46 k w)
   clear hpe
   cases hX:stepF q s[p] (s.data.toList.drop (p+1)) with
   |er n=>
    have HX:=Lib.hid hX
    have HN0:Hid (n=230∨n=3):=step_er hX
    have HGX:Hid (G=.er n q.line):=(by show _=_;rw[<- HGO.out,HD.out,goF,hX])
    clear hX
    have hkk:k=0∨k=1∨k=2∨k=3∨k=4∨k=5∨k=6:=by omega
    rcases hkk with rfl|rfl|rfl|rfl|rfl|rfl|rfl
    ·rw[show decide ((0:Nat)=2∨(0:Nat)=4)=false from by decide] at K46
     have HSF:Hid (firstF q s[p] (s.data.toList.drop (p+1))=Rs.er n):=(by show _=_;have:=HX.out;simpa [stepF,HK.out] using this)
     clear HX HD HGO
     by_cases h10:s[p]=10
     ·have e10:((s[p].toNat:Nat):Int)=10:=bz s[p] 10 h10
      clear h10 n10
      have KS:=Lib.hid (first47 B R (w0.put w.heap.size 0 0) wr s q start wv ev wS p HRS.out hpl (by omega) (by have:=HNB.out.ln;omega) (by have:=HNB.out.op;omega) (by have:=HNB.out.es;omega))
      rw[HSF.out] at KS
      clear HCU HNB HSF HRS
      go_wp2_with fail
      refine (K46.out _).mono ?_
      rintro e w9 ⟨rfl,rfl⟩
      go_wp2_with fail
      refine KS.out.mono ?_
      rintro e w2 ⟨k2,er,rfl,H2⟩
      obtain ⟨rfl,q2,st2,wv2,ev2,wS2,hl2,r2⟩:=H2.out
      have HLN:=Lib.hid hl2
      have HR2:=Lib.hid r2
      clear H2 r2 hl2
      have hn0:¬ (er:Int)=0:=by have:=HN0.out;omega
      have hn1:((er:Int) == 0)=false:=by simpa using hn0
      have d1:=HR2.out.bx.c1
      rw[HLN.out] at d1
      have HFN:=Lib.hid (HEND.out _ er q.line (by rw[HGX.out];exact ⟨rfl,rfl,HR2.out.bl⟩))
      have k0:=rc_c0 HFN.out.1
      have k1:=rc_c1 HFN.out.1
      have kf:=rc_fz HFN.out.1
      have kl:=rc_lt HFN.out.1
      have z0:=rc_c0 (rc_put HFN.out.1 (.int .i64 (er:Nat)) (.int .i64 q.line))
      have z1:=rc_c1 (rc_put HFN.out.1 (.int .i64 (er:Nat)) (.int .i64 q.line))
      go_wp2_with fail
      try rw[Exit.noGoto_ret]
      refine bodyPost_ret (v:=.agg #[.int .i64 (er:Nat),.int .i64 q.line]) ?_ rfl ⟨er,q.line,rfl,HFN.out.2⟩
      simp[results,Tryz.results34,go_sem,z0,z1,k0,k1,kl]
     ·have m10:=n10 h10
      clear n10
      have KS:=Lib.hid (first47 B R (w0.put w.heap.size 0 0) wr s q start wv ev wS p HRS.out hpl (by omega) (by have:=HNB.out.ln;omega) (by have:=HNB.out.op;omega) (by have:=HNB.out.es;omega))
      rw[HSF.out] at KS
      clear HCU HNB HSF HRS
      go_wp2_with fail
      refine KS.out.mono ?_
      rintro e w2 ⟨k2,er,rfl,H2⟩
      obtain ⟨rfl,q2,st2,wv2,ev2,wS2,hl2,r2⟩:=H2.out
      have HLN:=Lib.hid hl2
      have HR2:=Lib.hid r2
      clear H2 r2 hl2
      have hn0:¬ (er:Int)=0:=by have:=HN0.out;omega
      have hn1:((er:Int) == 0)=false:=by simpa using hn0
      have d1:=HR2.out.bx.c1
      rw[HLN.out] at d1
      have HFN:=Lib.hid (HEND.out _ er q.line (by rw[HGX.out];exact ⟨rfl,rfl,HR2.out.bl⟩))
      have k0:=rc_c0 HFN.out.1
      have k1:=rc_c1 HFN.out.1
      have kf:=rc_fz HFN.out.1
      have kl:=rc_lt HFN.out.1
      have z0:=rc_c0 (rc_put HFN.out.1 (.int .i64 (er:Nat)) (.int .i64 q.line))
      have z1:=rc_c1 (rc_put HFN.out.1 (.int .i64 (er:Nat)) (.int .i64 q.line))
      go_wp2_with fail
      try rw[Exit.noGoto_ret]
      refine bodyPost_ret (v:=.agg #[.int .i64 (er:Nat),.int .i64 q.line]) ?_ rfl ⟨er,q.line,rfl,HFN.out.2⟩
      simp[results,Tryz.results34,go_sem,z0,z1,k0,k1,kl]
    ·rw[show decide ((1:Nat)=2∨(1:Nat)=4)=false from by decide] at K46
     have HSF:Hid (nextF q s[p] (s.data.toList.drop (p+1))=Rs.er n):=(by show _=_;have:=HX.out;simpa [stepF,HK.out] using this)
     clear HX HD HGO
     by_cases h10:s[p]=10
     ·have e10:((s[p].toNat:Nat):Int)=10:=bz s[p] 10 h10
      clear h10 n10
      have KS:=Lib.hid (next48 B R (w0.put w.heap.size 0 0) wr s q start wv ev wS p HRS.out (HCU.out (.inl HK.out)) hpl (by omega) (by have:=HNB.out.ln;omega) (by have:=HNB.out.op;omega) (by have:=HNB.out.es;omega) HNB.out.ws)
      rw[HSF.out] at KS
      clear HCU HNB HSF HRS
      go_wp2_with fail
      refine (K46.out _).mono ?_
      rintro e w9 ⟨rfl,rfl⟩
      go_wp2_with fail
      refine KS.out.mono ?_
      rintro e w2 ⟨k2,er,rfl,H2⟩
      obtain ⟨rfl,q2,st2,wv2,ev2,wS2,hl2,r2⟩:=H2.out
      have HLN:=Lib.hid hl2
      have HR2:=Lib.hid r2
      clear H2 r2 hl2
      have hn0:¬ (er:Int)=0:=by have:=HN0.out;omega
      have hn1:((er:Int) == 0)=false:=by simpa using hn0
      have d1:=HR2.out.bx.c1
      rw[HLN.out] at d1
      have HFN:=Lib.hid (HEND.out _ er q.line (by rw[HGX.out];exact ⟨rfl,rfl,HR2.out.bl⟩))
      have k0:=rc_c0 HFN.out.1
      have k1:=rc_c1 HFN.out.1
      have kf:=rc_fz HFN.out.1
      have kl:=rc_lt HFN.out.1
      have z0:=rc_c0 (rc_put HFN.out.1 (.int .i64 (er:Nat)) (.int .i64 q.line))
      have z1:=rc_c1 (rc_put HFN.out.1 (.int .i64 (er:Nat)) (.int .i64 q.line))
      go_wp2_with fail
      try rw[Exit.noGoto_ret]
      refine bodyPost_ret (v:=.agg #[.int .i64 (er:Nat),.int .i64 q.line]) ?_ rfl ⟨er,q.line,rfl,HFN.out.2⟩
      simp[results,Tryz.results34,go_sem,z0,z1,k0,k1,kl]
     ·have m10:=n10 h10
      clear n10
      have KS:=Lib.hid (next48 B R (w0.put w.heap.size 0 0) wr s q start wv ev wS p HRS.out (HCU.out (.inl HK.out)) hpl (by omega) (by have:=HNB.out.ln;omega) (by have:=HNB.out.op;omega) (by have:=HNB.out.es;omega) HNB.out.ws)
      rw[HSF.out] at KS
      clear HCU HNB HSF HRS
      go_wp2_with fail
      refine KS.out.mono ?_
      rintro e w2 ⟨k2,er,rfl,H2⟩
      obtain ⟨rfl,q2,st2,wv2,ev2,wS2,hl2,r2⟩:=H2.out
      have HLN:=Lib.hid hl2
      have HR2:=Lib.hid r2
      clear H2 r2 hl2
      have hn0:¬ (er:Int)=0:=by have:=HN0.out;omega
      have hn1:((er:Int) == 0)=false:=by simpa using hn0
      have d1:=HR2.out.bx.c1
      rw[HLN.out] at d1
      have HFN:=Lib.hid (HEND.out _ er q.line (by rw[HGX.out];exact ⟨rfl,rfl,HR2.out.bl⟩))
      have k0:=rc_c0 HFN.out.1
      have k1:=rc_c1 HFN.out.1
      have kf:=rc_fz HFN.out.1
      have kl:=rc_lt HFN.out.1
      have z0:=rc_c0 (rc_put HFN.out.1 (.int .i64 (er:Nat)) (.int .i64 q.line))
      have z1:=rc_c1 (rc_put HFN.out.1 (.int .i64 (er:Nat)) (.int .i64 q.line))
      go_wp2_with fail
      try rw[Exit.noGoto_ret]
      refine bodyPost_ret (v:=.agg #[.int .i64 (er:Nat),.int .i64 q.line]) ?_ rfl ⟨er,q.line,rfl,HFN.out.2⟩
      simp[results,Tryz.results34,go_sem,z0,z1,k0,k1,kl]
    ·rw[show decide ((2:Nat)=2∨(2:Nat)=4)=true from by decide] at K46
     by_cases h10:s[p]=10
     ·have e10:((s[p].toNat:Nat):Int)=10:=bz s[p] 10 h10
      have hn:n=230:=by
       have:=HX.out
       simp[stepF,HK.out,h10] at this
       exact this.symm
      subst hn
      clear h10 n10 HX HD HGO HCU HNB
      go_wp2_with fail
      refine (K46.out _).mono ?_
      rintro e w9 ⟨rfl,rfl⟩
      have d1:=HRS.out.bx.c1
      have HFN:=Lib.hid (HEND.out _ 230 q.line (by rw[HGX.out];exact ⟨rfl,rfl,HRS.out.bl⟩))
      have k0:=rc_c0 HFN.out.1
      have k1:=rc_c1 HFN.out.1
      have kf:=rc_fz HFN.out.1
      have kl:=rc_lt HFN.out.1
      have z0:=rc_c0 (rc_put HFN.out.1 (.int .i64 (230:Nat)) (.int .i64 q.line))
      have z1:=rc_c1 (rc_put HFN.out.1 (.int .i64 (230:Nat)) (.int .i64 q.line))
      go_wp2_with fail
      try rw[Exit.noGoto_ret]
      refine bodyPost_ret (v:=.agg #[.int .i64 (230:Nat),.int .i64 q.line]) ?_ rfl ⟨230,q.line,rfl,HFN.out.2⟩
      simp[results,Tryz.results34,go_sem,z0,z1,k0,k1,kl]
     ·exfalso
      have:=HX.out
      simp[stepF,HK.out,h10] at this
    ·rw[show decide ((3:Nat)=2∨(3:Nat)=4)=false from by decide] at K46
     by_cases h10:s[p]=10
     ·have e10:((s[p].toNat:Nat):Int)=10:=bz s[p] 10 h10
      have hn:n=230:=by
       have:=HX.out
       simp[stepF,HK.out,h10] at this
       exact this.symm
      subst hn
      clear h10 n10 HX HD HGO HCU HNB
      have d1:=HRS.out.bx.c1
      have HFN:=Lib.hid (HEND.out _ 230 q.line (by rw[HGX.out];exact ⟨rfl,rfl,HRS.out.bl⟩))
      have k0:=rc_c0 HFN.out.1
      have k1:=rc_c1 HFN.out.1
      have kf:=rc_fz HFN.out.1
      have kl:=rc_lt HFN.out.1
      have z0:=rc_c0 (rc_put HFN.out.1 (.int .i64 (230:Nat)) (.int .i64 q.line))
      have z1:=rc_c1 (rc_put HFN.out.1 (.int .i64 (230:Nat)) (.int .i64 q.line))
      go_wp2_with fail
      try rw[Exit.noGoto_ret]
      refine bodyPost_ret (v:=.agg #[.int .i64 (230:Nat),.int .i64 q.line]) ?_ rfl ⟨230,q.line,rfl,HFN.out.2⟩
      simp[results,Tryz.results34,go_sem,z0,z1,k0,k1,kl]
     ·have m10:=n10 h10
      have HSF:Hid (quotF q s[p]=Rs.er n):=(by show _=_;have:=HX.out;simpa [stepF,HK.out,h10] using this)
      clear HX HD HGO
      clear n10 h10
      have KS:=Lib.hid (quot49 B R (w0.put w.heap.size 0 0) wr s q start wv ev wS p HRS.out (HCU.out (.inr (.inr (.inl HK.out)))) hpl (by omega) HNB.out.ws)
      rw[HSF.out] at KS
      clear HCU HNB HSF HRS
      go_wp2_with fail
      refine KS.out.mono ?_
      rintro e w2 ⟨k2,er,rfl,H2⟩
      obtain ⟨rfl,q2,st2,wv2,ev2,wS2,hl2,r2⟩:=H2.out
      have HLN:=Lib.hid hl2
      have HR2:=Lib.hid r2
      clear H2 r2 hl2
      have hn0:¬ (er:Int)=0:=by have:=HN0.out;omega
      have hn1:((er:Int) == 0)=false:=by simpa using hn0
      have d1:=HR2.out.bx.c1
      rw[HLN.out] at d1
      have HFN:=Lib.hid (HEND.out _ er q.line (by rw[HGX.out];exact ⟨rfl,rfl,HR2.out.bl⟩))
      have k0:=rc_c0 HFN.out.1
      have k1:=rc_c1 HFN.out.1
      have kf:=rc_fz HFN.out.1
      have kl:=rc_lt HFN.out.1
      have z0:=rc_c0 (rc_put HFN.out.1 (.int .i64 (er:Nat)) (.int .i64 q.line))
      have z1:=rc_c1 (rc_put HFN.out.1 (.int .i64 (er:Nat)) (.int .i64 q.line))
      go_wp2_with fail
      try rw[Exit.noGoto_ret]
      refine bodyPost_ret (v:=.agg #[.int .i64 (er:Nat),.int .i64 q.line]) ?_ rfl ⟨er,q.line,rfl,HFN.out.2⟩
      simp[results,Tryz.results34,go_sem,z0,z1,k0,k1,kl]
    ·rw[show decide ((4:Nat)=2∨(4:Nat)=4)=true from by decide] at K46
     by_cases h10:s[p]=10
     ·have e10:((s[p].toNat:Nat):Int)=10:=bz s[p] 10 h10
      have hn:n=230:=by
       have:=HX.out
       simp[stepF,HK.out,h10] at this
       exact this.symm
      subst hn
      clear h10 n10 HX HD HGO HCU HNB
      go_wp2_with fail
      refine (K46.out _).mono ?_
      rintro e w9 ⟨rfl,rfl⟩
      have d1:=HRS.out.bx.c1
      have HFN:=Lib.hid (HEND.out _ 230 q.line (by rw[HGX.out];exact ⟨rfl,rfl,HRS.out.bl⟩))
      have k0:=rc_c0 HFN.out.1
      have k1:=rc_c1 HFN.out.1
      have kf:=rc_fz HFN.out.1
      have kl:=rc_lt HFN.out.1
      have z0:=rc_c0 (rc_put HFN.out.1 (.int .i64 (230:Nat)) (.int .i64 q.line))
      have z1:=rc_c1 (rc_put HFN.out.1 (.int .i64 (230:Nat)) (.int .i64 q.line))
      go_wp2_with fail
      try rw[Exit.noGoto_ret]
      refine bodyPost_ret (v:=.agg #[.int .i64 (230:Nat),.int .i64 q.line]) ?_ rfl ⟨230,q.line,rfl,HFN.out.2⟩
      simp[results,Tryz.results34,go_sem,z0,z1,k0,k1,kl]
     ·exfalso
      have:=HX.out
      simp[stepF,HK.out,h10] at this
    ·rw[show decide ((5:Nat)=2∨(5:Nat)=4)=false from by decide] at K46
     by_cases h10:s[p]=10
     ·cases hen:endsW s[p] with
      |true=>
       have K50:=Lib.hid (fun w=>ends50 ((s[p].toNat:Nat):Int) w)
       have HZ:Hid (endsz ((s[p].toNat:Nat):Int)=endsW s[p]):=endsz_bI s[p]
       rw[HZ.out,hen] at K50
       have HSF:Hid (outR q s[p] (s.data.toList.drop (p+1))=Rs.er n):=(by show _=_;have:=HX.out;simpa [stepF,HK.out,hen] using this)
       have KS:=Lib.hid (outside51 B R (w0.put w.heap.size 0 0) wr s q start wv ev wS p HRS.out hpl (by omega) (by have:=HNB.out.ln;omega) (by have:=HNB.out.op;omega) (by have:=HNB.out.es;omega))
       rw[HSF.out] at KS
       have e10:((s[p].toNat:Nat):Int)=10:=bz s[p] 10 h10
       simp only[e10] at K50
       clear HX HD HGO HSF HCU HNB HRS h10 n10 HZ hen
       go_wp2_with fail
       refine (K46.out _).mono ?_
       rintro e w9 ⟨rfl,rfl⟩
       go_wp2_with fail
       refine (K50.out _).mono ?_
       rintro e w8 ⟨rfl,rfl⟩
       go_wp2_with fail
       refine KS.out.mono ?_
       rintro e w2 ⟨k2,er,rfl,H2⟩
       obtain ⟨rfl,q2,st2,wv2,ev2,wS2,hl2,r2⟩:=H2.out
       have HLN:=Lib.hid hl2
       have HR2:=Lib.hid r2
       clear H2 r2 hl2
       have hn0:¬ (er:Int)=0:=by have:=HN0.out;omega
       have hn1:((er:Int) == 0)=false:=by simpa using hn0
       have d1:=HR2.out.bx.c1
       rw[HLN.out] at d1
       have HFN:=Lib.hid (HEND.out _ er q.line (by rw[HGX.out];exact ⟨rfl,rfl,HR2.out.bl⟩))
       have k0:=rc_c0 HFN.out.1
       have k1:=rc_c1 HFN.out.1
       have kf:=rc_fz HFN.out.1
       have kl:=rc_lt HFN.out.1
       have z0:=rc_c0 (rc_put HFN.out.1 (.int .i64 (er:Nat)) (.int .i64 q.line))
       have z1:=rc_c1 (rc_put HFN.out.1 (.int .i64 (er:Nat)) (.int .i64 q.line))
       go_wp2_with fail
       try rw[Exit.noGoto_ret]
       refine bodyPost_ret (v:=.agg #[.int .i64 (er:Nat),.int .i64 q.line]) ?_ rfl ⟨er,q.line,rfl,HFN.out.2⟩
       simp[results,Tryz.results34,go_sem,z0,z1,k0,k1,kl]
      |false=>
       have K50:=Lib.hid (fun w=>ends50 ((s[p].toNat:Nat):Int) w)
       have HZ:Hid (endsz ((s[p].toNat:Nat):Int)=endsW s[p]):=endsz_bI s[p]
       rw[HZ.out,hen] at K50
       have hn:n=230:=by
        have:=HX.out
        simp[stepF,HK.out,hen] at this
        exact this.symm
       subst hn
       have e10:((s[p].toNat:Nat):Int)=10:=bz s[p] 10 h10
       simp only[e10] at K50
       clear h10 n10 HX HD HGO HCU HNB HZ hen
       go_wp2_with fail
       refine (K46.out _).mono ?_
       rintro e w9 ⟨rfl,rfl⟩
       go_wp2_with fail
       refine (K50.out _).mono ?_
       rintro e w8 ⟨rfl,rfl⟩
       have d1:=HRS.out.bx.c1
       have HFN:=Lib.hid (HEND.out _ 230 q.line (by rw[HGX.out];exact ⟨rfl,rfl,HRS.out.bl⟩))
       have k0:=rc_c0 HFN.out.1
       have k1:=rc_c1 HFN.out.1
       have kf:=rc_fz HFN.out.1
       have kl:=rc_lt HFN.out.1
       have z0:=rc_c0 (rc_put HFN.out.1 (.int .i64 (230:Nat)) (.int .i64 q.line))
       have z1:=rc_c1 (rc_put HFN.out.1 (.int .i64 (230:Nat)) (.int .i64 q.line))
       go_wp2_with fail
       try rw[Exit.noGoto_ret]
       refine bodyPost_ret (v:=.agg #[.int .i64 (230:Nat),.int .i64 q.line]) ?_ rfl ⟨230,q.line,rfl,HFN.out.2⟩
       simp[results,Tryz.results34,go_sem,z0,z1,k0,k1,kl]
     ·cases hen:endsW s[p] with
      |true=>
       have K50:=Lib.hid (fun w=>ends50 ((s[p].toNat:Nat):Int) w)
       have HZ:Hid (endsz ((s[p].toNat:Nat):Int)=endsW s[p]):=endsz_bI s[p]
       rw[HZ.out,hen] at K50
       have HSF:Hid (outR q s[p] (s.data.toList.drop (p+1))=Rs.er n):=(by show _=_;have:=HX.out;simpa [stepF,HK.out,hen] using this)
       have KS:=Lib.hid (outside51 B R (w0.put w.heap.size 0 0) wr s q start wv ev wS p HRS.out hpl (by omega) (by have:=HNB.out.ln;omega) (by have:=HNB.out.op;omega) (by have:=HNB.out.es;omega))
       rw[HSF.out] at KS
       have m10:=n10 h10
       clear HX HD HGO HSF HCU HNB HRS h10 n10 HZ hen
       go_wp2_with fail
       refine (K50.out _).mono ?_
       rintro e w8 ⟨rfl,rfl⟩
       go_wp2_with fail
       refine KS.out.mono ?_
       rintro e w2 ⟨k2,er,rfl,H2⟩
       obtain ⟨rfl,q2,st2,wv2,ev2,wS2,hl2,r2⟩:=H2.out
       have HLN:=Lib.hid hl2
       have HR2:=Lib.hid r2
       clear H2 r2 hl2
       have hn0:¬ (er:Int)=0:=by have:=HN0.out;omega
       have hn1:((er:Int) == 0)=false:=by simpa using hn0
       have d1:=HR2.out.bx.c1
       rw[HLN.out] at d1
       have HFN:=Lib.hid (HEND.out _ er q.line (by rw[HGX.out];exact ⟨rfl,rfl,HR2.out.bl⟩))
       have k0:=rc_c0 HFN.out.1
       have k1:=rc_c1 HFN.out.1
       have kf:=rc_fz HFN.out.1
       have kl:=rc_lt HFN.out.1
       have z0:=rc_c0 (rc_put HFN.out.1 (.int .i64 (er:Nat)) (.int .i64 q.line))
       have z1:=rc_c1 (rc_put HFN.out.1 (.int .i64 (er:Nat)) (.int .i64 q.line))
       go_wp2_with fail
       try rw[Exit.noGoto_ret]
       refine bodyPost_ret (v:=.agg #[.int .i64 (er:Nat),.int .i64 q.line]) ?_ rfl ⟨er,q.line,rfl,HFN.out.2⟩
       simp[results,Tryz.results34,go_sem,z0,z1,k0,k1,kl]
      |false=>
       have K50:=Lib.hid (fun w=>ends50 ((s[p].toNat:Nat):Int) w)
       have HZ:Hid (endsz ((s[p].toNat:Nat):Int)=endsW s[p]):=endsz_bI s[p]
       rw[HZ.out,hen] at K50
       have hn:n=230:=by
        have:=HX.out
        simp[stepF,HK.out,hen] at this
        exact this.symm
       subst hn
       have m10:=n10 h10
       clear h10 n10 HX HD HGO HCU HNB HZ hen
       go_wp2_with fail
       refine (K50.out _).mono ?_
       rintro e w8 ⟨rfl,rfl⟩
       have d1:=HRS.out.bx.c1
       have HFN:=Lib.hid (HEND.out _ 230 q.line (by rw[HGX.out];exact ⟨rfl,rfl,HRS.out.bl⟩))
       have k0:=rc_c0 HFN.out.1
       have k1:=rc_c1 HFN.out.1
       have kf:=rc_fz HFN.out.1
       have kl:=rc_lt HFN.out.1
       have z0:=rc_c0 (rc_put HFN.out.1 (.int .i64 (230:Nat)) (.int .i64 q.line))
       have z1:=rc_c1 (rc_put HFN.out.1 (.int .i64 (230:Nat)) (.int .i64 q.line))
       go_wp2_with fail
       try rw[Exit.noGoto_ret]
       refine bodyPost_ret (v:=.agg #[.int .i64 (230:Nat),.int .i64 q.line]) ?_ rfl ⟨230,q.line,rfl,HFN.out.2⟩
       simp[results,Tryz.results34,go_sem,z0,z1,k0,k1,kl]
    ·rw[show decide ((6:Nat)=2∨(6:Nat)=4)=false from by decide] at K46
     by_cases h10:s[p]=10
     ·have e10:((s[p].toNat:Nat):Int)=10:=bz s[p] 10 h10
      have HSF:Hid (outR q s[p] (s.data.toList.drop (p+1))=Rs.er n):=(by show _=_;have:=HX.out;simpa [stepF,HK.out,h10] using this)
      have KS:=Lib.hid (outside51 B R (w0.put w.heap.size 0 0) wr s q start wv ev wS p HRS.out hpl (by omega) (by have:=HNB.out.ln;omega) (by have:=HNB.out.op;omega) (by have:=HNB.out.es;omega))
      rw[HSF.out] at KS
      clear HX HD HGO HSF HCU HNB HRS h10 n10
      go_wp2_with fail
      refine (K46.out _).mono ?_
      rintro e w9 ⟨rfl,rfl⟩
      go_wp2_with fail
      refine KS.out.mono ?_
      rintro e w2 ⟨k2,er,rfl,H2⟩
      obtain ⟨rfl,q2,st2,wv2,ev2,wS2,hl2,r2⟩:=H2.out
      have HLN:=Lib.hid hl2
      have HR2:=Lib.hid r2
      clear H2 r2 hl2
      have hn0:¬ (er:Int)=0:=by have:=HN0.out;omega
      have hn1:((er:Int) == 0)=false:=by simpa using hn0
      have d1:=HR2.out.bx.c1
      rw[HLN.out] at d1
      have HFN:=Lib.hid (HEND.out _ er q.line (by rw[HGX.out];exact ⟨rfl,rfl,HR2.out.bl⟩))
      have k0:=rc_c0 HFN.out.1
      have k1:=rc_c1 HFN.out.1
      have kf:=rc_fz HFN.out.1
      have kl:=rc_lt HFN.out.1
      have z0:=rc_c0 (rc_put HFN.out.1 (.int .i64 (er:Nat)) (.int .i64 q.line))
      have z1:=rc_c1 (rc_put HFN.out.1 (.int .i64 (er:Nat)) (.int .i64 q.line))
      go_wp2_with fail
      try rw[Exit.noGoto_ret]
      refine bodyPost_ret (v:=.agg #[.int .i64 (er:Nat),.int .i64 q.line]) ?_ rfl ⟨er,q.line,rfl,HFN.out.2⟩
      simp[results,Tryz.results34,go_sem,z0,z1,k0,k1,kl]
     ·exfalso
      have:=HX.out
      simp[stepF,HK.out,h10] at this
   |ok q'=>
    have HX:=Lib.hid hX
    have HNB2:=Lib.hid (HNB.out.step hX)
    have HGX:Hid (goF (linesF s.data.toList) q' (s.data.toList.drop (p+1))=G):=(by show _=_;rw[<- HGO.out,HD.out,goF,hX])
    clear hX
    have hkk:k=0∨k=1∨k=2∨k=3∨k=4∨k=5∨k=6:=by omega
    rcases hkk with rfl|rfl|rfl|rfl|rfl|rfl|rfl
    ·rw[show decide ((0:Nat)=2∨(0:Nat)=4)=false from by decide] at K46
     have HSF:Hid (firstF q s[p] (s.data.toList.drop (p+1))=Rs.ok q'):=(by show _=_;have:=HX.out;simpa [stepF,HK.out] using this)
     clear HX HD HGO
     by_cases h10:s[p]=10
     ·have e10:((s[p].toNat:Nat):Int)=10:=bz s[p] 10 h10
      clear h10 n10
      have KS:=Lib.hid (first47 B R (w0.put w.heap.size 0 0) wr s q start wv ev wS p HRS.out hpl (by omega) (by have:=HNB.out.ln;omega) (by have:=HNB.out.op;omega) (by have:=HNB.out.es;omega))
      rw[HSF.out] at KS
      clear HCU HNB HSF HRS
      go_wp2_with fail
      refine (K46.out _).mono ?_
      rintro e w9 ⟨rfl,rfl⟩
      go_wp2_with fail
      refine KS.out.mono ?_
      rintro e w2 ⟨k2,er,rfl,H2⟩
      obtain ⟨rfl,rfl,st2,wv2,ev2,wS2,r2,cu2⟩:=H2.out
      have HR2:=Lib.hid r2
      have HC2:=Lib.hid cu2
      clear H2 r2 cu2
      go_wp2_with fail
      go_roundw
      case rel=>exact ⟨p+1,q'.st,q',st2,wv2,ev2,wS2,rfl,rfl,by go_num,by omega,HNB2.out.st,rfl,HR2,HGX,HC2,HNB2⟩
      case measure=>simp[intOf];omega
     ·have m10:=n10 h10
      clear n10
      have KS:=Lib.hid (first47 B R (w0.put w.heap.size 0 0) wr s q start wv ev wS p HRS.out hpl (by omega) (by have:=HNB.out.ln;omega) (by have:=HNB.out.op;omega) (by have:=HNB.out.es;omega))
      rw[HSF.out] at KS
      clear HCU HNB HSF HRS
      go_wp2_with fail
      refine KS.out.mono ?_
      rintro e w2 ⟨k2,er,rfl,H2⟩
      obtain ⟨rfl,rfl,st2,wv2,ev2,wS2,r2,cu2⟩:=H2.out
      have HR2:=Lib.hid r2
      have HC2:=Lib.hid cu2
      clear H2 r2 cu2
      go_wp2_with fail
      go_roundw
      case rel=>exact ⟨p+1,q'.st,q',st2,wv2,ev2,wS2,rfl,rfl,by go_num,by omega,HNB2.out.st,rfl,HR2,HGX,HC2,HNB2⟩
      case measure=>simp[intOf];omega
    ·rw[show decide ((1:Nat)=2∨(1:Nat)=4)=false from by decide] at K46
     have HSF:Hid (nextF q s[p] (s.data.toList.drop (p+1))=Rs.ok q'):=(by show _=_;have:=HX.out;simpa [stepF,HK.out] using this)
     clear HX HD HGO
     by_cases h10:s[p]=10
     ·have e10:((s[p].toNat:Nat):Int)=10:=bz s[p] 10 h10
      clear h10 n10
      have KS:=Lib.hid (next48 B R (w0.put w.heap.size 0 0) wr s q start wv ev wS p HRS.out (HCU.out (.inl HK.out)) hpl (by omega) (by have:=HNB.out.ln;omega) (by have:=HNB.out.op;omega) (by have:=HNB.out.es;omega) HNB.out.ws)
      rw[HSF.out] at KS
      clear HCU HNB HSF HRS
      go_wp2_with fail
      refine (K46.out _).mono ?_
      rintro e w9 ⟨rfl,rfl⟩
      go_wp2_with fail
      refine KS.out.mono ?_
      rintro e w2 ⟨k2,er,rfl,H2⟩
      obtain ⟨rfl,rfl,st2,wv2,ev2,wS2,r2,cu2⟩:=H2.out
      have HR2:=Lib.hid r2
      have HC2:=Lib.hid cu2
      clear H2 r2 cu2
      go_wp2_with fail
      go_roundw
      case rel=>exact ⟨p+1,q'.st,q',st2,wv2,ev2,wS2,rfl,rfl,by go_num,by omega,HNB2.out.st,rfl,HR2,HGX,HC2,HNB2⟩
      case measure=>simp[intOf];omega
     ·have m10:=n10 h10
      clear n10
      have KS:=Lib.hid (next48 B R (w0.put w.heap.size 0 0) wr s q start wv ev wS p HRS.out (HCU.out (.inl HK.out)) hpl (by omega) (by have:=HNB.out.ln;omega) (by have:=HNB.out.op;omega) (by have:=HNB.out.es;omega) HNB.out.ws)
      rw[HSF.out] at KS
      clear HCU HNB HSF HRS
      go_wp2_with fail
      refine KS.out.mono ?_
      rintro e w2 ⟨k2,er,rfl,H2⟩
      obtain ⟨rfl,rfl,st2,wv2,ev2,wS2,r2,cu2⟩:=H2.out
      have HR2:=Lib.hid r2
      have HC2:=Lib.hid cu2
      clear H2 r2 cu2
      go_wp2_with fail
      go_roundw
      case rel=>exact ⟨p+1,q'.st,q',st2,wv2,ev2,wS2,rfl,rfl,by go_num,by omega,HNB2.out.st,rfl,HR2,HGX,HC2,HNB2⟩
      case measure=>simp[intOf];omega
    ·rw[show decide ((2:Nat)=2∨(2:Nat)=4)=true from by decide] at K46
     by_cases h10:s[p]=10
     ·exfalso
      have:=HX.out
      simp[stepF,HK.out,h10] at this
     ·have m10:=n10 h10
      have hq:q'={ q with st:=1,cur:=q.cur++[s[p]] }:=by
       have:=HX.out
       simp[stepF,HK.out,h10] at this
       exact this.symm
      subst hq
      have HR2:=Lib.hid (HRS.out.setQ 1 (q.cur++[s[p]]))
      have HC2:Hid (Cu s { q with st:=1,cur:=q.cur++[s[p]] } start (p+1)):=fun _=>(HCU.out (.inr (.inl HK.out))).push hpl 1
      clear h10 n10 HX HD HGO HCU HNB HRS
      go_wp2_with fail
      go_roundw
      case rel=>exact ⟨p+1,1,{ q with st:=1,cur:=q.cur++[s[p]] },start,wv,ev,wS,rfl,rfl,by go_num,by omega,HNB2.out.st,rfl,HR2,HGX,HC2,HNB2⟩
      case measure=>simp[intOf];omega
    ·rw[show decide ((3:Nat)=2∨(3:Nat)=4)=false from by decide] at K46
     by_cases h10:s[p]=10
     ·exfalso
      have:=HX.out
      simp[stepF,HK.out,h10] at this
     ·have m10:=n10 h10
      have HSF:Hid (quotF q s[p]=Rs.ok q'):=(by show _=_;have:=HX.out;simpa [stepF,HK.out,h10] using this)
      clear HX HD HGO
      clear n10 h10
      have KS:=Lib.hid (quot49 B R (w0.put w.heap.size 0 0) wr s q start wv ev wS p HRS.out (HCU.out (.inr (.inr (.inl HK.out)))) hpl (by omega) HNB.out.ws)
      rw[HSF.out] at KS
      clear HCU HNB HSF HRS
      go_wp2_with fail
      refine KS.out.mono ?_
      rintro e w2 ⟨k2,er,rfl,H2⟩
      obtain ⟨rfl,rfl,st2,wv2,ev2,wS2,r2,cu2⟩:=H2.out
      have HR2:=Lib.hid r2
      have HC2:=Lib.hid cu2
      clear H2 r2 cu2
      go_wp2_with fail
      go_roundw
      case rel=>exact ⟨p+1,q'.st,q',st2,wv2,ev2,wS2,rfl,rfl,by go_num,by omega,HNB2.out.st,rfl,HR2,HGX,HC2,HNB2⟩
      case measure=>simp[intOf];omega
    ·rw[show decide ((4:Nat)=2∨(4:Nat)=4)=true from by decide] at K46
     by_cases h10:s[p]=10
     ·exfalso
      have:=HX.out
      simp[stepF,HK.out,h10] at this
     ·have m10:=n10 h10
      have hq:q'={ q with st:=3,cur:=q.cur++[s[p]] }:=by
       have:=HX.out
       simp[stepF,HK.out,h10] at this
       exact this.symm
      subst hq
      have HR2:=Lib.hid (HRS.out.setQ 3 (q.cur++[s[p]]))
      have HC2:Hid (Cu s { q with st:=3,cur:=q.cur++[s[p]] } start (p+1)):=fun _=>(HCU.out (.inr (.inr (.inr HK.out)))).push hpl 3
      clear h10 n10 HX HD HGO HCU HNB HRS
      go_wp2_with fail
      go_roundw
      case rel=>exact ⟨p+1,3,{ q with st:=3,cur:=q.cur++[s[p]] },start,wv,ev,wS,rfl,rfl,by go_num,by omega,HNB2.out.st,rfl,HR2,HGX,HC2,HNB2⟩
      case measure=>simp[intOf];omega
    ·rw[show decide ((5:Nat)=2∨(5:Nat)=4)=false from by decide] at K46
     by_cases h10:s[p]=10
     ·cases hen:endsW s[p] with
      |true=>
       have K50:=Lib.hid (fun w=>ends50 ((s[p].toNat:Nat):Int) w)
       have HZ:Hid (endsz ((s[p].toNat:Nat):Int)=endsW s[p]):=endsz_bI s[p]
       rw[HZ.out,hen] at K50
       have HSF:Hid (outR q s[p] (s.data.toList.drop (p+1))=Rs.ok q'):=(by show _=_;have:=HX.out;simpa [stepF,HK.out,hen] using this)
       have KS:=Lib.hid (outside51 B R (w0.put w.heap.size 0 0) wr s q start wv ev wS p HRS.out hpl (by omega) (by have:=HNB.out.ln;omega) (by have:=HNB.out.op;omega) (by have:=HNB.out.es;omega))
       rw[HSF.out] at KS
       have e10:((s[p].toNat:Nat):Int)=10:=bz s[p] 10 h10
       simp only[e10] at K50
       clear HX HD HGO HSF HCU HNB HRS h10 n10 HZ hen
       go_wp2_with fail
       refine (K46.out _).mono ?_
       rintro e w9 ⟨rfl,rfl⟩
       go_wp2_with fail
       refine (K50.out _).mono ?_
       rintro e w8 ⟨rfl,rfl⟩
       go_wp2_with fail
       refine KS.out.mono ?_
       rintro e w2 ⟨k2,er,rfl,H2⟩
       obtain ⟨rfl,rfl,st2,wv2,ev2,wS2,r2,cu2⟩:=H2.out
       have HR2:=Lib.hid r2
       have HC2:=Lib.hid cu2
       clear H2 r2 cu2
       go_wp2_with fail
       go_roundw
       case rel=>exact ⟨p+1,q'.st,q',st2,wv2,ev2,wS2,rfl,rfl,by go_num,by omega,HNB2.out.st,rfl,HR2,HGX,HC2,HNB2⟩
       case measure=>simp[intOf];omega
      |false=>
       have K50:=Lib.hid (fun w=>ends50 ((s[p].toNat:Nat):Int) w)
       have HZ:Hid (endsz ((s[p].toNat:Nat):Int)=endsW s[p]):=endsz_bI s[p]
       rw[HZ.out,hen] at K50
       exfalso
       have:=HX.out
       simp[stepF,HK.out,hen] at this
     ·cases hen:endsW s[p] with
      |true=>
       have K50:=Lib.hid (fun w=>ends50 ((s[p].toNat:Nat):Int) w)
       have HZ:Hid (endsz ((s[p].toNat:Nat):Int)=endsW s[p]):=endsz_bI s[p]
       rw[HZ.out,hen] at K50
       have HSF:Hid (outR q s[p] (s.data.toList.drop (p+1))=Rs.ok q'):=(by show _=_;have:=HX.out;simpa [stepF,HK.out,hen] using this)
       have KS:=Lib.hid (outside51 B R (w0.put w.heap.size 0 0) wr s q start wv ev wS p HRS.out hpl (by omega) (by have:=HNB.out.ln;omega) (by have:=HNB.out.op;omega) (by have:=HNB.out.es;omega))
       rw[HSF.out] at KS
       have m10:=n10 h10
       clear HX HD HGO HSF HCU HNB HRS h10 n10 HZ hen
       go_wp2_with fail
       refine (K50.out _).mono ?_
       rintro e w8 ⟨rfl,rfl⟩
       go_wp2_with fail
       refine KS.out.mono ?_
       rintro e w2 ⟨k2,er,rfl,H2⟩
       obtain ⟨rfl,rfl,st2,wv2,ev2,wS2,r2,cu2⟩:=H2.out
       have HR2:=Lib.hid r2
       have HC2:=Lib.hid cu2
       clear H2 r2 cu2
       go_wp2_with fail
       go_roundw
       case rel=>exact ⟨p+1,q'.st,q',st2,wv2,ev2,wS2,rfl,rfl,by go_num,by omega,HNB2.out.st,rfl,HR2,HGX,HC2,HNB2⟩
       case measure=>simp[intOf];omega
      |false=>
       have K50:=Lib.hid (fun w=>ends50 ((s[p].toNat:Nat):Int) w)
       have HZ:Hid (endsz ((s[p].toNat:Nat):Int)=endsW s[p]):=endsz_bI s[p]
       rw[HZ.out,hen] at K50
       exfalso
       have:=HX.out
       simp[stepF,HK.out,hen] at this
    ·rw[show decide ((6:Nat)=2∨(6:Nat)=4)=false from by decide] at K46
     by_cases h10:s[p]=10
     ·have e10:((s[p].toNat:Nat):Int)=10:=bz s[p] 10 h10
      have HSF:Hid (outR q s[p] (s.data.toList.drop (p+1))=Rs.ok q'):=(by show _=_;have:=HX.out;simpa [stepF,HK.out,h10] using this)
      have KS:=Lib.hid (outside51 B R (w0.put w.heap.size 0 0) wr s q start wv ev wS p HRS.out hpl (by omega) (by have:=HNB.out.ln;omega) (by have:=HNB.out.op;omega) (by have:=HNB.out.es;omega))
      rw[HSF.out] at KS
      clear HX HD HGO HSF HCU HNB HRS h10 n10
      go_wp2_with fail
      refine (K46.out _).mono ?_
      rintro e w9 ⟨rfl,rfl⟩
      go_wp2_with fail
      refine KS.out.mono ?_
      rintro e w2 ⟨k2,er,rfl,H2⟩
      obtain ⟨rfl,rfl,st2,wv2,ev2,wS2,r2,cu2⟩:=H2.out
      have HR2:=Lib.hid r2
      have HC2:=Lib.hid cu2
      clear H2 r2 cu2
      go_wp2_with fail
      go_roundw
      case rel=>exact ⟨p+1,q'.st,q',st2,wv2,ev2,wS2,rfl,rfl,by go_num,by omega,HNB2.out.st,rfl,HR2,HGX,HC2,HNB2⟩
      case measure=>simp[intOf];omega
     ·have m10:=n10 h10
      have hq:q'=q:=by
       have:=HX.out
       simp[stepF,HK.out,h10] at this
       exact this.symm
      subst hq
      have HC2:Hid (Cu s q' start (p+1)):=fun e=>by have:=HK.out;omega
      clear h10 n10 HX HD HGO HCU HNB
      go_wp2_with fail
      go_roundw
      case rel=>exact ⟨p+1,6,_,start,wv,ev,wS,rfl,rfl,by go_num,by omega,by omega,HK,HRS,HGX,HC2,HNB2⟩
      case measure=>simp[intOf];omega
def EnQ(B:Nat)(w0:World)(v:Value)(a b:Nat)(w':World):Rt->Prop
 | .er e l=>v=.slice none 0 0/\a=e/\b=l/\Below B w0 w'
 | .ok es=>a=0/\b=0/\OwE B w' v es/\Below B w0 w'
def EnP(w0:World)(r:Rt)(e:Ending)(w':World):Prop:=
 ∃v,∃a b:Nat,e=.returned (.tuple #[v,.agg #[.int .i64 a,.int .i64 b]])/\Hid (EnQ w0.heap.size w0 v a b w' r)
theorem entries12_long(s:ByteArray)(w:World)(hs:65536<s.size):Calls Tryz.prog 18 #[.string s] w (EnP w (entsF s.data.toList)):=by
 have hs':(65536:Int)<(s.size:Int):=by omega
 have hl:s.data.toList.length=s.size:=by simp
 have HX:Hid (entsF s.data.toList=.er 3 0):=(by show _=_;simp only[entsF,hl,if_pos hs])
 rw[HX.out]
 clear HX hl
 go_enter Tryz.func18,Tryz.ntmps18
 go_wp2_with fail
 refine bodyPost_ret (v:=.tuple #[.slice none 0 0,.agg #[.int .i64 3,.int .i64 0]]) ?_ rfl ⟨_,3,0,rfl,rfl,rfl,rfl,(Below.refl _ _).alloc (Nat.le_refl _) _⟩
 simp[results,Tryz.results18,go_sem]
def qz:Cf:=⟨0,1,0,[],0,false,[],[]⟩
theorem rc_new(w:World)(s:ByteArray):RC w.heap.size (w.heap.size+1) ⟨w,[(w.heap.size,0,0)]⟩ ((w.alloc (.cells #[.int .i64 0,.int .i64 0] 28)).alloc (.cells #[.string s,.int .i64 1,.int .i64 0,.int .i64 0,.int .i64 0,.bool false,.slice none 0 0,.slice none 0 0] 87)) s qz 0 (.slice none 0 0) (.slice none 0 0):=by
 have h1:=heap_alloc_new (w.alloc (.cells #[.int .i64 0,.int .i64 0] 28)) (.cells #[.string s,.int .i64 1,.int .i64 0,.int .i64 0,.int .i64 0,.bool false,.slice none 0 0,.slice none 0 0] 87)
 refine ⟨?_,OwE.nil _ _,by omega,?_,?_⟩
 ·simpa [Bx,qz] using h1
 ·exact ((Below.refl _ _).alloc (Nat.le_refl _) _).alloc (by simp) _
 ·intro j hj
  simp only[List.mem_singleton] at hj
  subst hj
  rw[(al_below (w.alloc (.cells #[.int .i64 0,.int .i64 0] 28)) _).block w.heap.size (by simp)]
  exact heap_alloc_new w _
theorem entries12_go(s:ByteArray)(w:World)(hs:s.size<=65536):Calls Tryz.prog 18 #[.string s] w (EnP w (entsF s.data.toList)):=by
 have hs':¬ (65536:Int)<(s.size:Int):=by omega
 have hl:s.data.toList.length=s.size:=by simp
 have HX:Hid (entsF s.data.toList=goF (linesF s.data.toList) (q0 s.data.toList) s.data.toList):=(by show _=_;simp only[entsF,hl];rw[if_neg (by omega)])
 rw[HX.out]
 have KB:=Lib.hid (begin28 w.heap.size (w.heap.size+1) ⟨w,[(w.heap.size,0,0)]⟩ _ s qz 0 _ _ 0 (rc_new w s) (by omega))
 have KR:Hid (∀W wv ev wS,RSZ w.heap.size (w.heap.size+1) ⟨w,[(w.heap.size,0,0)]⟩ W s (q0 s.data.toList) 0 wv ev wS->Calls Tryz.prog 34 #[.pointer (some ⟨w.heap.size+1,0,none⟩)] W (FnP w.heap.size (w.heap.size+1) ⟨w,[(w.heap.size,0,0)]⟩ s (goF (linesF s.data.toList) (q0 s.data.toList) s.data.toList))):=fun W wv ev wS hW=>run29 _ _ _ W s _ 0 wv ev wS hW (fun p hp=>by simp only[List.mem_singleton] at hp;subst hp;have:=hW.bx.lt;simp only;omega) (by omega) rfl ⟨by simp[q0],by simp[q0],by simp[q0],by simp[q0],by simp[q0]⟩
 have HE:Hid (∀e l,goF (linesF s.data.toList) (q0 s.data.toList) s.data.toList=.er e l->e=230∨e=3):=fun e l h=>(ents_er (by rw[hl];exact hs) (HX.out.trans h)).1
 generalize goF (linesF s.data.toList) (q0 s.data.toList) s.data.toList=G at*
 clear HX hl
 go_enter Tryz.func18,Tryz.ntmps18
 go_wp2_with fail
 refine KB.out.mono ?_
 rintro e w1 ⟨rfl,H1⟩
 obtain ⟨wS,hrs⟩:=H1.out
 have HRS:Hid (RSZ w.heap.size (w.heap.size+1) ⟨w,[(w.heap.size,0,0)]⟩ w1 s (q0 s.data.toList) 0 (.slice none 0 0) (.slice none 0 0) wS):=(by show _;rw[List.drop_zero] at hrs;exact hrs)
 clear H1 hrs KB
 go_wp2_with fail
 refine (KR.out _ _ _ _ HRS.out).mono ?_
 rintro e w2 ⟨a,b,rfl,H2⟩
 cases G with
 |er e l=>
  obtain ⟨rfl,rfl,hfr⟩:=H2.out
  have HF:=Lib.hid hfr
  have hJ:=hfr.2 (w.heap.size,0,0) (by simp)
  have hJ2:(w2.alloc (.cells #[.int .i64 a,.int .i64 b] 28)).heap[w.heap.size]?=some (.cells #[.int .i64 0,.int .i64 0] 28 (0,0)):=((al_below w2 _).block w.heap.size (rc_lt hJ)).trans hJ
  have n0:¬ (a:Int)=0:=by have:=HE.out a b rfl;omega
  have n1:((a:Int) == 0)=false:=by simpa using n0
  have k0:=rc_c0 hJ2
  have k1:=rc_c1 hJ2
  have kf:=rc_fz hJ2
  have kl:=rc_lt hJ2
  have z0:=rc_c0 (rc_put hJ2 (.int .i64 a) (.int .i64 b))
  have z1:=rc_c1 (rc_put hJ2 (.int .i64 a) (.int .i64 b))
  have HFI:Hid (Below w.heap.size w (((w2.alloc (.cells #[.int .i64 a,.int .i64 b] 28)).setCell ⟨w.heap.size,0,none⟩ (.int .i64 a)).setCell ⟨w.heap.size,1,none⟩ (.int .i64 b)).drew):=((((HF.out.1.alloc HF.out.1.size _)).setCell (p:=⟨w.heap.size,0,none⟩) (Nat.le_refl _) _).setCell (p:=⟨w.heap.size,1,none⟩) (Nat.le_refl _) _).drew
  clear H2 hfr hJ hJ2
  go_wp2_with fail
  go_region_law (fail)
  all_goals
   go_wp2_with fail
   refine bodyPost_ret (v:=.tuple #[.slice none 0 0,.agg #[.int .i64 a,.int .i64 b]]) ?_ rfl ⟨_,a,b,rfl,rfl,rfl,rfl,HFI.out⟩
   simp[results,Tryz.results18,go_sem,z0,z1,k0,k1,kl]
 |ok es=>
  obtain ⟨rfl,rfl,q,st,wv,ev,hq,hrc⟩:=H2.out
  have hJ:=hrc.bl.2 (w.heap.size,0,0) (by simp)
  have hJ2:(w2.alloc (.cells #[.int .i64 0,.int .i64 0] 28)).heap[w.heap.size]?=some (.cells #[.int .i64 0,.int .i64 0] 28 (0,0)):=((al_below w2 _).block w.heap.size (rc_lt hJ)).trans hJ
  have r7:(w2.alloc (.cells #[.int .i64 0,.int .i64 0] 28)).cell? ⟨w.heap.size+1,7,none⟩=some ev:=((al_below w2 _).cell (p:=⟨w.heap.size+1,7,none⟩) hrc.bx.lt).trans hrc.bx.c7
  have k0:=rc_c0 hJ2
  have k1:=rc_c1 hJ2
  have kf:=rc_fz hJ2
  have kl:=rc_lt hJ2
  have z0:=rc_c0 (rc_put hJ2 (.int .i64 0) (.int .i64 0))
  have z1:=rc_c1 (rc_put hJ2 (.int .i64 0) (.int .i64 0))
  have HOW:Hid (OwE w.heap.size (((w2.alloc (.cells #[.int .i64 0,.int .i64 0] 28)).setCell ⟨w.heap.size,0,none⟩ (.int .i64 0)).setCell ⟨w.heap.size,1,none⟩ (.int .i64 0)) ev es):=(by
   show OwE _ _ _ _
   have h1:OwE w.heap.size (w2.alloc (.cells #[.int .i64 0,.int .i64 0] 28)) ev es:=by rw[<- hq];exact hrc.ow.stays (al_below w2 _)
   refine h1.go (by simp) (fun k _ hk=>?_)
   have hne:k≠w.heap.size:=fun e=>by
    obtain ⟨c,t,a1,a2⟩:=hk
    rw[e,hJ2] at a1;cases a1;simp at a2
   rw[Below.heap_setCell _ _ _ _ hne,Below.heap_setCell _ _ _ _ hne])
  have HFI:Hid (Below w.heap.size w (((w2.alloc (.cells #[.int .i64 0,.int .i64 0] 28)).setCell ⟨w.heap.size,0,none⟩ (.int .i64 0)).setCell ⟨w.heap.size,1,none⟩ (.int .i64 0))):=((hrc.bl.1.alloc hrc.bl.1.size _).setCell (p:=⟨w.heap.size,0,none⟩) (Nat.le_refl _) _).setCell (p:=⟨w.heap.size,1,none⟩) (Nat.le_refl _) _
  clear H2 hrc hJ hJ2 hq
  go_wp2_with fail
  refine bodyPost_ret (v:=.tuple #[ev,.agg #[.int .i64 0,.int .i64 0]]) ?_ rfl ⟨_,0,0,rfl,rfl,rfl,HOW.out,HFI.out⟩
  simp[results,Tryz.results18,go_sem,z0,z1,k0,k1,kl]
theorem entries12(s:ByteArray)(w:World):Calls Tryz.prog 18 #[.string s] w (EnP w (entsF s.data.toList)):=by
 by_cases h:s.size<=65536
 ·exact entries12_go s w h
 ·exact entries12_long s w (by omega)
def dgsD(l:List Int):List Int:=l.takeWhile xdig
def aftD(l:List Int):List Int:=l.dropWhile xdig
def num31(l:List Int):Option Nat:=xnum l 2147483648
def lets:List Int:=[119,100,104,109,115]
def lens:List Nat:=[604800,86400,3600,60,1]
def plF(c:Int):List Int->Option Nat
 |[]=>none
 |a::r=>if a=c then some 0 else (plF c r).map (·+1)
def sumF:Nat->List Int->Nat->Nat->Option (Nat × Nat)
 |k,[],frm,all=>some (frm,all)
 |0,_::_,_,_=>none
 |k+1,a::s,frm,all=>
  (num31 (dgsD (a::s))).bind fun n=>match aftD (a::s) with
   |[]=>none
   |c::t=>(plF c (lets.drop frm)).bind fun p=>sumF k t (frm+p+1) (all+n*lens.getD (frm+p) 0)
def ttlF(s:ByteArray):Option Nat:=
 match num31 (nums s) with
 |some n=>some n
 |none=>(sumF 6 (nums (foldL s)) 0 0).bind fun p=>if 0<p.1/\p.2<2147483648 then some p.2 else none
structure Cy where
 og:List ByteArray
 ow:List ByteArray
 cl:Nat
 df:Nat
 tt:Nat
 ho:Bool
 hc:Bool
 ht:Bool
 sd:Bool
structure Rec where
 ow:List ByteArray
 t:Nat
 cl:Nat
 tt:Nat
 d:Dat
def opnF(e:En):ByteArray:=if e.blank then ⟨#[]⟩ else match e.ws with
 |(s,false)::_=>s
 |_=>⟨#[]⟩
def cOrigin:ByteArray:=⟨#[36,111,114,105,103,105,110]⟩
def cTTL:ByteArray:=⟨#[36,116,116,108]⟩
def cmdF(e:En):Nat:=if foldL (opnF e)=cOrigin then 1 else if foldL (opnF e)=cTTL then 2 else 0
def marked(e:En):Bool:=(nums (opnF e)).head? == some 36
def ownF(e:En)(c:Cy):List ByteArray × List Wd × Int:=
 if e.blank then (if c.ho then (c.ow,e.ws,0) else ([],[],9)) else match e.ws with
  |(s,false)::r=>((nrel s c.og).1,r,(nrel s c.og).2)
  |_=>([],[],240)
def isT(s:ByteArray):Bool:=match nums s with
 |[]=>false
 |c::_=>xdig c
def tyF(s:ByteArray):Option Nat:=readC typesW typesP.data.toList 65536 (up s).data.toList
def clF(s:ByteArray):Option Nat:=readC classesW classesP.data.toList 65536 (up s).data.toList
def isC(s:ByteArray):Bool:=(clF s).isSome && (tyF s).isNone
structure Say where
 k:Nat
 c:Nat
 t:Nat
 hk:Bool
 hc:Bool
 ht:Bool
def say0:Say:=⟨0,0,0,false,false,false⟩
def tkF(y:Say)(w:Wd):Except Int Say:=
 if w.2=true then .error 240
 else if (y.ht && isT w.1)=true then .error 240
 else if (y.hc && isC w.1)=true then .error 240
 else if isT w.1=true then (match ttlF w.1 with|some n=>.ok { y with t:=n,ht:=true }|none=>.error 240)
 else if isC w.1=true then (match clF w.1 with|some n=>.ok { y with c:=n,hc:=true }|none=>.error 6)
 else match tyF w.1 with|some n=>(if storedF n then .ok { y with k:=n,hk:=true } else .error 6)|none=>.error 6
def saysF(y:Say):List Wd->Except Int (Say × List Wd)
 |[]=>.error 240
 |w::r=>match tkF y w with
  | .error e=>.error e
  | .ok y'=>if y'.hk then .ok (y',r) else saysF y' r
def tmF(y:Say)(d:Dat)(c:Cy):Option (Nat × Cy):=
 if y.ht then some (y.t,{ c with tt:=y.t,ht:=true })
 else if c.sd then some (c.df,c)
 else if c.ht then some (c.tt,c)
 else if y.k=6/\d.us.getD 4 0<2147483648 then some (d.us.getD 4 0,{ c with tt:=d.us.getD 4 0,ht:=true })
 else none
def csF(y:Say)(c:Cy):Nat:=if y.hc then y.c else if c.hc then c.cl else 1
def entF(e:En)(c:Cy):Except Int (Rec × Cy):=
 if e.ws=[]∨marked e=true then .error 240
 else if (ownF e c).2.2≠0 then .error (ownF e c).2.2
 else match saysF say0 (ownF e c).2.1 with
  | .error er=>.error er
  | .ok (y,r)=>match prsF y.k c.og r with
   |none=>.error 7
   |some d=>match tmF y d c with
    |none=>.error 9
    |some (n,c')=>.ok (⟨(ownF e c).1,y.k,csF y c',n,d⟩,{ c' with ow:=(ownF e c).1,ho:=true,cl:=csF y c',hc:=true })
def cmdE(k:Nat)(ws:List Wd)(c:Cy):Except Int Cy:=
 match ws with
 |[(s,false)]=>if k=1 then (if (nrel s c.og).2=0 then .ok { c with og:=(nrel s c.og).1 } else .error (nrel s c.og).2)
   else (match ttlF s with|some n=>.ok { c with df:=n,sd:=true }|none=>.error 240)
 |_=>.error 240
def stpE(e:En)(c:Cy)(rs:List Rec):Except Int (Cy × List Rec):=
 if cmdF e=0 then (match entF e c with
  | .error er=>.error er
  | .ok (r,c')=>if rs.length=2048 then .error 3 else .ok (c',rs++[r]))
 else (match cmdE (cmdF e) e.ws.tail c with
  | .error er=>.error er
  | .ok c'=>.ok (c',rs))
inductive Ra where
 |er (e:Int) (line:Int)
 |ok (rs:List Rec)
def allF:List En->Cy->List Rec->Ra
 |[],_,rs=>.ok rs
 |e::es,c,rs=>match stpE e c rs with
  | .error er=>.er er e.line
  | .ok (c',rs')=>allF es c' rs'
def cy0(og:List ByteArray):Cy:=⟨og,[],0,0,0,false,false,false,false⟩
def mstF(s:ByteArray)(og:List ByteArray):Ra:=
 if nck og=0 then (match entsF s.data.toList with
  | .er e l=>.er e l
  | .ok es=>allF es (cy0 og) [])
 else .er (nck og) 0
end Go.Proofs.YtjkljpdolhglcaaGreatDoor
namespace Go.Proofs.YtjkljpdolhglcaaGreatDoor
open Go.ChangeShapes Go.WideShapes Go.ChangeAt Go.RowKit Go.Sort
theorem pu31_in(t:ByteArray)(hne:t.size≠0)(hmax:t.size<=9223372036854775806)(w:World) :
  Calls Tryz.prog 98 #[.string t,.int .i64 10,.int .i64 31] w fun e w'=>e=.returned (Lib.uintTupleM 181 2147483647 (Lib.parseUintM 2147483647 0 t.data.toList))/\w'=Lib.bytesWorld w 5 t:=by
 have hemp:t.toList.isEmpty=false:=by
  rw[<- decide_eq_emptyBytes]
  exact decide_eq_false (fun h=>hne (by rw[h];rfl))
 have hcv:=Lib.run_convert_string_bytes (P:=Tryz.prog) w 9 46 5 t (u:=.string) Tryz.underlying9 Tryz.underlying46 Tryz.underlying5
 have hB:∀j,j<t.size->(Lib.bytesWorld w 5 t).cell? ⟨w.heap.size,j,none⟩=some (.int .u8 (t.data.toList.getD j 0).toNat):=fun j hj=>Lib.bytesWorld_cell w 5 t j hj
 obtain ⟨W1,hW1⟩:∃W1,W1=Lib.bytesWorld w 5 t:=⟨_,rfl⟩
 rw[<- hW1] at hcv hB ⊢
 clear hW1
 obtain ⟨bs,hL⟩:∃bs,bs=t.data.toList:=⟨_,rfl⟩
 have hLn:bs.length=t.size:=by rw[hL,Lib.size_eq]
 rw[<- hL] at hB ⊢
 clear hL
 have hmv:IntKind.u64.wrap (IntKind.u64.wrap 2147483648 - 1)=2147483647:=by
  rw[IntKind.wrap_u64,IntKind.wrap_u64]
  decide
 go_enter Tryz.func98,Tryz.ntmps98
 go_wp2
 go_loop [12,13,101] (fun vu vn vi=>∃(k acc:Nat) (a:Int),vu=.bool false/\vn=.int .u64 a/\vi=.int .i64 k/\k<=t.size/\Hid (a=(acc:Int)/\acc<=2147483647/\Lib.parseUintM 2147483647 0 bs=Lib.parseUintM 2147483647 acc (bs.drop k)))
  (fun _ _ vi=>t.size - (intOf vi).toNat)
 case atStart=>exact ⟨0,0,0,rfl,rfl,rfl,by omega,rfl,by omega,rfl⟩
 case round=>
  obtain ⟨k,acc,a,rfl,rfl,rfl,hk,hh⟩:=hrel
  obtain ⟨ha,hacc,hdec⟩:=hh.out
  clear hh
  have a0:0<=a:=by omega
  have a1:a<=2147483647:=by omega
  by_cases hkn:k<t.size
  ·have hc:=hB k hkn
   have hdrop:bs.drop k=bs[k]'(by omega)::bs.drop (k+1):=List.drop_eq_getElem_cons (by omega)
   have hget:bs.getD k 0=bs[k]'(by omega):=by simp[List.getD,List.getElem?_eq_getElem (show k<bs.length by omega)]
   rw[hdrop] at hdec
   rw[hget] at hc
   generalize bs[k]'(by omega)=c at hc hdec
   have hc256:c.toNat<256:=c.toNat_lt
   clear hB hdrop hget
   generalize hR:bs.drop (k+1)=R at hdec
   by_cases hdig:48<=c.toNat/\c.toNat<=57
   ·obtain ⟨hd0,hd1⟩:=hdig
    have hcut:¬ 1844674407370955162<=acc:=by omega
    by_cases hov:2147483647<acc*10+(c.toNat - 48)
    ·have hF:Lib.parseUintM 2147483647 acc (c::R)=.range:=by simp[Lib.parseUintM,hd0,hd1,hcut,hov]
     rw[hF] at hdec
     have iov:2147483647<a*10+((c.toNat:Int) - 48):=by omega
     clear hcut hacc hF hov ha
     go_wp2
     go_ret2
     exact ⟨rfl,rfl⟩
    ·have hF:Lib.parseUintM 2147483647 acc (c::R)=Lib.parseUintM 2147483647 (acc*10+(c.toNat - 48)) R:=by simp[Lib.parseUintM,hd0,hd1,hcut,hov]
     have HN:Hid (a*10+((c.toNat:Int) - 48)=((acc*10+(c.toNat - 48):Nat):Int)/\acc*10+(c.toNat - 48)<=2147483647/\Lib.parseUintM 2147483647 0 bs=Lib.parseUintM 2147483647 (acc*10+(c.toNat - 48)) (bs.drop (k+1))):=Lib.hid ⟨by omega,by omega,by rw[hR];exact hdec.trans hF⟩
     have iov:a*10+((c.toNat:Int) - 48)<=2147483647:=by omega
     clear hcut hacc hF hov hdec ha
     go_wp2
     refine ⟨⟨k+1,acc*10+(c.toNat - 48),a*10+((c.toNat:Int) - 48),rfl,(by first|rfl|(congr 1;omega)),(by first|rfl|(congr 1;omega)),by omega,HN⟩,by simp[intOf];omega⟩
   ·have hF:Lib.parseUintM 2147483647 acc (c::R)=.syntax:=by simp[Lib.parseUintM,hdig]
    rw[hF] at hdec
    have KL:=Lib.hid (low_any c.toNat hc256)
    have hv256:=(low_all ⟨c.toNat,hc256⟩).2.2.2
    have h95:c.toNat=95->c.toNat ||| 32=127:=by intro h;rw[h];rfl
    simp only at hv256
    clear hacc hF ha
    generalize c.toNat ||| 32=v at*
    by_cases h97:97<=v/\v<=122
    ·have hn95:¬ (c.toNat:Int)=95:=by intro h;have:=h95 (by omega);omega
     have i97:(97:Int)<=(v:Int):=by omega
     have i122:(v:Int)<=122:=by omega
     clear h95
     rcases (by omega:(c.toNat:Int)<48∨57<(c.toNat:Int)) with hq|hq
     all_goals
      go_wp2_with (go_at_call 116;refine (KL.out _).mono ?_;rintro e w' ⟨rfl,hw⟩;subst w')
      go_ret2
      first|exact ⟨rfl,rfl⟩|exact ⟨by rw[hdec];rfl,rfl⟩
    ·by_cases h97':97<=v
     ·have i97:(97:Int)<=(v:Int):=by omega
      have i122:122<(v:Int):=by omega
      clear h95
      rcases (by omega:(c.toNat:Int)<48∨(57<(c.toNat:Int)/\(c.toNat:Int)<95)∨95<(c.toNat:Int)∨c.toNat=95) with hq|⟨hq,hq2⟩|hq|hq
      case inr.inr.inr=>
       have hq:(c.toNat:Int)=95:=by omega
       rw[hq] at hc KL
       go_wp2_with (go_at_call 116;refine (KL.out _).mono ?_;rintro e w' ⟨rfl,hw⟩;subst w')
       go_ret2
       first|exact ⟨rfl,rfl⟩|exact ⟨by rw[hdec];rfl,rfl⟩
      all_goals
       go_wp2_with (go_at_call 116;refine (KL.out _).mono ?_;rintro e w' ⟨rfl,hw⟩;subst w')
       go_ret2
       first|exact ⟨rfl,rfl⟩|exact ⟨by rw[hdec];rfl,rfl⟩
     ·have hn95:¬ (c.toNat:Int)=95:=by intro h;have:=h95 (by omega);omega
      have i97:(v:Int)<97:=by omega
      clear h95
      rcases (by omega:(c.toNat:Int)<48∨57<(c.toNat:Int)) with hq|hq
      all_goals
       go_wp2_with (go_at_call 116;refine (KL.out _).mono ?_;rintro e w' ⟨rfl,hw⟩;subst w')
       go_ret2
       first|exact ⟨rfl,rfl⟩|exact ⟨by rw[hdec];rfl,rfl⟩
  ·have hkk:k=t.size:=by omega
   subst hkk
   have hF:Lib.parseUintM 2147483647 acc (bs.drop t.size)=.ok acc:=by rw[List.drop_eq_nil_of_le (by omega)];rfl
   rw[hF] at hdec
   subst ha
   clear hacc hF a0 a1
   go_wp2
   go_ret2
   first|exact ⟨rfl,rfl⟩|exact ⟨by rw[hdec];rfl,rfl⟩
theorem pu31_empty(w:World):Calls Tryz.prog 98 #[.string ⟨#[]⟩,.int .i64 10,.int .i64 31] w fun e w'=>e=.returned (.tuple #[.int .u64 0,.iface 181 (.int .i64 2)])/\w'=w:=by
 go_enter Tryz.func98,Tryz.ntmps98
 go_wp2
 go_ret2
 exact ⟨rfl,rfl⟩
def Pu31(s:ByteArray)(w:World)(e:Ending)(w':World):Prop:=
 (∃u:Nat,e=.returned (.tuple #[.int .u64 u,.nilIface])/\Lib.parseUintB 31 s.data.toList=.ok u/\Below w.heap.size w w') ∨
 (∃x N,e=.returned (.tuple #[.int .u64 x,.iface 183 (.pointer (some ⟨N,0,none⟩))])/\(0<=x/\x<=2147483647)/\(∀u,Lib.parseUintB 31 s.data.toList≠.ok u)/\Below w.heap.size w w')
theorem pu31_any(s:ByteArray)(hs:s.size<=281474976710656)(w:World)(hE:LayE w):Calls Tryz.prog 78 #[.string s,.int .i64 10,.int .i64 31] w (Pu31 s w):=by
 have HE:Hid (LayE w):=hE
 have K:(∃W1 u,Lib.parseUintB 31 s.data.toList=.ok u/\Calls Tryz.prog 98 #[.string s,.int .i64 10,.int .i64 31] w fun e w'=>e=.returned (.tuple #[.int .u64 (u:Nat),.nilIface])/\w'=W1/\Below w.heap.size w W1) ∨
   (∃W1 x y,(y=1∨y=2)/\(0<=x/\x<=2147483647)/\(∀u,Lib.parseUintB 31 s.data.toList≠.ok u)/\Calls Tryz.prog 98 #[.string s,.int .i64 10,.int .i64 31] w fun e w'=>e=.returned (.tuple #[.int .u64 x,.iface 181 (.int .i64 y)])/\w'=W1/\Below w.heap.size w W1):=by
  by_cases h0:s.data.toList=[]
  ·have e:=ba_nil h0
   subst e
   exact .inr ⟨w,0,2,.inr rfl,by omega,fun u h=>by simp[Lib.parseUintB] at h,(pu31_empty w).mono fun e w' ⟨h1,h2⟩=>⟨h1,h2,Below.refl _ _⟩⟩
  ·have K:=pu31_in s (size_ne h0) (by omega) w
   have eM:(2:Nat) ^ 31 - 1=2147483647:=by decide
   have hp:Lib.parseUintB 31 s.data.toList=Lib.parseUintM 2147483647 0 s.data.toList:=by rw[Lib.parseUintB,if_neg h0,eM]
   rw[hp]
   cases hr:Lib.parseUintM 2147483647 0 s.data.toList with
   |ok u=>rw[hr] at K;exact .inl ⟨_,u,rfl,K.mono fun e w' ⟨h1,h2⟩=>⟨h1,h2,Lib.bytesWorld_below _ _ _⟩⟩
   |«syntax»=>rw[hr] at K;exact .inr ⟨_,0,2,.inr rfl,by omega,fun u h=>(by cases h),K.mono fun e w' ⟨h1,h2⟩=>⟨h1,h2,Lib.bytesWorld_below _ _ _⟩⟩
   |range=>rw[hr] at K;exact .inr ⟨_,2147483647,1,.inl rfl,by omega,fun u h=>(by cases h),K.mono fun e w' ⟨h1,h2⟩=>⟨h1,h2,Lib.bytesWorld_below _ _ _⟩⟩
 clear hE
 rcases K with ⟨W1,u,hu,K⟩|⟨W1,x,y,hy,hx,hno,K⟩
 ·have K:=Lib.hid K
  have HU:=Lib.hid hu
  clear hu
  go_enter Tryz.func78,Tryz.ntmps78
  go_wp2_with fail
  refine K.out.mono ?_
  rintro e w' ⟨rfl,hw,hb⟩
  subst w'
  have HB:Hid (Below w.heap.size w W1):=hb
  clear hb
  go_wp2_with fail
  go_ret2
  exact .inl ⟨u,rfl,HU.out,HB.out⟩
 ·have K:=Lib.hid K
  have HX:Hid ((0<=x/\x<=2147483647)/\∀u,Lib.parseUintB 31 s.data.toList≠.ok u):=⟨hx,hno⟩
  clear hx hno
  rcases hy with rfl|rfl
  ·go_enter Tryz.func78,Tryz.ntmps78
   go_wp2_with fail
   refine K.out.mono ?_
   rintro e w' ⟨rfl,hw,hb⟩
   subst w'
   have HB:Hid (Below w.heap.size w W1):=hb
   have HE1:=Lib.hid (HE.out.below hb)
   clear hb HE
   obtain ⟨⟨tp,p,h1⟩,⟨tq,q,h2⟩,_,_⟩:=HE1.out
   have g1:W1.cell? ⟨5,0,none⟩=some (.iface tp p):=by have h0:=World.var?_cell gSyn h1 0;simpa using h0
   have g2:W1.cell? ⟨6,0,none⟩=some (.iface tq q):=by have h0:=World.var?_cell gRng h2 0;simpa using h0
   have G1:=Lib.hid g1
   have G2:=Lib.hid g2
   clear g1 g2 h1 h2
   go_wp2_with fail
   refine (Tryz.strconv_toError_range _ s 10 31 (.iface tq q) W1 hs G2.out (Or.inr ⟨tq,q,rfl⟩)).mono ?_
   rintro e w' ⟨N,rfl,_,_,hb⟩
   have HB2:Hid (Below w.heap.size w w'):=HB.out.trans (hb.mono HB.out.size)
   clear hb
   go_wp2_with fail
   go_ret2
   exact .inr ⟨x,N,rfl,HX.out.1,HX.out.2,HB2.out⟩
  ·go_enter Tryz.func78,Tryz.ntmps78
   go_wp2_with fail
   refine K.out.mono ?_
   rintro e w' ⟨rfl,hw,hb⟩
   subst w'
   have HB:Hid (Below w.heap.size w W1):=hb
   have HE1:=Lib.hid (HE.out.below hb)
   clear hb HE
   obtain ⟨⟨tp,p,h1⟩,⟨tq,q,h2⟩,_,_⟩:=HE1.out
   have g1:W1.cell? ⟨5,0,none⟩=some (.iface tp p):=by have h0:=World.var?_cell gSyn h1 0;simpa using h0
   have g2:W1.cell? ⟨6,0,none⟩=some (.iface tq q):=by have h0:=World.var?_cell gRng h2 0;simpa using h0
   have G1:=Lib.hid g1
   have G2:=Lib.hid g2
   clear g1 g2 h1 h2
   go_wp2_with fail
   refine (Tryz.strconv_toError_syntax _ s 10 31 (.iface tp p) W1 hs G1.out (Or.inr ⟨tp,p,rfl⟩)).mono ?_
   rintro e w' ⟨N,rfl,_,_,hb⟩
   have HB2:Hid (Below w.heap.size w w'):=HB.out.trans (hb.mono HB.out.size)
   clear hb
   go_wp2_with fail
   go_ret2
   exact .inr ⟨x,N,rfl,HX.out.1,HX.out.2,HB2.out⟩
def N31(s:ByteArray)(w:World)(e:Ending)(w':World):Prop:=
 ∃(n:Nat) (b:Bool),e=.returned (.tuple #[.int .u32 (n:Int),.bool b])/\Hid (n<=2147483647)/\Hid ((b=true->num31 (nums s)=some n)/\(b=false->num31 (nums s)=none))/\Hid (Below w.heap.size w w')
theorem xnum31(s:ByteArray)(hz:¬ (1<s.data.toList.length/\(bi s.data.toList).head?=some 48))(u:Nat):Lib.parseUintB 31 s.data.toList=.ok u↔num31 (nums s)=some u:=lnum_ok 31 (by decide) _ u hz
theorem num31_any(s:ByteArray)(hs:s.size<=281474976710656)(w:World)(hE:LayE w):Calls Tryz.prog 50 #[.string s] w (N31 s w):=by
 by_cases hz:1<s.data.toList.length/\(bi s.data.toList).head?=some 48
 ·have h1:1<s.size:=hz.1
  have h1':(1:Int)<(s.size:Int):=by omega
  have h0':(0:Int)<(s.size:Int):=by omega
  have h48:(s[0].toNat:Int)=48:=by
   have:=hz.2
   rw[<- nums_bi,head_at s (by omega)] at this
   injection this
  have HN:Hid (num31 (nums s)=none):=lnum_zero (nums s) _ (by rw[nums_bi,bi_len];exact hz.1) hz.2
  clear hz
  go_enter Tryz.func50,Tryz.ntmps50
  go_wp2_with fail
  go_ret2
  exact ⟨0,false,rfl,Nat.zero_le _,⟨fun h=>by (cases h),fun _=>HN.out⟩,Below.refl _ _⟩
 ·have HI:=Lib.hid (xnum31 s hz)
  have K:=Lib.hid (fun W hW=>pu31_any s hs W hW)
  have HE:=Lib.hid hE
  clear hE
  by_cases h1:1<s.size
  ·have h1':(1:Int)<(s.size:Int):=by omega
   have h0':(0:Int)<(s.size:Int):=by omega
   have h48:((s[0].toNat:Int) == 48)=false:=by
    rw[beq_eq_false_iff_ne]
    intro e
    exact hz ⟨h1,by rw[<- nums_bi,head_at s (by omega),e]⟩
   clear hz
   go_enter Tryz.func50,Tryz.ntmps50
   go_wp2_with fail
   refine (K.out _ HE.out).mono ?_
   rintro e w' (⟨u,rfl,hu,hb⟩|⟨x,N,rfl,hx,hu,hb⟩)
   ·have HU:=Lib.hid ((HI.out u).1 hu)
    have HB:=Lib.hid hb
    have hu1:u<2147483648:=(xnum_some HU.out).2
    have hu2:u<4294967296:=by omega
    clear hu hb
    go_wp2_with fail
    go_quiet (fail)
    go_wp2_with fail
    go_ret2
    exact ⟨u,true,rfl,by show _<=_;omega,⟨fun _=>HU.out,fun h=>by (cases h)⟩,HB.out.trans ⟨rfl,rfl,rfl,Nat.le_refl _,fun _ _=>rfl⟩⟩
   ·have HU:Hid (num31 (nums s)=none):=by
     show _=_
     cases h:num31 (nums s) with
     |none=>rfl
     |some n=>exact absurd ((HI.out n).2 h) (hu n)
    have HB:=Lib.hid hb
    obtain ⟨n,rfl⟩:∃n:Nat,x=(n:Int):=⟨x.toNat,by omega⟩
    have hu2:n<4294967296:=by omega
    have HN:Hid (n<=2147483647):=by show _<=_;omega
    clear hu hb hx
    go_wp2_with fail
    go_quiet (fail)
    go_wp2_with fail
    go_ret2
    exact ⟨n,false,rfl,HN.out,⟨fun h=>by (cases h),fun _=>HU.out⟩,HB.out.trans ⟨rfl,rfl,rfl,Nat.le_refl _,fun _ _=>rfl⟩⟩
  ·have h1':¬ (1:Int)<(s.size:Int):=by omega
   clear hz
   go_enter Tryz.func50,Tryz.ntmps50
   go_wp2_with fail
   refine (K.out _ HE.out).mono ?_
   rintro e w' (⟨u,rfl,hu,hb⟩|⟨x,N,rfl,hx,hu,hb⟩)
   ·have HU:=Lib.hid ((HI.out u).1 hu)
    have HB:=Lib.hid hb
    have hu1:u<2147483648:=(xnum_some HU.out).2
    have hu2:u<4294967296:=by omega
    clear hu hb
    go_wp2_with fail
    go_quiet (fail)
    go_wp2_with fail
    go_ret2
    exact ⟨u,true,rfl,by show _<=_;omega,⟨fun _=>HU.out,fun h=>by (cases h)⟩,HB.out.trans ⟨rfl,rfl,rfl,Nat.le_refl _,fun _ _=>rfl⟩⟩
   ·have HU:Hid (num31 (nums s)=none):=by
     show _=_
     cases h:num31 (nums s) with
     |none=>rfl
     |some n=>exact absurd ((HI.out n).2 h) (hu n)
    have HB:=Lib.hid hb
    obtain ⟨n,rfl⟩:∃n:Nat,x=(n:Int):=⟨x.toNat,by omega⟩
    have hu2:n<4294967296:=by omega
    have HN:Hid (n<=2147483647):=by show _<=_;omega
    clear hu hb hx
    go_wp2_with fail
    go_quiet (fail)
    go_wp2_with fail
    go_ret2
    exact ⟨n,false,rfl,HN.out,⟨fun h=>by (cases h),fun _=>HU.out⟩,HB.out.trans ⟨rfl,rfl,rfl,Nat.le_refl _,fun _ _=>rfl⟩⟩
end Go.Proofs.YtjkljpdolhglcaaGreatDoor
namespace Go.Proofs
open Go.Shelf
def Tryz.lays161_ren:Go.Shelf.Ren:=⟨fun|161=>79|231=>100|227=>101|233=>102|235=>103|228=>122|197=>67|151=>123|260=>93|152=>144|137=>80|119=>162|224=>76|225=>75|217=>74|266=>96|n=>n,fun|9=>9|4=>4|3=>3|5=>5|117=>162|116=>161|0=>0|124=>165|105=>119|21=>21|119=>174|46=>129|139=>177|138=>176|n=>n,fun|3=>3|4=>4|n=>n⟩
theorem Tryz.lays161:Go.Proofs.Lays.n161 Tryz.prog Tryz.lays161_ren:={
 mixed:=by kernel_rfl
 f119:=Tryz.func162.trans (congrArg some (by kernel_rfl))
 f137:=Tryz.func80.trans (congrArg some (by kernel_rfl))
 f151:=Tryz.func123.trans (congrArg some (by kernel_rfl))
 f152:=Tryz.func144.trans (congrArg some (by kernel_rfl))
 f161:=Tryz.func79.trans (congrArg some (by kernel_rfl))
 f197:=Tryz.func67.trans (congrArg some (by kernel_rfl))
 f217:=Tryz.func74.trans (congrArg some (by kernel_rfl))
 f224:=Tryz.func76.trans (congrArg some (by kernel_rfl))
 f225:=Tryz.func75.trans (congrArg some (by kernel_rfl))
 f227:=Tryz.func101.trans (congrArg some (by kernel_rfl))
 f228:=Tryz.func122.trans (congrArg some (by kernel_rfl))
 f231:=Tryz.func100.trans (congrArg some (by kernel_rfl))
 f233:=Tryz.func102.trans (congrArg some (by kernel_rfl))
 f235:=Tryz.func103.trans (congrArg some (by kernel_rfl))
 f260:=Tryz.func93.trans (congrArg some (by kernel_rfl))
 f266:=Tryz.func96.trans (congrArg some (by kernel_rfl))
 t0:=Tryz.underlying0
 a0:=Tryz.isAgg0
 z0:=Tryz.sizeOf0
 v0:=Tryz.zeroValue0
 t3:=Tryz.underlying3
 a3:=Tryz.isAgg3
 z3:=Tryz.sizeOf3
 v3:=Tryz.zeroValue3
 t4:=Tryz.underlying4
 a4:=Tryz.isAgg4
 z4:=Tryz.sizeOf4
 v4:=Tryz.zeroValue4
 t5:=Tryz.underlying5
 a5:=Tryz.isAgg5
 z5:=Tryz.sizeOf5
 v5:=Tryz.zeroValue5
 t9:=Tryz.underlying9
 a9:=Tryz.isAgg9
 z9:=Tryz.sizeOf9
 v9:=Tryz.zeroValue9
 t21:=Tryz.underlying21
 a21:=Tryz.isAgg21
 z21:=Tryz.sizeOf21
 v21:=Tryz.zeroValue21
 t46:=Tryz.underlying129
 a46:=Tryz.isAgg129
 z46:=Tryz.sizeOf129
 v46:=Tryz.zeroValue129
 t105:=Tryz.underlying119
 a105:=Tryz.isAgg119
 z105:=Tryz.sizeOf119
 v105:=Tryz.zeroValue119
 t116:=Tryz.underlying161
 a116:=Tryz.isAgg161
 z116:=Tryz.sizeOf161
 t117:=Tryz.underlying162
 a117:=Tryz.isAgg162
 z117:=Tryz.sizeOf162
 v117:=Tryz.zeroValue162
 t119:=Tryz.underlying174
 a119:=Tryz.isAgg174
 z119:=Tryz.sizeOf174
 t124:=Tryz.underlying165
 a124:=Tryz.isAgg165
 z124:=Tryz.sizeOf165
 v124:=Tryz.zeroValue165
 t138:=Tryz.underlying176
 a138:=Tryz.isAgg176
 z138:=Tryz.sizeOf176
 v138:=Tryz.zeroValue176
 t139:=Tryz.underlying177
 a139:=Tryz.isAgg177
 z139:=Tryz.sizeOf177
 v139:=Tryz.zeroValue177
 g3:=by kernel_rfl
 g4:=by kernel_rfl }
end Go.Proofs
namespace Go.Proofs.YtjkljpdolhglcaaGreatDoor
open Go.ChangeShapes Go.WideShapes Go.ChangeAt Go.RowKit
theorem fold_any(s:ByteArray)(w:World)(hs:s.size<=9223372036854775807) :
  Calls Tryz.prog 52 #[.string s] w fun e w'=>e=.returned (.string ⟨(txt ((nums s).map fz)).toArray⟩)/\Hid (Below w.heap.size w w'):=by
 obtain ⟨zs,hc,hb,ht,hl⟩:=conv_new s w
 have H0:Hid (Blk2 (w.drew.alloc (.cells (zs.map (Value.int .u8)).toArray 5 (zs.length,zs.length+1))) w.heap.size zs/\FSt (nums s) zs 0/\Below w.heap.size w (w.drew.alloc (.cells (zs.map (Value.int .u8)).toArray 5 (zs.length,zs.length+1)))):=by
  refine ⟨hb,FSt.zero (by rw[nums_len];exact ht) (by rw[nums_len];exact hl),(Below.refl _ _).drew.alloc (Nat.le_refl _) _⟩
 have HLn:Hid (zs.length=zs.length):=rfl
 clear hb ht
 go_enter Tryz.func52,Tryz.ntmps52
 generalize hzl:zs.length=C at*
 have HZ:Hid (zs.length=C):=hzl
 clear hzl
 generalize (w.drew.alloc (.cells (zs.map (Value.int .u8)).toArray 5 (C,C+1)))=W0 at*
 go_wp2_with fail
 go_loopw [10] (fun x wr=>∃k:Nat,k<=s.size/\x=.int .i64 k/\Hid (∃ys,ys.length=C/\Blk2 wr w.heap.size ys/\FSt (nums s) ys k)/\Hid (Below w.heap.size w wr)) (fun x _=>s.size - (intOf x).toNat)
 case atStart=>exact ⟨0,Nat.zero_le _,rfl,⟨zs,HZ.out,H0.out.1,H0.out.2.1⟩,H0.out.2.2⟩
 case round=>
  obtain ⟨k,hk,rfl,HW,HB⟩:=hrel
  clear H0 hc
  by_cases hlt:k<s.size
  ·have hlt':(k:Int)<(s.size:Int):=by omega
   obtain ⟨ys,e1,e2,e3⟩:=HW.out
   have hcell:=e2.cell k (by omega)
   have hfr:=e2.frozen k (by omega)
   have hv:=e3.2 k (by rw[nums_len];exact hlt)
   rw[if_neg (by omega)] at hv
   rw[hv] at hcell
   have hbd:=nums_bd s k
   have HY:Hid (ys.length=C/\Blk2 wr w.heap.size ys/\FSt (nums s) ys k):=⟨e1,e2,e3⟩
   have HK:Hid (k<(nums s).length):=(show k<_ by rw[nums_len];exact hlt)
   have HF:Hid (fz ((nums s).getD k 0)=if 65<=(nums s).getD k 0/\(nums s).getD k 0<=90 then (nums s).getD k 0+32 else (nums s).getD k 0):=(show _=_ from rfl)
   have HS1:Hid (fz ((nums s).getD k 0)=(nums s).getD k 0->FSt (nums s) ys (k+1)):=fun h=>e3.same h
   have HS2:Hid (FSt (nums s) (ys.set k (fz ((nums s).getD k 0))) (k+1)):=e3.set HK.out
   clear e1 e2 e3 hv
   generalize (nums s).getD k 0=z at*
   by_cases hu:65<=z/\z<=90
   ·have hz1:fz z=z+32:=by rw[HF.out,if_pos hu]
    rw[hz1] at HS2
    have HB3:Hid (Blk2 (wr.setCell ⟨w.heap.size,k,none⟩ (.int .u8 (z+32))) w.heap.size (ys.set k (z+32))/\Below w.heap.size w (wr.setCell ⟨w.heap.size,k,none⟩ (.int .u8 (z+32)))):=⟨HY.out.2.1.stored k _ (by omega),HB.out.setCell (Nat.le_refl _) _⟩
    clear hz1
    go_wp2
    rw[show z - 65+97=z+32 by omega]
    refine ⟨⟨k+1,by omega,by go_num,⟨_,?_,HB3.out.1,HS2.out⟩,HB3.out.2⟩,by simp[intOf];omega⟩
    rw[List.length_set];exact HY.out.1
   ·have hz1:fz z=z:=by rw[HF.out,if_neg hu]
    have HS3:Hid (FSt (nums s) ys (k+1)):=HS1.out hz1
    clear hz1 HS1 HS2
    have hor:z<65∨90<z:=by omega
    clear HF
    rcases hor with ho|ho
    all_goals
     go_wp2
     exact ⟨⟨k+1,by omega,by go_num,⟨ys,HY.out.1,HY.out.2.1,HS3.out⟩,HB.out⟩,by simp[intOf];omega⟩
  ·have hge:(s.size:Int)<=(k:Int):=by omega
   obtain ⟨ys,e1,e2,e3⟩:=HW.out
   have hks:k=s.size:=by omega
   have hd:ys.take s.size=(nums s).map fz:=by
    have:=FSt.done (l:=nums s) (zs:=ys) (by rw[nums_len,<- hks];exact e3)
    rw[nums_len] at this
    exact this
   have hrd:=e2.rd s.size
   rw[hd] at hrd
   have hcv:=conv_rd (some ⟨w.heap.size,0,none⟩) s.size C ((nums s).map fz) wr hrd (by rw[List.length_map,nums_len])
   clear hrd hd e1 e2 e3
   go_wp2
   go_ret
   exact ⟨rfl,HB.out⟩
end Go.Proofs.YtjkljpdolhglcaaGreatDoor
namespace Go.Proofs.YtjkljpdolhglcaaGreatDoor
open Go.ChangeShapes Go.WideShapes Go.ChangeAt Go.RowKit
abbrev digB:ByteArray:=⟨#[48,49,50,51,52,53,54,55,56,57]⟩
abbrev letB:ByteArray:=⟨#[119,100,104,109,115]⟩
theorem dig_has(c:UInt8):digB.data.toList.contains c=xdig (c.toNat:Int):=by
 have:∀c:Fin 256,digB.data.toList.contains (UInt8.ofNat c.val)=xdig ((UInt8.ofNat c.val).toNat:Int):=by decide +kernel
 have h:=this ⟨c.toNat,c.toNat_lt⟩
 simpa using h
def behB(s:ByteArray):ByteArray:=⟨(Lib.trimLeftS s.data.toList digB.data.toList).toArray⟩
theorem behB_nums(s:ByteArray):nums (behB s)=aftD (nums s):=by
 rw[nums_bi,nums_bi]
 show bi (Lib.trimLeftS s.data.toList digB.data.toList)=_
 unfold Lib.trimLeftS aftD bi
 rw[List.dropWhile_map]
 congr 2
 funext c
 exact dig_has c
theorem dgs_aft(l:List Int):dgsD l++aftD l=l:=List.takeWhile_append_dropWhile
theorem ext_nums(s:ByteArray)(k:Nat)(hk:k<=s.size):nums (s.extract 0 k)=(nums s).take k:=by
 rw[nums_bi,nums_bi]
 unfold bi
 rw[<- List.map_take]
 congr 1
 simp
theorem ext_dgs(s:ByteArray):nums (s.extract 0 (s.size - (behB s).size))=dgsD (nums s)/\(behB s).size<=s.size:=by
 have h1:(behB s).size=(aftD (nums s)).length:=by rw[<- behB_nums,nums_len]
 have h2:=congrArg List.length (dgs_aft (nums s))
 rw[List.length_append,nums_len] at h2
 refine ⟨?_,by omega⟩
 rw[ext_nums s _ (by omega)]
 conv=>lhs;arg 2;rw[<- dgs_aft (nums s)]
 rw[List.take_left' (by omega)]
theorem ext_tail(s:ByteArray):nums (s.extract 1 s.size)=(nums s).drop 1:=by
 rw[nums_bi,nums_bi]
 unfold bi
 rw[<- List.map_drop]
 congr 1
 simp
 try exact List.take_of_length_le (by simp)
theorem pl_idx(c:UInt8):∀L:List UInt8,(plF c.toNat (bi L)=none/\Lib.indexByte L c = -1)∨(∃p,plF c.toNat (bi L)=some p/\Lib.indexByte L c=(p:Int)/\p<L.length)
 |[]=>.inl ⟨rfl,rfl⟩
 |b::L=>by
  by_cases h:b=c
  ·subst h
   exact .inr ⟨0,by simp[bi,plF],by simp[Lib.indexByte],by simp⟩
  ·have h1:¬ ((b.toNat:Int)=(c.toNat:Int)):=fun e=>h (u8i e)
   have h2:(b == c)=false:=by simpa using h
   rcases pl_idx c L with ⟨a1,a2⟩|⟨p,a1,a2,a3⟩
   ·left
    refine ⟨?_,?_⟩
    ·rw[bi_cons];unfold plF;rw[if_neg h1,a1];rfl
    ·unfold Lib.indexByte;rw[h2,a2];simp
   ·right
    refine ⟨p+1,?_,?_,by simp;omega⟩
    ·rw[bi_cons];unfold plF;rw[if_neg h1,a1];rfl
    ·unfold Lib.indexByte
     rw[h2,a2]
     have:((p:Int) == -1)=false:=by rw[beq_eq_false_iff_ne];omega
     simp[this]
theorem let_ext(f:Nat)(hf:f<=5):bi (letB.extract f 5).data.toList=lets.drop f/\(letB.extract f 5).data.toList.length=5 - f:=by
 rcases (by omega:f=0∨f=1∨f=2∨f=3∨f=4∨f=5) with rfl|rfl|rfl|rfl|rfl|rfl <;> exact ⟨by decide +kernel,by decide +kernel⟩
def PlO(c:UInt8)(f:Nat)(i:Int):Prop:=(plF c.toNat (lets.drop f)=none/\i = -1)∨(∃p:Nat,plF c.toNat (lets.drop f)=some p/\i=p/\f+p<=4)
theorem pl_o(c:UInt8)(f:Nat)(hf:f<=5):PlO c f (Lib.indexByte (letB.extract f 5).data.toList c):=by
 obtain ⟨h1,h2⟩:=let_ext f hf
 rcases pl_idx c (letB.extract f 5).data.toList with ⟨a1,a2⟩|⟨p,a1,a2,a3⟩
 ·exact .inl ⟨by rw[<- h1];exact a1,a2⟩
 ·exact .inr ⟨p,by rw[<- h1];exact a1,a2,by omega⟩
theorem sumF_step {k : Nat} {l : List Int} {f al : Nat} (hl : l ≠ []) : sumF (k + 1) l f al = (num31 (dgsD l)).bind fun n => match aftD l with
      | [] => none
      | c :: t => (plF c (lets.drop f)).bind fun p => sumF k t (f + p + 1) (al + n * lens.getD (f + p) 0) := by
  cases l with
  | nil => exact absurd rfl hl
  | cons a l => rfl
theorem lens_bd(p:Nat)(h:p<=4):lens.getD p 0<=604800:=by
 rcases (by omega:p=0∨p=1∨p=2∨p=3∨p=4) with rfl|rfl|rfl|rfl|rfl <;> decide
theorem lens_tab(p:Nat)(h:p<=4):lenTab.getD p 0=((lens.getD p 0:Nat):Int):=by
 rcases (by omega:p=0∨p=1∨p=2∨p=3∨p=4) with rfl|rfl|rfl|rfl|rfl <;> decide
theorem lens_cell{w:World}(hL:LayT w)(p:Nat)(h:p<=4):w.cell? ⟨1,p,none⟩=some (.int .u64 ((lens.getD p 0:Nat):Int)):=by
 rw[hL.2.2.cell gLen p (by simp;omega),lens_tab p h]
theorem fits_any(n:Nat)(hn:n<18446744073709551616)(w:World):Calls Tryz.prog 81 #[.int .u64 (n:Int)] w fun e w'=>e=.returned (.bool (decide (n<2147483648)))/\w'=w:=by
 by_cases h:n<2147483648
 ·have h':(n:Int)<2147483648:=by omega
  go_enter Tryz.func81,Tryz.ntmps81
  go_wp2_with fail
  go_ret
  exact ⟨by simp[h],rfl⟩
 ·have h':¬ (n:Int)<2147483648:=by omega
  go_enter Tryz.func81,Tryz.ntmps81
  go_wp2_with fail
  go_ret
  exact ⟨by simp[h],rfl⟩
theorem trim_any(s:ByteArray)(w:World):Calls Tryz.prog 79 #[.string s,.string digB] w fun e w'=>e=.returned (.string (behB s))/\Hid (Below w.heap.size w w'):=
 (Any.strings_TrimLeft_laid Tryz.lays161 (by kernel_rfl) s digB w (by decide) (ascii_of_all (by decide))).mono fun e w' h=>h
theorem let_sl(f:Nat)(hf:f<=5)(w:World):(Instr.slice 9 (.string ⟨#[119,100,104,109,115]⟩) (some (.int .i64 (f:Int))) none none).run Tryz.prog w=.ok (.string (letB.extract f 5)) w:=by
 rcases (by omega:f=0∨f=1∨f=2∨f=3∨f=4∨f=5) with rfl|rfl|rfl|rfl|rfl|rfl <;> (clear hf;show Sem.run _ _ _=Result.ok _ _;kernel_rfl)
theorem let_sa(f:Nat)(hf:f<=5)(w:World):(Instr.sliceAt 9 (.string ⟨#[119,100,104,109,115]⟩) (some (.int .i64 (f:Int))) none none).run Tryz.prog w=.ok (.string (letB.extract f 5)) w:=by
 rcases (by omega:f=0∨f=1∨f=2∨f=3∨f=4∨f=5) with rfl|rfl|rfl|rfl|rfl|rfl <;> (clear hf;show Sem.run _ _ _=Result.ok _ _;kernel_rfl)
def SumO(o:Option (Nat × Nat))(w:World)(e:Ending)(w':World):Prop:=
 ∃(n:Nat) (b:Bool),e=.returned (.tuple #[.int .u32 (n:Int),.bool b])/\Hid ((b=true->((o.bind fun p=>if 0<p.1/\p.2<2147483648 then some p.2 else none)=some n))/\(b=false->(o.bind fun p=>if 0<p.1/\p.2<2147483648 then some p.2 else none)=none))/\Hid (Below w.heap.size w w')
def SmI(S:ByteArray)(s:ByteArray)(f al:Nat):Prop:=f<=5/\s.size<=S.size/\al<=f*1298801745100800/\∃k,6<=k+f/\sumF 6 (nums S) 0 0=sumF k (nums s) f al
def szS:Value->Nat
 | .string t=>t.size
 |_=>0
theorem sum_any(S:ByteArray)(hs:S.size<=281474976710656)(w:World)(hE:LayE w)(hL:LayT w):Calls Tryz.prog 51 #[.string S] w (SumO (sumF 6 (nums S) 0 0) w):=by
 have HE:Hid (LayE w/\LayT w):=⟨hE,hL⟩
 have HS:Hid (S.size<=281474976710656):=hs
 have H0:Hid (SmI S S 0 0):=⟨by omega,Nat.le_refl _,by omega,6,by omega,rfl⟩
 clear hE hL hs
 go_enter Tryz.func51,Tryz.ntmps51
 go_wp2_with fail
 go_loopw [0,4,5] (fun vs va vf wr=>∃(s:ByteArray) (f al:Nat),vs=.string s/\va=.int .u64 (al:Int)/\vf=.int .i64 (f:Int)/\Hid (SmI S s f al)/\Hid (Below w.heap.size w wr)) (fun vs _ _ _=>szS vs)
 case atStart=>exact ⟨S,0,0,rfl,rfl,rfl,H0.out,Below.refl _ _⟩
 case round=>
  obtain ⟨s,f,al,rfl,rfl,rfl,HI,HB⟩:=hrel
  have hf5:=HI.out.1
  have hal:al<=7000000000000000:=by have:=HI.out.2.2.1;omega
  have hss:s.size<=281474976710656:=by have:=HI.out.2.1;have:=HS.out;omega
  by_cases h0:s.data.toList=[]
  ·have e:=ba_nil h0
   subst e
   have KF:=Lib.hid (fun W=>fits_any al (by omega) W)
   have HQ:Hid (sumF 6 (nums S) 0 0=some (f,al)):=by
    obtain ⟨k,hk,e⟩:=HI.out.2.2.2
    show _=_
    rw[e]
    cases k <;> rfl
   by_cases hf:f=0
   ·subst hf
    go_wp2_with fail
    go_ret2
    refine ⟨_,false,rfl,⟨fun h=>by (cases h),fun _=>by rw[HQ.out];rfl⟩,HB.out⟩
   ·have hf1:(0:Int)<(f:Int):=by omega
    by_cases ha:al<2147483648
    ·have hd:decide (al<2147483648)=true:=decide_eq_true ha
     rw[hd] at KF
     have ha2:al<4294967296:=by omega
     go_wp2_with fail
     refine (KF.out _).mono ?_
     rintro e W ⟨rfl,rfl⟩
     go_wp2_with fail
     go_ret2
     refine ⟨al,true,rfl,⟨fun _=>?_,fun h=>by (cases h)⟩,HB.out⟩
     rw[HQ.out]
     show (if _ then _ else _)=_
     rw[if_pos ⟨by omega,ha⟩]
    ·have hd:decide (al<2147483648)=false:=decide_eq_false ha
     rw[hd] at KF
     go_wp2_with fail
     refine (KF.out _).mono ?_
     rintro e W ⟨rfl,rfl⟩
     go_wp2_with fail
     go_ret2
     refine ⟨al % 4294967296,false,?_,⟨fun h=>by (cases h),fun _=>?_⟩,HB.out⟩
     ·rw[show ((al % 4294967296:Nat):Int)=(al:Int) % 4294967296 from by omega]
      first|rfl|(rw[IntKind.wrap_u32])
     ·rw[HQ.out]
      show (if _ then _ else _)=_
      rw[if_neg (by omega)]
  ·have hne:(s.toList == [])=false:=by
    rw[beq_eq_false_iff_ne,Lib.toList_data];exact h0
   have hln:nums s≠[]:=by
    intro e
    apply h0
    rw[nums_bi] at e
    have:=congrArg List.length e
    rw[bi_len] at this
    exact List.length_eq_zero_iff.1 (by simpa using this)
   have KT:=Lib.hid (fun W=>trim_any s W)
   have KN:=Lib.hid (fun W (hW:Below w.heap.size w W)=>num31_any (s.extract 0 (s.size - (behB s).size)) (by simp;omega) W (HE.out.1.below hW))
   obtain ⟨hx1,hx2⟩:=ext_dgs s
   have HX:Hid (nums (s.extract 0 (s.size - (behB s).size))=dgsD (nums s)):=hx1
   have HA:Hid (nums (behB s)=aftD (nums s)):=behB_nums s
   have HST:Hid (∃k,6<=k+1+f/\sumF 6 (nums S) 0 0=(num31 (dgsD (nums s))).bind fun n=>match aftD (nums s) with
     |[]=>none
     |c::t=>(plF c (lets.drop f)).bind fun p=>sumF k t (f+p+1) (al+n*lens.getD (f+p) 0)):=by
    obtain ⟨k,hk,e⟩:=HI.out.2.2.2
    obtain ⟨k,rfl⟩:∃j,k=j+1:=⟨k - 1,by omega⟩
    exact ⟨k,by omega,by rw[e,sumF_step hln]⟩
   generalize behB s=bh at*
   generalize hex:s.extract 0 (s.size - bh.size)=dg at*
   have hsub:(s.size:Int) - (bh.size:Int)=((s.size - bh.size:Nat):Int):=by omega
   generalize hsd:s.size - bh.size=sd at*
   clear h0 hx1 hln
   go_wp2_with fail
   refine (KT.out _).mono ?_
   rintro e w1 ⟨rfl,H1⟩
   have HB1:Hid (Below w.heap.size w w1):=HB.out.trans (H1.out.mono HB.out.size)
   clear KT H1 HB
   go_wp2_with fail
   try rw[hex]
   refine (KN.out _ HB1.out).mono ?_
   rintro e w2 ⟨n,b,rfl,Hn,H8,H2⟩
   have HB2:Hid (Below w.heap.size w w2):=HB1.out.trans (H2.out.mono HB1.out.size)
   have hn:=Hn.out
   clear KN H2 HB1
   cases b with
   |false=>
    go_wp2_with fail
    go_ret2
    refine ⟨0,false,rfl,⟨fun h=>by (cases h),fun _=>?_⟩,HB2.out⟩
    obtain ⟨k,hk,e⟩:=HST.out
    rw[e,<- HX.out,H8.out.2 (by simp)];rfl
   |true=>
    by_cases hb0:bh.data.toList=[]
    ·have e:=ba_nil hb0
     subst e
     go_wp2_with fail
     go_ret2
     refine ⟨0,false,rfl,⟨fun h=>by (cases h),fun _=>?_⟩,HB2.out⟩
     obtain ⟨k,hk,e⟩:=HST.out
     rw[e,<- HX.out,H8.out.1 (by simp),<- HA.out];rfl
    ·have hbe:(bh.toList == [])=false:=by
      rw[beq_eq_false_iff_ne,Lib.toList_data];exact hb0
     have hb1:0<bh.size:=by have:=size_ne hb0;omega
     have hb1':(0:Int)<(bh.size:Int):=by omega
     have HAF:Hid (aftD (nums s)=(bh[0].toNat:Int)::nums (bh.extract 1 bh.size)):=by
      show _=_
      rw[<- HA.out,ext_tail]
      exact nums_from bh 0 hb1
     have HPL:=Lib.hid (pl_o bh[0] f hf5)
     have KI:=Lib.hid (fun W=>Tryz.strings_IndexByte (letB.extract f 5) ((bh[0].toNat:Nat):Int) W)
     have hub:(((bh[0].toNat:Nat):Int).toNat.toUInt8)=bh[0]:=by simp
     rw[hub] at KI
     have hc255:bh[0].toNat<256:=bh[0].toNat_lt
     have hsl:=fun W=>let_sl f hf5 W
     have hsa:=fun W=>let_sa f hf5 W
     generalize hle:letB.extract f 5=le at*
     generalize Lib.indexByte le.data.toList bh[0]=ix at*
     clear hb0 hub
     go_wp2_with fail
     go_quiet (first
      |(go_at_call 80;exact Calls.quiet_of_same (KI.out _)))
     rcases HPL.out with ⟨hp,hix⟩|⟨p,hp,hix,hfp⟩
     ·subst hix
      go_wp2_with fail
      go_ret2
      refine ⟨0,false,rfl,⟨fun h=>by (cases h),fun _=>?_⟩,HB2.out.trans ⟨rfl,rfl,rfl,Nat.le_refl _,fun _ _=>rfl⟩⟩
      obtain ⟨k,hk,e⟩:=HST.out
      rw[e,<- HX.out,H8.out.1 (by simp),HAF.out]
      simp[hp]
     ·subst hix
      have HP:Hid (plF bh[0].toNat (lets.drop f)=some p):=hp
      have hlc:=lens_cell (HE.out.2.below HB2.out) (f+p) hfp
      have hL0:=lens_bd (f+p) hfp
      have HLN:Hid (∃L,L=lens.getD (f+p) 0):=⟨_,rfl⟩
      obtain ⟨L,hLL⟩:=HLN.out
      rw[<- hLL] at hlc hL0
      have HLL:Hid (L=lens.getD (f+p) 0):=hLL
      obtain ⟨Mm,hMm⟩:∃Mm,Mm=n*L:=⟨_,rfl⟩
      have HMm:Hid (Mm=n*L):=hMm
      have hMb:Mm<=1298801745100800:=by rw[hMm];exact Nat.le_trans (Nat.mul_le_mul hn hL0) (by decide)
      have hmul:(n:Int)*(L:Int)=(Mm:Int):=by rw[hMm,Int.natCast_mul]
      have hwr:IntKind.u64.wrap ((n:Int)*(L:Int))=(Mm:Int):=by rw[hmul,IntKind.wrap_u64];omega
      have hfp0:(f:Int)+(p:Int)<5:=by omega
      have hfp1:(f:Int)+(p:Int)<=4:=by omega
      have hpn:¬ (p:Int)<0:=by omega
      have hnw:n<4294967296:=by omega
      clear hLL hMm hp
      go_wp2_with fail
      refine ⟨⟨bh.extract 1 bh.size,f+p+1,al+Mm,rfl,?_,?_,?_,HB2.out.trans ⟨rfl,rfl,rfl,Nat.le_refl _,fun _ _=>rfl⟩⟩,?_⟩
      ·first|rfl|(congr 1;omega)
      ·first|rfl|(congr 1;omega)
      ·obtain ⟨k,hk,e⟩:=HST.out
       refine ⟨by omega,?_,?_,k,by omega,?_⟩
       ·have:=HI.out.2.1
        simp
        omega
       ·have:=HI.out.2.2.1
        have h9:(f+p+1)*1298801745100800=(f+p)*1298801745100800+1298801745100800:=by rw[Nat.succ_mul]
        have h8:f*1298801745100800<=(f+p)*1298801745100800:=Nat.mul_le_mul_right _ (by omega)
        omega
       ·rw[e,<- HX.out,H8.out.1 (by simp),HAF.out]
        simp only[Option.bind_some]
        rw[HP.out]
        simp only[Option.bind_some]
        rw[<- HLL.out,<- HMm.out]
      ·simp[szS]
       omega
def SecO(o:Option Nat)(w:World)(e:Ending)(w':World):Prop:=
 ∃(n:Nat) (b:Bool),e=.returned (.tuple #[.int .u32 (n:Int),.bool b])/\Hid ((b=true->o=some n)/\(b=false->o=none))/\Hid (Below w.heap.size w w')
theorem seconds_any(s:ByteArray)(hs:s.size<=281474976710656)(w:World)(hE:LayE w)(hL:LayT w):Calls Tryz.prog 30 #[.string s] w (SecO (ttlF s) w):=by
 have KN:=Lib.hid (num31_any s hs w hE)
 have KF:Hid (∀W,Calls Tryz.prog 52 #[.string s] W fun e w'=>e=.returned (.string (foldL s))/\Hid (Below W.heap.size W w')):=fun W=>fold_any s W (by omega)
 have KS:Hid (∀W,Below w.heap.size w W->Calls Tryz.prog 51 #[.string (foldL s)] W (SumO (sumF 6 (nums (foldL s)) 0 0) W)):=fun W hW=>sum_any (foldL s) (by rw[foldL_size];exact hs) W (hE.below hW) (hL.below hW)
 have HT:Hid (∀n,num31 (nums s)=some n->ttlF s=some n):=fun n h=>by unfold ttlF;rw[h]
 have HT2:Hid (num31 (nums s)=none->ttlF s=(sumF 6 (nums (foldL s)) 0 0).bind fun p=>if 0<p.1/\p.2<2147483648 then some p.2 else none):=fun h=>by unfold ttlF;rw[h]
 clear hE hL hs
 generalize foldL s=fs at*
 generalize ttlF s=tf at*
 go_enter Tryz.func30,Tryz.ntmps30
 go_wp2_with fail
 refine KN.out.mono ?_
 rintro e w1 ⟨n,b,rfl,Hn,H8,HB⟩
 clear KN
 cases b with
 |true=>
  have HR:Hid (tf=some n):=HT.out n (H8.out.1 rfl)
  clear H8 HT HT2 Hn
  go_wp2_with fail
  go_ret2
  exact ⟨n,true,rfl,⟨fun _=>HR.out,fun h=>by (cases h)⟩,HB.out⟩
 |false=>
  have HR:=Lib.hid (HT2.out (H8.out.2 rfl))
  clear H8 HT HT2 Hn
  go_wp2_with fail
  refine (KF.out _).mono ?_
  rintro e w2 ⟨rfl,H2⟩
  have HB2:Hid (Below w.heap.size w w2):=HB.out.trans (H2.out.mono HB.out.size)
  clear KF H2 HB
  go_wp2_with fail
  refine (KS.out _ HB2.out).mono ?_
  rintro e w3 ⟨m,b,rfl,H9,H3⟩
  have HB3:Hid (Below w.heap.size w w3):=HB2.out.trans (H3.out.mono HB2.out.size)
  clear KS H3 HB2
  go_wp2_with fail
  go_ret2
  exact ⟨m,b,rfl,⟨fun h=>by rw[HR.out];exact H9.out.1 h,fun h=>by rw[HR.out];exact H9.out.2 h⟩,HB3.out⟩
def TtO(o:Option Nat)(w:World)(e:Ending)(w':World):Prop:=
 ∃(n:Nat) (er:Int),e=.returned (.tuple #[.int .u32 (n:Int),.int .i64 er])/\Hid ((er=0/\o=some n)∨(er=240/\o=none/\n=0))/\Hid (Below w.heap.size w w')
theorem ttl_any(s:ByteArray)(hs:s.size<=281474976710656)(w:World)(hE:LayE w)(hL:LayT w):Calls Tryz.prog 16 #[.string s] w (TtO (ttlF s) w):=by
 have K:=Lib.hid (seconds_any s hs w hE hL)
 clear hE hL hs
 generalize ttlF s=tf at*
 go_enter Tryz.func16,Tryz.ntmps16
 go_wp2_with fail
 refine K.out.mono ?_
 rintro e w1 ⟨n,b,rfl,H8,HB⟩
 clear K
 cases b with
 |true=>
  have HR:=Lib.hid (H8.out.1 rfl)
  clear H8
  go_wp2_with fail
  go_ret2
  exact ⟨n,0,rfl,.inl ⟨rfl,HR.out⟩,HB.out⟩
 |false=>
  have HR:=Lib.hid (H8.out.2 rfl)
  clear H8
  go_wp2_with fail
  go_ret2
  exact ⟨0,240,rfl,.inr ⟨rfl,HR.out,rfl⟩,HB.out⟩
structure Ws(w:World)(x:Sl)(ws:List Wd):Prop where
 n:x.n=ws.length
 c:ws.length<=x.c
 c63:x.c<=9223372036854775807
 rd:RdW w x.a ws
 wb:WB ws
theorem Ws.below{w w':World}{x:Sl}{ws:List Wd}(h:Ws w x ws)(hb:Below w.heap.size w w'):Ws w' x ws:=⟨h.n,h.c,h.c63,h.rd.below hb,h.wb⟩
abbrev enV(x:Sl)(e:En):Value:=.agg #[.int .i64 e.line,.bool e.blank,.slice x.a x.n x.c]
theorem opn_size(e:En)(h:WB e.ws):(opnF e).size<=1000000:=by
 unfold opnF
 split
 ·exact Nat.zero_le _
 ·split
  ·rename_i s r hs
   exact h.2 (s,false) (by rw[hs];simp)
  ·exact Nat.zero_le _
theorem opening_any(x:Sl)(e:En)(w:World)(h:Ws w x e.ws):Calls Tryz.prog 63 #[enV x e] w fun r w'=>r=.returned (.string (opnF e))/\Hid (Below w.heap.size w w'):=by
 obtain ⟨ln,bl,ws⟩:=e
 obtain ⟨a,n,c⟩:=x
 have HN:Hid (n=ws.length):=h.n
 have hrd:RdW w a ws:=h.rd
 have HB:Hid (Below w.heap.size w (w.alloc (.cells #[.int .i64 ln,.bool bl,.slice a n c] 75))):=(Below.refl _ _).alloc (Nat.le_refl _) _
 clear h
 cases bl with
 |true=>
  have HO:Hid (opnF ⟨ln,true,ws⟩=⟨#[]⟩):=rfl
  rw[HO.out]
  go_enter Tryz.func63,Tryz.ntmps63
  go_wp2_with fail
  go_ret
  exact ⟨rfl,HB.out⟩
 |false=>
  cases ws with
  |nil=>
   have HO:Hid (opnF ⟨ln,false,[]⟩=⟨#[]⟩):=rfl
   rw[HO.out]
   have hn:n=0:=HN.out
   subst hn
   go_enter Tryz.func63,Tryz.ntmps63
   go_wp2_with fail
   go_ret
   exact ⟨rfl,HB.out⟩
  |cons p r=>
   obtain ⟨s,q⟩:=p
   obtain ⟨b,o,rfl,hb,c1,c2,-⟩:=hrd.head
   have hn0:¬ (n:Int)=0:=by have:=HN.out;simp at this;omega
   have hn1:((n:Int) == 0)=false:=by rw[beq_eq_false_iff_ne];exact hn0
   have hn2:(0:Int)<(n:Int):=by omega
   have hne:¬ w.heap.size=b:=by omega
   have hne2:¬ b=w.heap.size:=by omega
   clear hrd
   cases q with
   |true=>
    have HO:Hid (opnF ⟨ln,false,(s,true)::r⟩=⟨#[]⟩):=rfl
    rw[HO.out]
    go_enter Tryz.func63,Tryz.ntmps63
    go_wp2_with fail
    go_ret
    exact ⟨rfl,HB.out⟩
   |false=>
    have HO:Hid (opnF ⟨ln,false,(s,false)::r⟩=s):=rfl
    rw[HO.out]
    go_enter Tryz.func63,Tryz.ntmps63
    go_wp2_with fail
    go_ret
    exact ⟨rfl,HB.out⟩
theorem cmdword_any(x:Sl)(e:En)(w:World)(h:Ws w x e.ws):Calls Tryz.prog 36 #[enV x e] w fun r w'=>r=.returned (.string (foldL (opnF e)))/\Hid (Below w.heap.size w w'):=by
 have HB:Hid (Below w.heap.size w (w.alloc (.cells #[.int .i64 e.line,.bool e.blank,.slice x.a x.n x.c] 75))):=(Below.refl _ _).alloc (Nat.le_refl _) _
 have KO:=Lib.hid (opening_any x e _ (h.below HB.out))
 have KF:=Lib.hid (fun W=>fold_any (opnF e) W (by have:=opn_size e h.wb;omega))
 obtain ⟨F,hF⟩:∃F,foldL (opnF e)=F:=⟨_,rfl⟩
 have e1:(⟨(txt ((nums (opnF e)).map fz)).toArray⟩:ByteArray)=F:=hF
 rw[e1] at KF
 rw[hF]
 clear hF e1 h
 generalize opnF e=op at*
 obtain ⟨ln,bl,ws⟩:=e
 go_enter Tryz.func36,Tryz.ntmps36
 go_wp2_with fail
 refine KO.out.mono ?_
 rintro e w1 ⟨rfl,H1⟩
 have HB1:Hid (Below w.heap.size w w1):=HB.out.trans (H1.out.mono HB.out.size)
 clear KO H1
 go_wp2_with fail
 refine (KF.out _).mono ?_
 rintro e w2 ⟨rfl,H2⟩
 have HB2:Hid (Below w.heap.size w w2):=HB1.out.trans (H2.out.mono HB1.out.size)
 clear KF H2
 go_wp2_with fail
 go_ret
 exact ⟨rfl,HB2.out⟩
theorem pre_marked(e:En):Lib.hasPrefix (opnF e).data.toList [36]=marked e:=by
 unfold marked Lib.hasPrefix
 rw[nums_bi]
 generalize (opnF e).data.toList=l
 cases l with
 |nil=>rfl
 |cons c r=>
  rw[bi_cons]
  simp only[List.isPrefixOf,Bool.and_true,List.head?_cons]
  by_cases h:c=36
  ·subst h;rfl
  ·have h2:¬ ((c.toNat:Int)=36):=fun e=>h (u8i e)
   have h3:((36:UInt8) == c)=false:=by rw[beq_eq_false_iff_ne];exact fun e=>h e.symm
   rw[h3]
   symm
   rw[beq_eq_false_iff_ne]
   intro e
   injection e with e
   exact h2 e
theorem marked_any(x:Sl)(e:En)(w:World)(h:Ws w x e.ws):Calls Tryz.prog 86 #[enV x e] w fun r w'=>r=.returned (.bool (marked e))/\Hid (Below w.heap.size w w'):=by
 have HB:Hid (Below w.heap.size w (w.alloc (.cells #[.int .i64 e.line,.bool e.blank,.slice x.a x.n x.c] 75))):=(Below.refl _ _).alloc (Nat.le_refl _) _
 have KO:=Lib.hid (opening_any x e _ (h.below HB.out))
 have KP:=Lib.hid (fun W=>Tryz.strings_HasPrefix (opnF e) ⟨#[36]⟩ W)
 rw[pre_marked e] at KP
 clear h
 generalize opnF e=op at*
 generalize marked e=mk at*
 obtain ⟨ln,bl,ws⟩:=e
 go_enter Tryz.func86,Tryz.ntmps86
 go_wp2_with fail
 refine KO.out.mono ?_
 rintro e w1 ⟨rfl,H1⟩
 have HB1:Hid (Below w.heap.size w w1):=HB.out.trans (H1.out.mono HB.out.size)
 clear KO H1
 go_wp2_with fail
 refine (KP.out _).mono ?_
 rintro e w2 ⟨rfl,hw⟩
 subst w2
 clear KP
 go_wp2_with fail
 go_ret
 exact ⟨rfl,HB1.out⟩
theorem isT_nil{s:ByteArray}(h:s.data.toList=[]):isT s=false:=by
 unfold isT
 rw[nums_bi,h];rfl
theorem isT_at{s:ByteArray}(h:0<s.size):isT s=xdig (s[0].toNat:Int):=by
 unfold isT
 have:=nums_from s 0 h
 rw[List.drop_zero] at this
 rw[this]
theorem isT_any(s:ByteArray)(w:World):Calls Tryz.prog 130 #[.string s] w fun e w'=>e=.returned (.bool (isT s))/\w'=w:=by
 by_cases h0:s.data.toList=[]
 ·have e:=ba_nil h0
  rw[isT_nil h0]
  subst e
  go_enter Tryz.func130,Tryz.ntmps130
  go_wp2_with fail
  go_ret
  exact ⟨rfl,rfl⟩
 ·have hne:(s.toList == [])=false:=by rw[beq_eq_false_iff_ne,Lib.toList_data];exact h0
  have h1:0<s.size:=by have:=size_ne h0;omega
  have h1':(0:Int)<(s.size:Int):=by omega
  rw[isT_at h1]
  clear h0
  by_cases ha:48<=s[0].toNat
  ·have ha':(48:Int)<=(s[0].toNat:Int):=by omega
   by_cases hb:s[0].toNat<=57
   ·have hb':(s[0].toNat:Int)<=57:=by omega
    have e:xdig (s[0].toNat:Int)=true:=by unfold xdig;simp;omega
    rw[e]
    go_enter Tryz.func130,Tryz.ntmps130
    go_wp2_with fail
    go_ret
    exact ⟨rfl,rfl⟩
   ·have hb':¬ (s[0].toNat:Int)<=57:=by omega
    have e:xdig (s[0].toNat:Int)=false:=by unfold xdig;simp;omega
    rw[e]
    go_enter Tryz.func130,Tryz.ntmps130
    go_wp2_with fail
    go_ret
    exact ⟨rfl,rfl⟩
  ·have ha':¬ (48:Int)<=(s[0].toNat:Int):=by omega
   have e:xdig (s[0].toNat:Int)=false:=by unfold xdig;simp;omega
   rw[e]
   go_enter Tryz.func130,Tryz.ntmps130
   go_wp2_with fail
   go_ret
   exact ⟨rfl,rfl⟩
theorem res_err{o:Option Nat}{x y:Int}(h:Res o x y):(o.isSome=true/\y=0/\∃n:Nat,o=some n/\x=n)∨(o.isSome=false/\y=6/\x=0/\o=none):=by
 cases o with
 |none=>exact .inr ⟨rfl,(h.2 rfl).2,(h.2 rfl).1,rfl⟩
 |some n=>exact .inl ⟨rfl,(h.1 n rfl).2,n,rfl,(h.1 n rfl).1⟩
theorem isC_any(s:ByteArray)(hs:s.size<=1000000)(w:World)(hL:LayT w)(hE:LayE w):Calls Tryz.prog 131 #[.string s] w fun e w'=>e=.returned (.bool (isC s))/\Hid (Below w.heap.size w w'):=by
 have KT:Hid (∀W,Below w.heap.size w W->Calls Tryz.prog 147 #[.string s] W fun e w'=>∃x y,e=.returned (.tuple #[.int .u16 x,.int .i64 y])/\Hid (Res (tyF s) x y)/\Hid (Below W.heap.size W w')):=fun W hW=>ptype_any s (by omega) W (hL.below hW) (hE.below hW)
 have HI:Hid (isC s=((clF s).isSome && (tyF s).isNone)):=rfl
 have KC:Hid (Calls Tryz.prog 132 #[.string s] w fun e w'=>∃x y,e=.returned (.tuple #[.int .u16 x,.int .i64 y])/\Hid (Res (clF s) x y)/\Hid (Below w.heap.size w w')):=pclass_any s (by omega) w hL hE
 clear hL hE
 generalize isC s=ic at*
 generalize clF s=oc at*
 generalize tyF s=ot at*
 go_enter Tryz.func131,Tryz.ntmps131
 go_wp2_with fail
 refine KC.out.mono ?_
 rintro e w1 ⟨x,y,rfl,HR,HB⟩
 clear KC
 go_wp2_with fail
 refine (KT.out _ HB.out).mono ?_
 rintro e w2 ⟨x2,y2,rfl,HR2,HB2⟩
 have HB3:Hid (Below w.heap.size w w2):=HB.out.trans (HB2.out.mono HB.out.size)
 clear KT HB HB2
 rcases res_err HR.out with ⟨a1,rfl,-⟩|⟨a1,rfl,-⟩
 ·rcases res_err HR2.out with ⟨a2,rfl,-⟩|⟨a2,rfl,-⟩
  ·have hic:ic=false:=by rw[HI.out,a1];cases ot <;> simp at a2 ⊢
   subst hic
   clear a1 a2 HR HR2 HI
   go_wp2_with fail
   go_ret
   exact ⟨rfl,HB3.out⟩
  ·have hic:ic=true:=by rw[HI.out,a1];cases ot <;> simp at a2 ⊢
   subst hic
   clear a1 a2 HR HR2 HI
   go_wp2_with fail
   go_ret
   exact ⟨rfl,HB3.out⟩
 ·have hic:ic=false:=by rw[HI.out,a1];rfl
  subst hic
  clear a1 HR HR2 HI
  go_wp2_with fail
  go_ret
  exact ⟨rfl,HB3.out⟩
def styF(s:ByteArray):Nat × Int:=match tyF s with
 |some n=>if storedF n then (n,0) else (n,6)
 |none=>(0,6)
theorem stype_any(s:ByteArray)(hs:s.size<=1000000)(w:World)(hL:LayT w)(hE:LayE w):Calls Tryz.prog 133 #[.string s] w fun e w'=>e=.returned (.tuple #[.int .u16 ((styF s).1:Int),.int .i64 (styF s).2])/\Hid (Below w.heap.size w w'):=by
 have KT:Hid (Calls Tryz.prog 147 #[.string s] w fun e w'=>∃x y,e=.returned (.tuple #[.int .u16 x,.int .i64 y])/\Hid (Res (tyF s) x y)/\Hid (Below w.heap.size w w')):=ptype_any s (by omega) w hL hE
 have HI:Hid (∀n,tyF s=some n->styF s=if storedF n then (n,0) else (n,6)):=fun n h=>by unfold styF;rw[h]
 have HI2:Hid (tyF s=none->styF s=(0,6)):=fun h=>by unfold styF;rw[h]
 clear hL hE
 generalize tyF s=ot at*
 generalize styF s=st at*
 go_enter Tryz.func133,Tryz.ntmps133
 go_wp2_with fail
 refine KT.out.mono ?_
 rintro e w2 ⟨x2,y2,rfl,HR2,HB2⟩
 clear KT
 rcases res_err HR2.out with ⟨a2,rfl,n,hn,rfl⟩|⟨a2,rfl,rfl,hn⟩
 ·have hs:=HI.out n hn
  have KS:=Lib.hid (fun W=>stored_any (n:Int) W)
  cases hst:storedF (n:Int) with
  |true=>
   rw[hst] at hs KS
   simp only[if_true] at hs
   subst hs
   clear HI HI2 HR2 a2 hn hst
   go_wp2_with fail
   refine (KS.out _).mono ?_
   rintro e W ⟨rfl,rfl⟩
   go_wp2_with fail
   go_ret2
   exact ⟨rfl,HB2.out⟩
  |false=>
   rw[hst] at hs KS
   simp only[Bool.false_eq_true,if_false] at hs
   subst hs
   clear HI HI2 HR2 a2 hn hst
   go_wp2_with fail
   refine (KS.out _).mono ?_
   rintro e W ⟨rfl,rfl⟩
   go_wp2_with fail
   go_ret2
   exact ⟨rfl,HB2.out⟩
 ·have hs:=HI2.out hn
  subst hs
  clear HI HI2 HR2 a2 hn
  go_wp2_with fail
  go_ret2
  exact ⟨rfl,HB2.out⟩
def SyB(w:World)(b:Nat)(y:Say):Prop:=w.heap[b]?=some (.cells #[.int .u16 (y.k:Int),.int .u16 (y.c:Int),.int .u32 (y.t:Int),.bool y.hk,.bool y.hc,.bool y.ht] 143 (0,0))
theorem SyB.lt{w:World}{b:Nat}{y:Say}(h:SyB w b y):b<w.heap.size:=(Array.getElem?_eq_some_iff.1 h).1
theorem SyB.c0{w:World}{b:Nat}{y:Say}(h:SyB w b y):w.cell? ⟨b,0,none⟩=some (.int .u16 (y.k:Int)):=by unfold World.cell?;rw[show w.heap[b]?=_ from h];rfl
theorem SyB.c1{w:World}{b:Nat}{y:Say}(h:SyB w b y):w.cell? ⟨b,1,none⟩=some (.int .u16 (y.c:Int)):=by unfold World.cell?;rw[show w.heap[b]?=_ from h];rfl
theorem SyB.c2{w:World}{b:Nat}{y:Say}(h:SyB w b y):w.cell? ⟨b,2,none⟩=some (.int .u32 (y.t:Int)):=by unfold World.cell?;rw[show w.heap[b]?=_ from h];rfl
theorem SyB.c3{w:World}{b:Nat}{y:Say}(h:SyB w b y):w.cell? ⟨b,3,none⟩=some (.bool y.hk):=by unfold World.cell?;rw[show w.heap[b]?=_ from h];rfl
theorem SyB.c4{w:World}{b:Nat}{y:Say}(h:SyB w b y):w.cell? ⟨b,4,none⟩=some (.bool y.hc):=by unfold World.cell?;rw[show w.heap[b]?=_ from h];rfl
theorem SyB.c5{w:World}{b:Nat}{y:Say}(h:SyB w b y):w.cell? ⟨b,5,none⟩=some (.bool y.ht):=by unfold World.cell?;rw[show w.heap[b]?=_ from h];rfl
theorem SyB.fz{w:World}{b:Nat}{y:Say}(h:SyB w b y)(i:Nat):w.frozen? ⟨b,i,none⟩=false:=by
 unfold World.frozen?
 rw[show w.heap[b]?=_ from h]
 simp
theorem SyB.set0{w:World}{b:Nat}{y:Say}(h:SyB w b y)(n:Nat):SyB (w.setCell ⟨b,0,none⟩ (.int .u16 (n:Int))) b { y with k:=n }:=by
 have:=heap_set h 0 (.int .u16 (n:Int));simpa [SyB] using this
theorem SyB.set1{w:World}{b:Nat}{y:Say}(h:SyB w b y)(n:Nat):SyB (w.setCell ⟨b,1,none⟩ (.int .u16 (n:Int))) b { y with c:=n }:=by
 have:=heap_set h 1 (.int .u16 (n:Int));simpa [SyB] using this
theorem SyB.set2{w:World}{b:Nat}{y:Say}(h:SyB w b y)(n:Nat):SyB (w.setCell ⟨b,2,none⟩ (.int .u32 (n:Int))) b { y with t:=n }:=by
 have:=heap_set h 2 (.int .u32 (n:Int));simpa [SyB] using this
theorem SyB.set3{w:World}{b:Nat}{y:Say}(h:SyB w b y)(q:Bool):SyB (w.setCell ⟨b,3,none⟩ (.bool q)) b { y with hk:=q }:=by
 have:=heap_set h 3 (.bool q);simpa [SyB] using this
theorem SyB.set4{w:World}{b:Nat}{y:Say}(h:SyB w b y)(q:Bool):SyB (w.setCell ⟨b,4,none⟩ (.bool q)) b { y with hc:=q }:=by
 have:=heap_set h 4 (.bool q);simpa [SyB] using this
theorem SyB.set5{w:World}{b:Nat}{y:Say}(h:SyB w b y)(q:Bool):SyB (w.setCell ⟨b,5,none⟩ (.bool q)) b { y with ht:=q }:=by
 have:=heap_set h 5 (.bool q);simpa [SyB] using this
structure TS(w0 w1 w:World)(b bx:Nat)(y:Say)(s:ByteArray)(q:Bool):Prop where
 sy:SyB w b y
 bxh:w.heap[bx]?=some (.cells #[.string s,.bool q] 77 (0,0))
 bel:Below w0.heap.size w0 w
 bb:Below b w1 w
 hb:w0.heap.size<=b
 hx:b≠bx
theorem TS.b0{w0 w1 w:World}{b bx:Nat}{y:Say}{s:ByteArray}{q:Bool}(h:TS w0 w1 w b bx y s q):w.cell? ⟨bx,0,none⟩=some (.string s):=by unfold World.cell?;rw[h.bxh];rfl
theorem TS.b1{w0 w1 w:World}{b bx:Nat}{y:Say}{s:ByteArray}{q:Bool}(h:TS w0 w1 w b bx y s q):w.cell? ⟨bx,1,none⟩=some (.bool q):=by unfold World.cell?;rw[h.bxh];rfl
theorem TS.step{w0 w1 w w':World}{b bx:Nat}{y:Say}{s:ByteArray}{q:Bool}(h:TS w0 w1 w b bx y s q)(hb:Below w.heap.size w w'):TS w0 w1 w' b bx y s q:=
 ⟨(hb.block _ h.sy.lt).trans h.sy,(hb.block _ (Array.getElem?_eq_some_iff.1 h.bxh).1).trans h.bxh,h.bel.trans (hb.mono h.bel.size),h.bb.trans (hb.mono (Nat.le_of_lt h.sy.lt)),h.hb,h.hx⟩
theorem TS.set{w0 w1 w:World}{b bx:Nat}{y y':Say}{s:ByteArray}{q:Bool}(h:TS w0 w1 w b bx y s q){i:Nat}{v:Value}(hs:SyB (w.setCell ⟨b,i,none⟩ v) b y'):TS w0 w1 (w.setCell ⟨b,i,none⟩ v) b bx y' s q:=
 ⟨hs,(Below.heap_setCell _ _ _ bx (by show bx≠b;exact fun e=>h.hx e.symm)).trans h.bxh,h.bel.setCell (p:=⟨b,i,none⟩) h.hb _,h.bb.setCell (p:=⟨b,i,none⟩) (Nat.le_refl _) _,h.hb,h.hx⟩
theorem set_al(w:World)(b i:Nat)(v:Value)(o:Obj)(hb:b<w.heap.size):(w.alloc o).setCell ⟨b,i,none⟩ v=(w.setCell ⟨b,i,none⟩ v).alloc o:=by
 first
 |exact World.setCell_alloc_past _ _ _ _ hb
 |simp[hb]
def TakP(b:Nat)(r:Except Int Say)(w:World)(e:Ending)(w':World):Prop:=
 ∃er:Int,e=.returned (.int .i64 er)/\Hid (Below b w w')/\Hid ((er=0/\∃y',r=.ok y'/\SyB w' b y')∨(er≠0/\r=.error er/\∃y',SyB w' b y'))
theorem sty_cases(s:ByteArray):(styF s).2=0∨(styF s).2=6:=by
 unfold styF
 split
 ·split
  ·exact .inl rfl
  ·exact .inr rfl
 ·exact .inr rfl
theorem tk_eq(y:Say)(s:ByteArray):tkF y (s,false)=if (y.ht && isT s)=true then .error 240 else if (y.hc && isC s)=true then .error 240 else if isT s=true then (match ttlF s with|some n=>.ok { y with t:=n,ht:=true }|none=>.error 240)
  else if isC s=true then (match clF s with|some n=>.ok { y with c:=n,hc:=true }|none=>.error 6) else if (styF s).2=0 then .ok { y with k:=(styF s).1,hk:=true } else .error 6:=by
 unfold tkF
 simp only[Bool.false_eq_true,if_false]
 split
 ·rfl
 split
 ·rfl
 split
 ·rfl
 split
 ·rfl
 unfold styF
 cases tyF s with
 |none=>simp
 |some n=>
  simp only
  cases h:storedF (n:Int) <;> simp
theorem take_any (w0 w : World) (b : Nat) (y : Say) (s : ByteArray) (q : Bool) (hy : SyB w b y) (hb0 : w0.heap.size <= b) (h0 : Below w0.heap.size w0 w) (hs : s.size <= 1000000) (hL : LayT w0) (hE : LayE w0) :
    Calls Tryz.prog 109 #[.pointer (some ⟨b, 0, none⟩), .agg #[.string s, .bool q]] w (TakP b (tkF y (s, q)) w) := by
  have HBX : Hid (Below w.heap.size w (w.alloc (.cells #[.string s, .bool q] 77))) := (Below.refl _ _).alloc (Nat.le_refl _) _
  have HS : Hid (TS w0 w (w.alloc (.cells #[.string s, .bool q] 77)) b w.heap.size y s q) := ⟨(HBX.out.block _ hy.lt).trans hy, heap_alloc_new _ _, h0.trans (HBX.out.mono h0.size), HBX.out.mono (Nat.le_of_lt hy.lt), hb0, by have := hy.lt; omega⟩
  obtain ⟨k, c, t, hk, hc, ht⟩ := y
  have hne : ¬ w.heap.size = b := by have := hy.lt; omega
  have hne2 : ¬ b = w.heap.size := fun e => hne e.symm
  have hlt := hy.lt
  cases q with
  | true =>
    have HR : Hid (tkF ⟨k, c, t, hk, hc, ht⟩ (s, true) = .error 240) := rfl
    rw [HR.out]
    clear hy h0 hL hE
    go_enter Tryz.func109, Tryz.ntmps109
    go_wp2_with fail
    go_ret
    exact ⟨240, rfl, HS.out.bb, .inr ⟨by decide, rfl, _, HS.out.sy⟩⟩
  | false =>
    have KT : Hid (∀ W, Calls Tryz.prog 130 #[.string s] W fun e w' => e = .returned (.bool (isT s)) /\ w' = W) := fun W => isT_any s W
    have KC : Hid (∀ W, Below w0.heap.size w0 W -> Calls Tryz.prog 131 #[.string s] W fun e w' => e = .returned (.bool (isC s)) /\ Hid (Below W.heap.size W w')) := fun W hW => isC_any s hs W (hL.below hW) (hE.below hW)
    have KS : Hid (∀ W, Below w0.heap.size w0 W -> Calls Tryz.prog 16 #[.string s] W (TtO (ttlF s) W)) := fun W hW => ttl_any s (by omega) W (hE.below hW) (hL.below hW)
    have KP : Hid (∀ W, Below w0.heap.size w0 W -> Calls Tryz.prog 132 #[.string s] W fun e w' => ∃ x y, e = .returned (.tuple #[.int .u16 x, .int .i64 y]) /\ Hid (Res (clF s) x y) /\ Hid (Below W.heap.size W w')) := fun W hW => pclass_any s (by omega) W (hL.below hW) (hE.below hW)
    have KY : Hid (∀ W, Below w0.heap.size w0 W -> Calls Tryz.prog 133 #[.string s] W fun e w' => e = .returned (.tuple #[.int .u16 ((styF s).1 : Int), .int .i64 (styF s).2]) /\ Hid (Below W.heap.size W w')) := fun W hW => stype_any s hs W (hL.below hW) (hE.below hW)
    have HY := Lib.hid (sty_cases s)
    have HR := Lib.hid (tk_eq ⟨k, c, t, hk, hc, ht⟩ s)
    clear hy h0 hL hE
    generalize tkF ⟨k, c, t, hk, hc, ht⟩ (s, false) = R at *
    generalize isT s = tT at *
    generalize isC s = cC at *
    generalize ttlF s = ot at *
    generalize clF s = oc at *
    generalize (styF s).1 = sy1 at *
    generalize (styF s).2 = sy2 at *
    cases ht <;> cases hc <;> cases tT <;> cases cC
    all_goals
      have k3 := HS.out.sy.c3
      have k4 := HS.out.sy.c4
      have k5 := HS.out.sy.c5
      dsimp only at k3 k4 k5
      have x0 := HS.out.b0
      have x1 := HS.out.b1
      have f0 := HS.out.sy.fz 0
      have f1 := HS.out.sy.fz 1
      have f2 := HS.out.sy.fz 2
      have f3 := HS.out.sy.fz 3
      have f4 := HS.out.sy.fz 4
      have f5 := HS.out.sy.fz 5
      go_enter Tryz.func109, Tryz.ntmps109
      go_wp2_with (first | (go_at_call 130; refine (KT.out _).mono ?_; rintro e W ⟨rfl, rfl⟩) | (go_at_call 131; refine (KC.out _ HS.out.bel).mono ?_; rintro e w1 ⟨rfl, H1⟩; have HS := Lib.hid (HS.out.step H1.out); have k3 := HS.out.sy.c3; have k4 := HS.out.sy.c4; have k5 := HS.out.sy.c5; dsimp only at k3 k4 k5; have x0 := HS.out.b0; have x1 := HS.out.b1; have f0 := HS.out.sy.fz 0; have f1 := HS.out.sy.fz 1; have f2 := HS.out.sy.fz 2; have f3 := HS.out.sy.fz 3; have f4 := HS.out.sy.fz 4; have f5 := HS.out.sy.fz 5))
      first
      | (go_ret
         exact ⟨240, rfl, HS.out.bb, .inr ⟨by decide, by rw [HR.out]; rfl, _, HS.out.sy⟩⟩)
      | (have HS5 := Lib.hid (HS.out.set (HS.out.sy.set3 true))
         refine (KY.out _ HS5.out.bel).mono ?_
         rintro e w2 ⟨rfl, H2⟩
         have HS := Lib.hid (HS5.out.step H2.out)
         have f0 := HS.out.sy.fz 0
         have g0 := HS.out.sy.c0
         have HS7 := Lib.hid (HS.out.set (HS.out.sy.set0 sy1))
         go_wp2_with fail
         go_ret
         refine ⟨sy2, rfl, HS7.out.bb, ?_⟩
         rcases HY.out with h | h
         · exact .inl ⟨h, _, by rw [HR.out]; simp [h], HS7.out.sy⟩
         · exact .inr ⟨by omega, by rw [HR.out]; simp [h], _, HS7.out.sy⟩)
      | (have HS5 := Lib.hid (HS.out.set (HS.out.sy.set4 true))
         refine (KP.out _ HS5.out.bel).mono ?_
         rintro e w2 ⟨x, er, rfl, H8, H2⟩
         have HS := Lib.hid (HS5.out.step H2.out)
         have f1 := HS.out.sy.fz 1
         have g1 := HS.out.sy.c1
         rcases res_err H8.out with ⟨-, rfl, n, h, rfl⟩ | ⟨-, rfl, rfl, h⟩
         · have HO := Lib.hid h
           clear h H8
           have HS7 := Lib.hid (HS.out.set (HS.out.sy.set1 n))
           go_wp2_with fail
           go_ret
           exact ⟨0, rfl, HS7.out.bb, .inl ⟨rfl, _, by rw [HR.out, HO.out]; rfl, HS7.out.sy⟩⟩
         · have HO := Lib.hid h
           clear h H8
           have HS7 := Lib.hid (HS.out.set (HS.out.sy.set1 0))
           go_wp2_with fail
           go_ret
           exact ⟨6, rfl, HS7.out.bb, .inr ⟨by decide, by rw [HR.out, HO.out]; rfl, _, HS7.out.sy⟩⟩)
      | (have HS5 := Lib.hid (HS.out.set (HS.out.sy.set5 true))
         refine (KS.out _ HS5.out.bel).mono ?_
         rintro e w2 ⟨n, er, rfl, H8, H2⟩
         have HS := Lib.hid (HS5.out.step H2.out)
         have f2 := HS.out.sy.fz 2
         have g2 := HS.out.sy.c2
         have HS7 := Lib.hid (HS.out.set (HS.out.sy.set2 n))
         go_wp2_with fail
         go_ret
         refine ⟨er, rfl, HS7.out.bb, ?_⟩
         rcases H8.out with ⟨rfl, h⟩ | ⟨rfl, h, -⟩
         · exact .inl ⟨rfl, _, by rw [HR.out, h]; rfl, HS7.out.sy⟩
         · exact .inr ⟨by decide, by rw [HR.out, h]; rfl, _, HS7.out.sy⟩)
      | (have HS5 : Hid (TS w0 w ((w.setCell ⟨b, 5, none⟩ (.bool true)).alloc (.cells #[.string s, .bool false] 77)) b w.heap.size ⟨k, c, t, hk, false, true⟩ s false) := by rw [<- set_al w b 5 (.bool true) _ hlt]; exact HS.out.set (HS.out.sy.set5 true)
         refine (KS.out _ HS5.out.bel).mono ?_
         rintro e w2 ⟨n, er, rfl, H8, H2⟩
         have HS := Lib.hid (HS5.out.step H2.out)
         have f2 := HS.out.sy.fz 2
         have g2 := HS.out.sy.c2
         have HS7 := Lib.hid (HS.out.set (HS.out.sy.set2 n))
         go_wp2_with fail
         go_ret
         refine ⟨er, rfl, HS7.out.bb, ?_⟩
         rcases H8.out with ⟨rfl, h⟩ | ⟨rfl, h, -⟩
         · exact .inl ⟨rfl, _, by rw [HR.out, h]; rfl, HS7.out.sy⟩
         · exact .inr ⟨by decide, by rw [HR.out, h]; rfl, _, HS7.out.sy⟩)
abbrev syV(y:Say):Value:=.agg #[.int .u16 (y.k:Int),.int .u16 (y.c:Int),.int .u32 (y.t:Int),.bool y.hk,.bool y.hc,.bool y.ht]
def SayP(r:Except Int (Say × List Wd))(w:World)(e:Ending)(w':World):Prop:=
 ∃(y:Say) (x:Sl) (er:Int),e=.returned (.tuple #[syV y,.slice x.a x.n x.c,.int .i64 er])/\Hid (Below w.heap.size w w')/\Hid ((er=0/\∃r',r=.ok (y,r')/\Ws w' x r')∨(er≠0/\r=.error er))
theorem SyB.drew{w:World}{b:Nat}{y:Say}(h:SyB w b y):SyB w.drew b y:=h
theorem syb_new(w:World):SyB (w.alloc (.cells #[.int .u16 0,.int .u16 0,.int .u32 0,.bool false,.bool false,.bool false] 143)) w.heap.size say0:=heap_alloc_new _ _
theorem says_cons(y:Say)(w:Wd)(r:List Wd):saysF y (w::r)=match tkF y w with
  | .error e=>.error e
  | .ok y'=>if y'.hk then .ok (y',r) else saysF y' r:=rfl
theorem RdW.atk{w:World}{b o:Nat}{ws:List Wd}(h:RdW w (some ⟨b,o,none⟩) ws)(k:Nat)(hk:k<ws.length):b<w.heap.size/\w.cell? ⟨b,o+k*2,none⟩=some (.string ws[k].1)/\w.cell? ⟨b,o+k*2+1,none⟩=some (.bool ws[k].2):=by
 rcases h with h|⟨b',o',e,hb,h3⟩
 ·subst h;simp at hk
 ·injection e with e
  injection e with e1 e2
  subst e1;subst e2
  have:=h3 k hk
  rw[Nat.mul_comm 2 k] at this
  exact ⟨hb,this.1,this.2⟩
theorem RdW.from{w:World}{b o:Nat}{ws:List Wd}(h:RdW w (some ⟨b,o,none⟩) ws)(k:Nat):RdW w (some ⟨b,o+k*2,none⟩) (ws.drop k):=by
 rcases h with h|⟨b',o',e,hb,h3⟩
 ·subst h;exact .inl (by simp)
 ·injection e with e
  injection e with e1 e2
  subst e1;subst e2
  refine .inr ⟨b,o+k*2,rfl,hb,fun i hi=>?_⟩
  have hi':k+i<ws.length:=by simp at hi;omega
  have:=h3 (k+i) hi'
  rw[show o+2*(k+i)=o+k*2+2*i by omega] at this
  simpa using this
theorem WB.drop{ws:List Wd}(h:WB ws)(k:Nat):WB (ws.drop k):=⟨by have:=h.1;simp;omega,fun p hp=>h.2 p (List.mem_of_mem_drop hp)⟩
theorem says_any(x:Sl)(ws:List Wd)(w:World)(h:Ws w x ws)(hL:LayT w)(hE:LayE w):Calls Tryz.prog 88 #[.slice x.a x.n x.c] w (SayP (saysF say0 ws) w):=by
 obtain ⟨a,n,c⟩:=x
 have hn:n=ws.length:=h.n
 have hc:ws.length<=c:=h.c
 have h63:c<=9223372036854775807:=h.c63
 have hrd:RdW w a ws:=h.rd
 have HWB:Hid (WB ws):=h.wb
 have HE:Hid (LayT w/\LayE w):=⟨hL,hE⟩
 have HA:Hid (ws=[]∨∃b o,a=some ⟨b,o,none⟩):=by
  rcases hrd with h|⟨b,o,e,-,-⟩
  ·exact .inl h
  ·exact .inr ⟨b,o,e⟩
 have HRD:Hid (RdW w a ws):=hrd
 clear h hL hE hrd
 rw[<- hn] at hc
 have HN:Hid (ws.length=n):=hn.symm
 clear hn
 have HN5:Hid (n<=500):=by have:=HWB.out.1;have:=HN.out;show _<=_;omega
 have hn5:=HN5.out
 have HW2:Hid (SyB ((w.alloc (.cells #[.int .u16 0,.int .u16 0,.int .u32 0,.bool false,.bool false,.bool false] 143)).alloc (.cells #[.int .u16 0,.int .u16 0,.int .u32 0,.bool false,.bool false,.bool false] 143)) w.heap.size say0/\SyB ((w.alloc (.cells #[.int .u16 0,.int .u16 0,.int .u32 0,.bool false,.bool false,.bool false] 143)).alloc (.cells #[.int .u16 0,.int .u16 0,.int .u32 0,.bool false,.bool false,.bool false] 143)) (w.heap.size+1) say0/\Below w.heap.size w ((w.alloc (.cells #[.int .u16 0,.int .u16 0,.int .u32 0,.bool false,.bool false,.bool false] 143)).alloc (.cells #[.int .u16 0,.int .u16 0,.int .u32 0,.bool false,.bool false,.bool false] 143))):=by
  have h1:=syb_new (w.alloc (.cells #[.int .u16 0,.int .u16 0,.int .u32 0,.bool false,.bool false,.bool false] 143))
  rw[World.size_alloc] at h1
  refine ⟨((new_below _ _).block _ (by simp)).trans (syb_new w),h1,(new_below w _).trans ((new_below _ _).mono (by simp))⟩
 go_enter Tryz.func88,Tryz.ntmps88
 go_wp2_with fail
 go_loopw [11] (fun vk wr=>∃k:Nat,k<=n/\vk=.int .i64 (k:Int)/\Hid (∃y:Say,y.hk=false/\saysF say0 ws=saysF y (ws.drop k)/\SyB wr w.heap.size say0/\SyB wr (w.heap.size+1) y/\Below w.heap.size w wr)) (fun vk _=>n - (intOf vk).toNat)
 case atStart=>exact ⟨0,Nat.zero_le _,rfl,say0,rfl,rfl,HW2.out.1,HW2.out.2.1,HW2.out.2.2⟩
 case round=>
  obtain ⟨k,hk,rfl,HW⟩:=hrel
  obtain ⟨y,hy0,hy1,hr,hy,hb⟩:=HW.out
  clear HW
  have HRB:Hid (SyB wr w.heap.size say0):=hr
  have HB:Hid (Below w.heap.size w wr):=hb
  have hws:=hr.lt
  have hys:=hy.lt
  by_cases hlt:k<n
  ·have hlt':(k:Int)<(n:Int):=by omega
   have hkw:k<ws.length:=by rw[HN.out];exact hlt
   obtain ⟨b0,o,rfl⟩:∃b o,a=some ⟨b,o,none⟩:=by
    rcases HA.out with h|h
    ·subst h;simp at hkw
    ·exact h
   obtain ⟨hb0,q1,q2⟩:=HRD.out.atk k hkw
   have q1':=(hb.cell (p:=⟨b0,o+k*2,none⟩) hb0).trans q1
   have q2':=(hb.cell (p:=⟨b0,o+k*2+1,none⟩) hb0).trans q2
   have hdrop:ws.drop k=ws[k]::ws.drop (k+1):=List.drop_eq_getElem_cons hkw
   have hsz:=HWB.out.2 ws[k] (List.getElem_mem hkw)
   rw[hdrop] at hy1
   clear q1 q2 hdrop
   generalize ws[k]=wd at*
   obtain ⟨s,q⟩:=wd
   simp only at q1' q2' hsz
   have HBA:Hid (Below w.heap.size w (wr.alloc (.cells #[.string s,.bool q] 77))):=hb.trans ((new_below wr _).mono hb.size)
   have HRB2:Hid (SyB (wr.alloc (.cells #[.string s,.bool q] 77)) w.heap.size say0):=((new_below wr _).block _ hws).trans hr
   have KT:=Lib.hid (take_any w (wr.alloc (.cells #[.string s,.bool q] 77)) (w.heap.size+1) y s q (((new_below wr _).block _ hys).trans hy) (by omega) HBA.out hsz HE.out.1 HE.out.2)
   have HY1:Hid (saysF say0 ws=saysF y ((s,q)::ws.drop (k+1))):=hy1
   rw[says_cons] at hy1
   have HY2:Hid (saysF say0 ws=match tkF y (s,q) with
     | .error e=>.error e
     | .ok y'=>if y'.hk then .ok (y',ws.drop (k+1)) else saysF y' (ws.drop (k+1))):=hy1
   generalize saysF say0 ws=SS at*
   clear hy0 hy1 hr hy hb HRB HY1 hsz hkw
   go_wp2_with fail
   refine KT.out.mono ?_
   rintro e w2 ⟨er,rfl,HB2,HQ⟩
   have HRB:Hid (SyB w2 w.heap.size say0):=(HB2.out.block _ (by omega)).trans HRB2.out
   have HBW:Hid (Below w.heap.size w w2):=HBA.out.trans (HB2.out.mono (by omega))
   clear KT HB2 HRB2 HBA
   rcases HQ.out with ⟨rfl,y',hok,hsy⟩|⟨hne,herr,-⟩
   ·have HOK:=Lib.hid hok
    have HSY:Hid (SyB w2 (w.heap.size+1) y'):=hsy
    have g3:=hsy.c3
    have hyl:=hsy.lt
    clear HQ hok hsy
    cases hhk:y'.hk with
    |false=>
     rw[hhk] at g3
     go_wp2_with fail
     refine ⟨⟨k+1,by omega,by go_num,y',hhk,?_,HRB.out,HSY.out,HBW.out⟩,by simp[intOf];omega⟩
     rw[HY2.out,HOK.out]
     simp[hhk]
    |true=>
     obtain ⟨k1,c1,t1,hk1,hc1,ht1⟩:=y'
     simp only at hhk
     subst hhk
     have g0:=HSY.out.c0
     have g1:=HSY.out.c1
     have g2:=HSY.out.c2
     have g4:=HSY.out.c4
     have g5:=HSY.out.c5
     simp only at g0 g1 g2 g3 g4 g5
     have r0:=HRB.out.c0
     have r1:=HRB.out.c1
     have r2:=HRB.out.c2
     have r3:=HRB.out.c3
     have r4:=HRB.out.c4
     have r5:=HRB.out.c5
     have rf0:=HRB.out.fz 0
     have rf1:=HRB.out.fz 1
     have rf2:=HRB.out.fz 2
     have rf3:=HRB.out.fz 3
     have rf4:=HRB.out.fz 4
     have rf5:=HRB.out.fz 5
     simp only[say0] at r0 r1 r2 r3 r4 r5
     have hne1:¬ w.heap.size=w.heap.size+1:=by omega
     have HFIN:Hid (SS=.ok (⟨k1,c1,t1,true,hc1,ht1⟩,ws.drop (k+1))):=by
      show _=_
      rw[HY2.out,HOK.out]
      rfl
     have HX0:Hid (SyB (((((((w2.setCell ⟨w.heap.size,0,none⟩ (.int .u16 (k1:Int))).setCell ⟨w.heap.size,1,none⟩ (.int .u16 (c1:Int))).setCell ⟨w.heap.size,2,none⟩ (.int .u32 (t1:Int))).setCell ⟨w.heap.size,3,none⟩ (.bool true)).setCell ⟨w.heap.size,4,none⟩ (.bool hc1)).setCell ⟨w.heap.size,5,none⟩ (.bool ht1))) w.heap.size ⟨k1,c1,t1,true,hc1,ht1⟩/\Below w.heap.size w (((((((w2.setCell ⟨w.heap.size,0,none⟩ (.int .u16 (k1:Int))).setCell ⟨w.heap.size,1,none⟩ (.int .u16 (c1:Int))).setCell ⟨w.heap.size,2,none⟩ (.int .u32 (t1:Int))).setCell ⟨w.heap.size,3,none⟩ (.bool true)).setCell ⟨w.heap.size,4,none⟩ (.bool hc1)).setCell ⟨w.heap.size,5,none⟩ (.bool ht1)))):=⟨((((((HRB.out.set0 k1).set1 c1).set2 t1).set3 true).set4 hc1).set5 ht1),((((((HBW.out.setCell (p:=⟨w.heap.size,0,none⟩) (Nat.le_refl _) _).setCell (p:=⟨w.heap.size,1,none⟩) (Nat.le_refl _) _).setCell (p:=⟨w.heap.size,2,none⟩) (Nat.le_refl _) _).setCell (p:=⟨w.heap.size,3,none⟩) (Nat.le_refl _) _).setCell (p:=⟨w.heap.size,4,none⟩) (Nat.le_refl _) _).setCell (p:=⟨w.heap.size,5,none⟩) (Nat.le_refl _) _)⟩
     have HWS:Hid (∀W c',Below w.heap.size w W->n - (k+1)<=c'->c'<=9223372036854775807->Ws W ⟨some ⟨b0,o+(k+1)*2,none⟩,n - (k+1),c'⟩ (ws.drop (k+1))):=fun W c' hW h1 h2=>⟨by simp[HN.out],by simp[HN.out];omega,h2,(HRD.out.from (k+1)).below hW,HWB.out.drop _⟩
     have HWS0:Hid (∀W a',n=k+1->Ws W ⟨a',0,0⟩ (ws.drop (k+1))):=fun W a' h=>by
      have e:ws.drop (k+1)=[]:=List.drop_eq_nil_of_le (by rw[HN.out];omega)
      exact ⟨by rw[e];rfl,by rw[e];simp,by simp,by rw[e];exact .inl rfl,HWB.out.drop _⟩
     clear HY2 HOK HSY HRD
     obtain ⟨K1,hK1⟩:∃K1,K1=k+1:=⟨_,rfl⟩
     have HK1:Hid (K1=k+1):=hK1
     have hwk:IntKind.i64.wrap ((k:Int)+1)=(K1:Int):=by rw[IntKind.wrap_i64];omega
     have hK0:(0:Int)<=(K1:Int):=by omega
     have hKn:(K1:Int)<=(n:Int):=by omega
     rw[<- hK1] at HWS HWS0 HFIN
     have hKn':K1<=n:=by omega
     clear hK1
     by_cases hcc:c=K1
     ·subst hcc
      have hnk:n=c:=by omega
      subst hnk
      go_wp2_with fail
      go_region_law (fail)
      all_goals
       go_wp2_with fail
       have HX:Hid (SyB (((((((w2.setCell ⟨w.heap.size,0,none⟩ (.int .u16 (k1:Int))).setCell ⟨w.heap.size,1,none⟩ (.int .u16 (c1:Int))).setCell ⟨w.heap.size,2,none⟩ (.int .u32 (t1:Int))).setCell ⟨w.heap.size,3,none⟩ (.bool true)).setCell ⟨w.heap.size,4,none⟩ (.bool hc1)).setCell ⟨w.heap.size,5,none⟩ (.bool ht1)).drew) w.heap.size ⟨k1,c1,t1,true,hc1,ht1⟩/\Below w.heap.size w (((((((w2.setCell ⟨w.heap.size,0,none⟩ (.int .u16 (k1:Int))).setCell ⟨w.heap.size,1,none⟩ (.int .u16 (c1:Int))).setCell ⟨w.heap.size,2,none⟩ (.int .u32 (t1:Int))).setCell ⟨w.heap.size,3,none⟩ (.bool true)).setCell ⟨w.heap.size,4,none⟩ (.bool hc1)).setCell ⟨w.heap.size,5,none⟩ (.bool ht1)).drew)):=⟨HX0.out.1.drew,HX0.out.2.drew⟩
       have HWX:=Lib.hid (HWS0.out (((((((w2.setCell ⟨w.heap.size,0,none⟩ (.int .u16 (k1:Int))).setCell ⟨w.heap.size,1,none⟩ (.int .u16 (c1:Int))).setCell ⟨w.heap.size,2,none⟩ (.int .u32 (t1:Int))).setCell ⟨w.heap.size,3,none⟩ (.bool true)).setCell ⟨w.heap.size,4,none⟩ (.bool hc1)).setCell ⟨w.heap.size,5,none⟩ (.bool ht1)).drew) (some ⟨b0,o,none⟩) (by simp))
       generalize (((((((w2.setCell ⟨w.heap.size,0,none⟩ (.int .u16 (k1:Int))).setCell ⟨w.heap.size,1,none⟩ (.int .u16 (c1:Int))).setCell ⟨w.heap.size,2,none⟩ (.int .u32 (t1:Int))).setCell ⟨w.heap.size,3,none⟩ (.bool true)).setCell ⟨w.heap.size,4,none⟩ (.bool hc1)).setCell ⟨w.heap.size,5,none⟩ (.bool ht1)).drew)=W9 at*
       have z0:=HX.out.1.c0
       have z1:=HX.out.1.c1
       have z2:=HX.out.1.c2
       have z3:=HX.out.1.c3
       have z4:=HX.out.1.c4
       have z5:=HX.out.1.c5
       simp only at z0 z1 z2 z3 z4 z5
       exact bodyPost_ret (v:=.tuple #[.agg #[.int .u16 (k1:Int),.int .u16 (c1:Int),.int .u32 (t1:Int),.bool true,.bool hc1,.bool ht1],.slice (some ⟨b0,o,none⟩) 0 0,.int .i64 0]) (by simp[results,Tryz.results88,go_sem,z0,z1,z2,z3,z4,z5]) rfl ⟨⟨k1,c1,t1,true,hc1,ht1⟩,⟨some ⟨b0,o,none⟩,0,0⟩,0,rfl,HX.out.2,.inl ⟨rfl,_,HFIN.out,HWX.out⟩⟩
     ·have hcc1:¬ c - K1=0:=by omega
      go_wp2_with fail
      go_region_law (fail)
      all_goals
       go_wp2_with fail
       have HX:Hid (SyB (((((((w2.setCell ⟨w.heap.size,0,none⟩ (.int .u16 (k1:Int))).setCell ⟨w.heap.size,1,none⟩ (.int .u16 (c1:Int))).setCell ⟨w.heap.size,2,none⟩ (.int .u32 (t1:Int))).setCell ⟨w.heap.size,3,none⟩ (.bool true)).setCell ⟨w.heap.size,4,none⟩ (.bool hc1)).setCell ⟨w.heap.size,5,none⟩ (.bool ht1)).drew) w.heap.size ⟨k1,c1,t1,true,hc1,ht1⟩/\Below w.heap.size w (((((((w2.setCell ⟨w.heap.size,0,none⟩ (.int .u16 (k1:Int))).setCell ⟨w.heap.size,1,none⟩ (.int .u16 (c1:Int))).setCell ⟨w.heap.size,2,none⟩ (.int .u32 (t1:Int))).setCell ⟨w.heap.size,3,none⟩ (.bool true)).setCell ⟨w.heap.size,4,none⟩ (.bool hc1)).setCell ⟨w.heap.size,5,none⟩ (.bool ht1)).drew)):=⟨HX0.out.1.drew,HX0.out.2.drew⟩
       have HWX:=Lib.hid (HWS.out (((((((w2.setCell ⟨w.heap.size,0,none⟩ (.int .u16 (k1:Int))).setCell ⟨w.heap.size,1,none⟩ (.int .u16 (c1:Int))).setCell ⟨w.heap.size,2,none⟩ (.int .u32 (t1:Int))).setCell ⟨w.heap.size,3,none⟩ (.bool true)).setCell ⟨w.heap.size,4,none⟩ (.bool hc1)).setCell ⟨w.heap.size,5,none⟩ (.bool ht1)).drew) (c - K1) HX.out.2 (by omega) (by omega))
       generalize (((((((w2.setCell ⟨w.heap.size,0,none⟩ (.int .u16 (k1:Int))).setCell ⟨w.heap.size,1,none⟩ (.int .u16 (c1:Int))).setCell ⟨w.heap.size,2,none⟩ (.int .u32 (t1:Int))).setCell ⟨w.heap.size,3,none⟩ (.bool true)).setCell ⟨w.heap.size,4,none⟩ (.bool hc1)).setCell ⟨w.heap.size,5,none⟩ (.bool ht1)).drew)=W9 at*
       have z0:=HX.out.1.c0
       have z1:=HX.out.1.c1
       have z2:=HX.out.1.c2
       have z3:=HX.out.1.c3
       have z4:=HX.out.1.c4
       have z5:=HX.out.1.c5
       simp only at z0 z1 z2 z3 z4 z5
       exact bodyPost_ret (v:=.tuple #[.agg #[.int .u16 (k1:Int),.int .u16 (c1:Int),.int .u32 (t1:Int),.bool true,.bool hc1,.bool ht1],.slice (some ⟨b0,o+K1*2,none⟩) (n - K1) (c - K1),.int .i64 0]) (by simp[results,Tryz.results88,go_sem,z0,z1,z2,z3,z4,z5]) rfl ⟨⟨k1,c1,t1,true,hc1,ht1⟩,⟨some ⟨b0,o+K1*2,none⟩,n - K1,c - K1⟩,0,rfl,HX.out.2,.inl ⟨rfl,_,HFIN.out,HWX.out⟩⟩
   ·have hne2:(er == 0)=false:=by simpa using hne
    have hne3:(er != 0)=true:=by simpa using hne
    have HERR:Hid (SS=.error er):=by
     show _=_
     rw[HY2.out,herr]
    have HNE:Hid (er≠0):=hne
    have r0:=HRB.out.c0
    have r1:=HRB.out.c1
    have r2:=HRB.out.c2
    have r3:=HRB.out.c3
    have r4:=HRB.out.c4
    have r5:=HRB.out.c5
    have rf0:=HRB.out.fz 0
    have rf1:=HRB.out.fz 1
    have rf2:=HRB.out.fz 2
    have rf3:=HRB.out.fz 3
    have rf4:=HRB.out.fz 4
    have rf5:=HRB.out.fz 5
    simp only[say0] at r0 r1 r2 r3 r4 r5
    have HX0:Hid (SyB (((((((w2.setCell ⟨w.heap.size,0,none⟩ (.int .u16 0)).setCell ⟨w.heap.size,1,none⟩ (.int .u16 0)).setCell ⟨w.heap.size,2,none⟩ (.int .u32 0)).setCell ⟨w.heap.size,3,none⟩ (.bool false)).setCell ⟨w.heap.size,4,none⟩ (.bool false)).setCell ⟨w.heap.size,5,none⟩ (.bool false))) w.heap.size say0/\Below w.heap.size w (((((((w2.setCell ⟨w.heap.size,0,none⟩ (.int .u16 0)).setCell ⟨w.heap.size,1,none⟩ (.int .u16 0)).setCell ⟨w.heap.size,2,none⟩ (.int .u32 0)).setCell ⟨w.heap.size,3,none⟩ (.bool false)).setCell ⟨w.heap.size,4,none⟩ (.bool false)).setCell ⟨w.heap.size,5,none⟩ (.bool false)))):=⟨((((((HRB.out.set0 0).set1 0).set2 0).set3 false).set4 false).set5 false),((((((HBW.out.setCell (p:=⟨w.heap.size,0,none⟩) (Nat.le_refl _) _).setCell (p:=⟨w.heap.size,1,none⟩) (Nat.le_refl _) _).setCell (p:=⟨w.heap.size,2,none⟩) (Nat.le_refl _) _).setCell (p:=⟨w.heap.size,3,none⟩) (Nat.le_refl _) _).setCell (p:=⟨w.heap.size,4,none⟩) (Nat.le_refl _) _).setCell (p:=⟨w.heap.size,5,none⟩) (Nat.le_refl _) _)⟩
    clear HQ herr HY2
    go_wp2_with fail
    generalize (((((((w2.setCell ⟨w.heap.size,0,none⟩ (.int .u16 0)).setCell ⟨w.heap.size,1,none⟩ (.int .u16 0)).setCell ⟨w.heap.size,2,none⟩ (.int .u32 0)).setCell ⟨w.heap.size,3,none⟩ (.bool false)).setCell ⟨w.heap.size,4,none⟩ (.bool false)).setCell ⟨w.heap.size,5,none⟩ (.bool false)))=W9 at*
    have z0:=HX0.out.1.c0
    have z1:=HX0.out.1.c1
    have z2:=HX0.out.1.c2
    have z3:=HX0.out.1.c3
    have z4:=HX0.out.1.c4
    have z5:=HX0.out.1.c5
    simp only[say0] at z0 z1 z2 z3 z4 z5
    exact bodyPost_ret (v:=.tuple #[.agg #[.int .u16 0,.int .u16 0,.int .u32 0,.bool false,.bool false,.bool false],.slice none 0 0,.int .i64 er]) (by simp[results,Tryz.results88,go_sem,z0,z1,z2,z3,z4,z5]) rfl ⟨say0,⟨none,0,0⟩,er,rfl,HX0.out.2,.inr ⟨HNE.out,HERR.out⟩⟩
  ·have hge:¬ (k:Int)<(n:Int):=by omega
   have hkn:k=n:=by omega
   subst hkn
   have HERR:Hid (saysF say0 ws=.error 240):=by
    show _=_
    rw[hy1,List.drop_eq_nil_of_le (by rw[HN.out];exact Nat.le_refl _)]
    rfl
   have r0:=HRB.out.c0
   have r1:=HRB.out.c1
   have r2:=HRB.out.c2
   have r3:=HRB.out.c3
   have r4:=HRB.out.c4
   have r5:=HRB.out.c5
   have rf0:=HRB.out.fz 0
   have rf1:=HRB.out.fz 1
   have rf2:=HRB.out.fz 2
   have rf3:=HRB.out.fz 3
   have rf4:=HRB.out.fz 4
   have rf5:=HRB.out.fz 5
   simp only[say0] at r0 r1 r2 r3 r4 r5
   have HX0:Hid (SyB (((((((wr.setCell ⟨w.heap.size,0,none⟩ (.int .u16 0)).setCell ⟨w.heap.size,1,none⟩ (.int .u16 0)).setCell ⟨w.heap.size,2,none⟩ (.int .u32 0)).setCell ⟨w.heap.size,3,none⟩ (.bool false)).setCell ⟨w.heap.size,4,none⟩ (.bool false)).setCell ⟨w.heap.size,5,none⟩ (.bool false))) w.heap.size say0/\Below w.heap.size w (((((((wr.setCell ⟨w.heap.size,0,none⟩ (.int .u16 0)).setCell ⟨w.heap.size,1,none⟩ (.int .u16 0)).setCell ⟨w.heap.size,2,none⟩ (.int .u32 0)).setCell ⟨w.heap.size,3,none⟩ (.bool false)).setCell ⟨w.heap.size,4,none⟩ (.bool false)).setCell ⟨w.heap.size,5,none⟩ (.bool false)))):=⟨((((((HRB.out.set0 0).set1 0).set2 0).set3 false).set4 false).set5 false),((((((HB.out.setCell (p:=⟨w.heap.size,0,none⟩) (Nat.le_refl _) _).setCell (p:=⟨w.heap.size,1,none⟩) (Nat.le_refl _) _).setCell (p:=⟨w.heap.size,2,none⟩) (Nat.le_refl _) _).setCell (p:=⟨w.heap.size,3,none⟩) (Nat.le_refl _) _).setCell (p:=⟨w.heap.size,4,none⟩) (Nat.le_refl _) _).setCell (p:=⟨w.heap.size,5,none⟩) (Nat.le_refl _) _)⟩
   clear hy0 hy1 hr hy hb
   go_wp2_with fail
   generalize (((((((wr.setCell ⟨w.heap.size,0,none⟩ (.int .u16 0)).setCell ⟨w.heap.size,1,none⟩ (.int .u16 0)).setCell ⟨w.heap.size,2,none⟩ (.int .u32 0)).setCell ⟨w.heap.size,3,none⟩ (.bool false)).setCell ⟨w.heap.size,4,none⟩ (.bool false)).setCell ⟨w.heap.size,5,none⟩ (.bool false)))=W9 at*
   have z0:=HX0.out.1.c0
   have z1:=HX0.out.1.c1
   have z2:=HX0.out.1.c2
   have z3:=HX0.out.1.c3
   have z4:=HX0.out.1.c4
   have z5:=HX0.out.1.c5
   simp only[say0] at z0 z1 z2 z3 z4 z5
   exact bodyPost_ret (v:=.tuple #[.agg #[.int .u16 0,.int .u16 0,.int .u32 0,.bool false,.bool false,.bool false],.slice none 0 0,.int .i64 240]) (by simp[results,Tryz.results88,go_sem,z0,z1,z2,z3,z4,z5]) rfl ⟨say0,⟨none,0,0⟩,240,rfl,HX0.out.2,.inr ⟨by decide,HERR.out⟩⟩
theorem ws_tail{w:World}{b o n c:Nat}{p:Wd}{r:List Wd}(h:Ws w ⟨some ⟨b,o,none⟩,n,c⟩ (p::r)):n=r.length+1/\(∀c',n - 1<=c'->c'<=9223372036854775807->Ws w ⟨some ⟨b,o+2,none⟩,n - 1,c'⟩ r)/\(c=1->∀a',Ws w ⟨a',0,0⟩ r):=by
 have hn:n=r.length+1:=h.n
 have hc:r.length+1<=c:=h.c
 obtain ⟨b',o',e,hb,-,-,hr⟩:=h.rd.head
 simp only[Option.some.injEq,Addr.mk.injEq,and_true] at e
 obtain ⟨rfl,rfl⟩:=e
 refine ⟨hn,fun c' h1 h2=>⟨by simp;omega,by simp;omega,h2,hr,h.wb.tail⟩,fun hc1 a'=>?_⟩
 have:r=[]:=List.length_eq_zero_iff.1 (by omega)
 subst this
 exact ⟨rfl,by simp,by simp,.inl rfl,h.wb.tail⟩
end Go.Proofs.YtjkljpdolhglcaaGreatDoor
