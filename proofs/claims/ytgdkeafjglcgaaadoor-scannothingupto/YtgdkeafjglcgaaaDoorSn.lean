/- A text is read to its end, or to the first fault. -/
import Derived.Test.YtgdkeafjglcgaaaDoorSm
import Derived.WalkMore
namespace Go.Proofs.YtgdkeafjglcgaaaDoor
open Go.ChangeShapes Go.WideShapes Go.ChangeAt Go.RowKit
set_option linter.unusedVariables false
set_option linter.unusedSimpArgs false


set_option maxRecDepth 100000 in
set_option maxHeartbeats 8000000 in
theorem run29 (B R : Nat) (w0 : Fx) (w : World) (s : ByteArray) (q0 : Cf) (start0 : Nat) (wv0 ev0 : Value) (wS0 : World) (h : RS B R w0 w s q0 start0 wv0 ev0 wS0) (hP : ∀ p ∈ w0.P, p.1 < w.heap.size) (hs : s.size ≤ 100000) (hq : q0.st = 0) (hn : Nb q0 0) :
    Calls Tryd.prog 26 #[.pointer (some ⟨R, 0, none⟩)] w (FnP B R w0 s (goF (linesF s.data.toList) q0 s.data.toList)) := by
  obtain ⟨G, hG⟩ : ∃ G, goF (linesF s.data.toList) q0 s.data.toList = G := ⟨_, rfl⟩
  rw [hG]
  have hlt := h.bx.lt
  have hB : B ≤ w.heap.size := by have := h.br; omega
  have HA := Lib.hid ((h.go (al_below w (.cells #[.int .i64 0, .int .i64 0] 36))).put w.heap.size 0 0 (heap_alloc_new w _))
  have HJ : Hid (∀ p ∈ w0.P, p.1 ≠ w.heap.size) := fun p hp e => by have := hP p hp; omega
  have HPP : Hid (∀ W : World, w.heap.size < W.heap.size → ∀ p ∈ (w0.put w.heap.size 0 0).P, p.1 < W.heap.size) := fun W hW p hp => by
    rcases List.mem_cons.1 hp with rfl | hp
    · exact hW
    · have := hP p hp; omega
  have c0 := HA.out.bx.c0
  have HN := Lib.hid hn
  have HG := Lib.hid hG
  have HQ := Lib.hid hq
  -- what is left to do behind the loop
  have HEND : Hid (∀ (W : World) (a b : Nat), FnQ B R (w0.put w.heap.size 0 0) s a b W G → (W.heap[w.heap.size]? = some (.cells #[.int .i64 0, .int .i64 0] 36 (0, 0))) ∧ FnQ B R w0 s a b ((W.setCell ⟨w.heap.size, 0, none⟩ (.int .i64 a)).setCell ⟨w.heap.size, 1, none⟩ (.int .i64 b)) G) := fun W a b hW => by
    cases G with
    | er e l => exact ⟨hW.2.2.cell, hW.1, hW.2.1, hW.2.2.pop.res hB HJ.out _ _⟩
    | ok es =>
      obtain ⟨h1, h2, q, st, wv, ev, h3, h4⟩ := hW
      exact ⟨h4.bl.cell, h1, h2, q, st, wv, ev, h3, h4.pop.res h4.bl.cell hB HJ.out _ _⟩
  clear h hP hn hG hq
  go_enter Tryd.func26, Tryd.ntmps26
  go_wp2
  go_step3
  go_wp2
  go_step3
  go_wp2
  go_loopw [3, 4, 12] (fun x3 x4 x12 wr => ∃ (p k : Nat) (q : Cf) (start : Nat) (wv ev : Value) (wS : World), x3 = .int .u8 k ∧ x4 = .int .i64 0 ∧ x12 = .int .i64 p ∧ p ≤ s.size ∧ k ≤ 6 ∧ Hid (q.st = k) ∧ Hid (RS B R (w0.put w.heap.size 0 0) wr s q start wv ev wS) ∧ Hid (goF (linesF s.data.toList) q (s.data.toList.drop p) = G) ∧ Hid (Cu s q start p) ∧ Hid (Nb q p)) (fun _ _ x12 _ => s.size - (intOf x12).toNat)
  case atStart => exact ⟨0, 0, q0, start0, wv0, ev0, wS0, rfl, rfl, rfl, Nat.zero_le _, by omega, HQ, HA, (by show _ = _; rw [List.drop_zero]; exact HG.out), (fun e => by have := HQ.out; omega), HN⟩
  case round =>
    obtain ⟨p, k, q, start, wv, ev, wS, rfl, rfl, rfl, hp, hk6, HK, HRS, HGO, HCU, HNB⟩ := hrel
    by_cases hpe : p = s.size
    · have KE := Lib.hid (end52_any B R (w0.put w.heap.size 0 0) wr s q start wv ev wS k HRS.out (HPP.out _ (rc_lt HRS.out.bl.cell)) (by omega) HK.out hk6 (fun e => hpe ▸ HCU.out (.inl e)) HNB.out.ws (by have := HNB.out.es; omega))
      have HGX : Hid (finF (linesF s.data.toList) q = G) := (by
        show _ = _
        rw [← HGO.out, hpe, List.drop_of_length_le (by simp)]; rfl)
      rw [HGX.out] at KE
      have hge : ¬ (p : Int) < (s.size : Int) := by omega
      have c0w := HRS.out.bx.c0
      clear HCU HNB HGO hpe
      go_wp2_with fail
      refine KE.out.mono ?_
      rintro e w2 ⟨a, b, rfl, H2⟩
      have HFN := Lib.hid (HEND.out w2 a b H2.out)
      have k0 := rc_c0 HFN.out.1
      have k1 := rc_c1 HFN.out.1
      have kf := rc_fz HFN.out.1
      have kl := rc_lt HFN.out.1
      have z0 := rc_c0 (rc_put HFN.out.1 (.int .i64 a) (.int .i64 b))
      have z1 := rc_c1 (rc_put HFN.out.1 (.int .i64 a) (.int .i64 b))
      go_wp2_with fail
      try rw [Exit.noGoto_ret]
      refine bodyPost_ret (v := .agg #[.int .i64 a, .int .i64 b]) ?_ rfl ⟨a, b, rfl, HFN.out.2⟩
      simp [results, Tryd.results26, go_sem, z0, z1, k0, k1, kl]
    · have hpl : p < s.size := by omega
      have hpl' : (p : Int) < (s.size : Int) := by omega
      have c0w := HRS.out.bx.c0
      have HD := Lib.hid (drop_at s p hpl)
      have n10 := nbz s[p] 10
      simp only [show ((10 : UInt8).toNat : Int) = 10 from rfl] at n10
      have K46 := Lib.hid (fun w => esc46 k w)
      clear hpe
      cases hX : stepF q s[p] (s.data.toList.drop (p + 1)) with
      | er n =>
        have HX := Lib.hid hX
        have HN0 : Hid (n = 230 ∨ n = 3) := step_er hX
        have HGX : Hid (G = .er n q.line) := (by show _ = _; rw [← HGO.out, HD.out, goF, hX])
        clear hX
        have hkk : k = 0 ∨ k = 1 ∨ k = 2 ∨ k = 3 ∨ k = 4 ∨ k = 5 ∨ k = 6 := by omega
        rcases hkk with rfl | rfl | rfl | rfl | rfl | rfl | rfl
        · rw [show decide ((0 : Nat) = 2 ∨ (0 : Nat) = 4) = false from by decide] at K46
          have HSF : Hid (firstF q s[p] (s.data.toList.drop (p + 1)) = Rs.er n) := (by show _ = _; have := HX.out; simpa [stepF, HK.out] using this)
          clear HX HD HGO
          by_cases h10 : s[p] = 10
          · have e10 : ((s[p].toNat : Nat) : Int) = 10 := bz s[p] 10 h10
            clear h10 n10
            have KS := Lib.hid (first47 B R (w0.put w.heap.size 0 0) wr s q start wv ev wS p HRS.out hpl (by omega) (by have := HNB.out.ln; omega) (by have := HNB.out.op; omega) (by have := HNB.out.es; omega))
            rw [HSF.out] at KS
            clear HCU HNB HSF HRS
            go_wp2_with fail
            refine (K46.out _).mono ?_
            rintro e w9 ⟨rfl, rfl⟩
            go_wp2_with fail
            refine KS.out.mono ?_
            rintro e w2 ⟨k2, er, rfl, H2⟩
            obtain ⟨rfl, q2, st2, wv2, ev2, wS2, hl2, r2⟩ := H2.out
            have HLN := Lib.hid hl2
            have HR2 := Lib.hid r2
            clear H2 r2 hl2
            have hn0 : ¬ (er : Int) = 0 := by have := HN0.out; omega
            have hn1 : ((er : Int) == 0) = false := by simpa using hn0
            have d1 := HR2.out.bx.c1
            rw [HLN.out] at d1
            have HFN := Lib.hid (HEND.out _ er q.line (by rw [HGX.out]; exact ⟨rfl, rfl, HR2.out.bl⟩))
            have k0 := rc_c0 HFN.out.1
            have k1 := rc_c1 HFN.out.1
            have kf := rc_fz HFN.out.1
            have kl := rc_lt HFN.out.1
            have z0 := rc_c0 (rc_put HFN.out.1 (.int .i64 (er : Nat)) (.int .i64 q.line))
            have z1 := rc_c1 (rc_put HFN.out.1 (.int .i64 (er : Nat)) (.int .i64 q.line))
            go_wp2_with fail
            try rw [Exit.noGoto_ret]
            refine bodyPost_ret (v := .agg #[.int .i64 (er : Nat), .int .i64 q.line]) ?_ rfl ⟨er, q.line, rfl, HFN.out.2⟩
            simp [results, Tryd.results26, go_sem, z0, z1, k0, k1, kl]
          · have m10 := n10 h10
            clear n10
            have KS := Lib.hid (first47 B R (w0.put w.heap.size 0 0) wr s q start wv ev wS p HRS.out hpl (by omega) (by have := HNB.out.ln; omega) (by have := HNB.out.op; omega) (by have := HNB.out.es; omega))
            rw [HSF.out] at KS
            clear HCU HNB HSF HRS
            go_wp2_with fail
            refine KS.out.mono ?_
            rintro e w2 ⟨k2, er, rfl, H2⟩
            obtain ⟨rfl, q2, st2, wv2, ev2, wS2, hl2, r2⟩ := H2.out
            have HLN := Lib.hid hl2
            have HR2 := Lib.hid r2
            clear H2 r2 hl2
            have hn0 : ¬ (er : Int) = 0 := by have := HN0.out; omega
            have hn1 : ((er : Int) == 0) = false := by simpa using hn0
            have d1 := HR2.out.bx.c1
            rw [HLN.out] at d1
            have HFN := Lib.hid (HEND.out _ er q.line (by rw [HGX.out]; exact ⟨rfl, rfl, HR2.out.bl⟩))
            have k0 := rc_c0 HFN.out.1
            have k1 := rc_c1 HFN.out.1
            have kf := rc_fz HFN.out.1
            have kl := rc_lt HFN.out.1
            have z0 := rc_c0 (rc_put HFN.out.1 (.int .i64 (er : Nat)) (.int .i64 q.line))
            have z1 := rc_c1 (rc_put HFN.out.1 (.int .i64 (er : Nat)) (.int .i64 q.line))
            go_wp2_with fail
            try rw [Exit.noGoto_ret]
            refine bodyPost_ret (v := .agg #[.int .i64 (er : Nat), .int .i64 q.line]) ?_ rfl ⟨er, q.line, rfl, HFN.out.2⟩
            simp [results, Tryd.results26, go_sem, z0, z1, k0, k1, kl]
        · rw [show decide ((1 : Nat) = 2 ∨ (1 : Nat) = 4) = false from by decide] at K46
          have HSF : Hid (nextF q s[p] (s.data.toList.drop (p + 1)) = Rs.er n) := (by show _ = _; have := HX.out; simpa [stepF, HK.out] using this)
          clear HX HD HGO
          by_cases h10 : s[p] = 10
          · have e10 : ((s[p].toNat : Nat) : Int) = 10 := bz s[p] 10 h10
            clear h10 n10
            have KS := Lib.hid (next48 B R (w0.put w.heap.size 0 0) wr s q start wv ev wS p HRS.out (HCU.out (.inl HK.out)) hpl (by omega) (by have := HNB.out.ln; omega) (by have := HNB.out.op; omega) (by have := HNB.out.es; omega) HNB.out.ws)
            rw [HSF.out] at KS
            clear HCU HNB HSF HRS
            go_wp2_with fail
            refine (K46.out _).mono ?_
            rintro e w9 ⟨rfl, rfl⟩
            go_wp2_with fail
            refine KS.out.mono ?_
            rintro e w2 ⟨k2, er, rfl, H2⟩
            obtain ⟨rfl, q2, st2, wv2, ev2, wS2, hl2, r2⟩ := H2.out
            have HLN := Lib.hid hl2
            have HR2 := Lib.hid r2
            clear H2 r2 hl2
            have hn0 : ¬ (er : Int) = 0 := by have := HN0.out; omega
            have hn1 : ((er : Int) == 0) = false := by simpa using hn0
            have d1 := HR2.out.bx.c1
            rw [HLN.out] at d1
            have HFN := Lib.hid (HEND.out _ er q.line (by rw [HGX.out]; exact ⟨rfl, rfl, HR2.out.bl⟩))
            have k0 := rc_c0 HFN.out.1
            have k1 := rc_c1 HFN.out.1
            have kf := rc_fz HFN.out.1
            have kl := rc_lt HFN.out.1
            have z0 := rc_c0 (rc_put HFN.out.1 (.int .i64 (er : Nat)) (.int .i64 q.line))
            have z1 := rc_c1 (rc_put HFN.out.1 (.int .i64 (er : Nat)) (.int .i64 q.line))
            go_wp2_with fail
            try rw [Exit.noGoto_ret]
            refine bodyPost_ret (v := .agg #[.int .i64 (er : Nat), .int .i64 q.line]) ?_ rfl ⟨er, q.line, rfl, HFN.out.2⟩
            simp [results, Tryd.results26, go_sem, z0, z1, k0, k1, kl]
          · have m10 := n10 h10
            clear n10
            have KS := Lib.hid (next48 B R (w0.put w.heap.size 0 0) wr s q start wv ev wS p HRS.out (HCU.out (.inl HK.out)) hpl (by omega) (by have := HNB.out.ln; omega) (by have := HNB.out.op; omega) (by have := HNB.out.es; omega) HNB.out.ws)
            rw [HSF.out] at KS
            clear HCU HNB HSF HRS
            go_wp2_with fail
            refine KS.out.mono ?_
            rintro e w2 ⟨k2, er, rfl, H2⟩
            obtain ⟨rfl, q2, st2, wv2, ev2, wS2, hl2, r2⟩ := H2.out
            have HLN := Lib.hid hl2
            have HR2 := Lib.hid r2
            clear H2 r2 hl2
            have hn0 : ¬ (er : Int) = 0 := by have := HN0.out; omega
            have hn1 : ((er : Int) == 0) = false := by simpa using hn0
            have d1 := HR2.out.bx.c1
            rw [HLN.out] at d1
            have HFN := Lib.hid (HEND.out _ er q.line (by rw [HGX.out]; exact ⟨rfl, rfl, HR2.out.bl⟩))
            have k0 := rc_c0 HFN.out.1
            have k1 := rc_c1 HFN.out.1
            have kf := rc_fz HFN.out.1
            have kl := rc_lt HFN.out.1
            have z0 := rc_c0 (rc_put HFN.out.1 (.int .i64 (er : Nat)) (.int .i64 q.line))
            have z1 := rc_c1 (rc_put HFN.out.1 (.int .i64 (er : Nat)) (.int .i64 q.line))
            go_wp2_with fail
            try rw [Exit.noGoto_ret]
            refine bodyPost_ret (v := .agg #[.int .i64 (er : Nat), .int .i64 q.line]) ?_ rfl ⟨er, q.line, rfl, HFN.out.2⟩
            simp [results, Tryd.results26, go_sem, z0, z1, k0, k1, kl]
        · rw [show decide ((2 : Nat) = 2 ∨ (2 : Nat) = 4) = true from by decide] at K46
          by_cases h10 : s[p] = 10
          · have e10 : ((s[p].toNat : Nat) : Int) = 10 := bz s[p] 10 h10
            have hn : n = 230 := by
              have := HX.out
              simp [stepF, HK.out, h10] at this
              exact this.symm
            subst hn
            clear h10 n10 HX HD HGO HCU HNB
            go_wp2_with fail
            refine (K46.out _).mono ?_
            rintro e w9 ⟨rfl, rfl⟩
            have d1 := HRS.out.bx.c1
            have HFN := Lib.hid (HEND.out _ 230 q.line (by rw [HGX.out]; exact ⟨rfl, rfl, HRS.out.bl⟩))
            have k0 := rc_c0 HFN.out.1
            have k1 := rc_c1 HFN.out.1
            have kf := rc_fz HFN.out.1
            have kl := rc_lt HFN.out.1
            have z0 := rc_c0 (rc_put HFN.out.1 (.int .i64 (230 : Nat)) (.int .i64 q.line))
            have z1 := rc_c1 (rc_put HFN.out.1 (.int .i64 (230 : Nat)) (.int .i64 q.line))
            go_wp2_with fail
            try rw [Exit.noGoto_ret]
            refine bodyPost_ret (v := .agg #[.int .i64 (230 : Nat), .int .i64 q.line]) ?_ rfl ⟨230, q.line, rfl, HFN.out.2⟩
            simp [results, Tryd.results26, go_sem, z0, z1, k0, k1, kl]
          · exfalso
            have := HX.out
            simp [stepF, HK.out, h10] at this
        · rw [show decide ((3 : Nat) = 2 ∨ (3 : Nat) = 4) = false from by decide] at K46
          by_cases h10 : s[p] = 10
          · have e10 : ((s[p].toNat : Nat) : Int) = 10 := bz s[p] 10 h10
            have hn : n = 230 := by
              have := HX.out
              simp [stepF, HK.out, h10] at this
              exact this.symm
            subst hn
            clear h10 n10 HX HD HGO HCU HNB
            have d1 := HRS.out.bx.c1
            have HFN := Lib.hid (HEND.out _ 230 q.line (by rw [HGX.out]; exact ⟨rfl, rfl, HRS.out.bl⟩))
            have k0 := rc_c0 HFN.out.1
            have k1 := rc_c1 HFN.out.1
            have kf := rc_fz HFN.out.1
            have kl := rc_lt HFN.out.1
            have z0 := rc_c0 (rc_put HFN.out.1 (.int .i64 (230 : Nat)) (.int .i64 q.line))
            have z1 := rc_c1 (rc_put HFN.out.1 (.int .i64 (230 : Nat)) (.int .i64 q.line))
            go_wp2_with fail
            try rw [Exit.noGoto_ret]
            refine bodyPost_ret (v := .agg #[.int .i64 (230 : Nat), .int .i64 q.line]) ?_ rfl ⟨230, q.line, rfl, HFN.out.2⟩
            simp [results, Tryd.results26, go_sem, z0, z1, k0, k1, kl]
          · have m10 := n10 h10
            have HSF : Hid (quotF q s[p] = Rs.er n) := (by show _ = _; have := HX.out; simpa [stepF, HK.out, h10] using this)
            clear HX HD HGO
            clear n10 h10
            have KS := Lib.hid (quot49 B R (w0.put w.heap.size 0 0) wr s q start wv ev wS p HRS.out (HCU.out (.inr (.inr (.inl HK.out)))) hpl (by omega) HNB.out.ws)
            rw [HSF.out] at KS
            clear HCU HNB HSF HRS
            go_wp2_with fail
            refine KS.out.mono ?_
            rintro e w2 ⟨k2, er, rfl, H2⟩
            obtain ⟨rfl, q2, st2, wv2, ev2, wS2, hl2, r2⟩ := H2.out
            have HLN := Lib.hid hl2
            have HR2 := Lib.hid r2
            clear H2 r2 hl2
            have hn0 : ¬ (er : Int) = 0 := by have := HN0.out; omega
            have hn1 : ((er : Int) == 0) = false := by simpa using hn0
            have d1 := HR2.out.bx.c1
            rw [HLN.out] at d1
            have HFN := Lib.hid (HEND.out _ er q.line (by rw [HGX.out]; exact ⟨rfl, rfl, HR2.out.bl⟩))
            have k0 := rc_c0 HFN.out.1
            have k1 := rc_c1 HFN.out.1
            have kf := rc_fz HFN.out.1
            have kl := rc_lt HFN.out.1
            have z0 := rc_c0 (rc_put HFN.out.1 (.int .i64 (er : Nat)) (.int .i64 q.line))
            have z1 := rc_c1 (rc_put HFN.out.1 (.int .i64 (er : Nat)) (.int .i64 q.line))
            go_wp2_with fail
            try rw [Exit.noGoto_ret]
            refine bodyPost_ret (v := .agg #[.int .i64 (er : Nat), .int .i64 q.line]) ?_ rfl ⟨er, q.line, rfl, HFN.out.2⟩
            simp [results, Tryd.results26, go_sem, z0, z1, k0, k1, kl]
        · rw [show decide ((4 : Nat) = 2 ∨ (4 : Nat) = 4) = true from by decide] at K46
          by_cases h10 : s[p] = 10
          · have e10 : ((s[p].toNat : Nat) : Int) = 10 := bz s[p] 10 h10
            have hn : n = 230 := by
              have := HX.out
              simp [stepF, HK.out, h10] at this
              exact this.symm
            subst hn
            clear h10 n10 HX HD HGO HCU HNB
            go_wp2_with fail
            refine (K46.out _).mono ?_
            rintro e w9 ⟨rfl, rfl⟩
            have d1 := HRS.out.bx.c1
            have HFN := Lib.hid (HEND.out _ 230 q.line (by rw [HGX.out]; exact ⟨rfl, rfl, HRS.out.bl⟩))
            have k0 := rc_c0 HFN.out.1
            have k1 := rc_c1 HFN.out.1
            have kf := rc_fz HFN.out.1
            have kl := rc_lt HFN.out.1
            have z0 := rc_c0 (rc_put HFN.out.1 (.int .i64 (230 : Nat)) (.int .i64 q.line))
            have z1 := rc_c1 (rc_put HFN.out.1 (.int .i64 (230 : Nat)) (.int .i64 q.line))
            go_wp2_with fail
            try rw [Exit.noGoto_ret]
            refine bodyPost_ret (v := .agg #[.int .i64 (230 : Nat), .int .i64 q.line]) ?_ rfl ⟨230, q.line, rfl, HFN.out.2⟩
            simp [results, Tryd.results26, go_sem, z0, z1, k0, k1, kl]
          · exfalso
            have := HX.out
            simp [stepF, HK.out, h10] at this
        · rw [show decide ((5 : Nat) = 2 ∨ (5 : Nat) = 4) = false from by decide] at K46
          by_cases h10 : s[p] = 10
          · cases hen : endsW s[p] with
            | true =>
              have K50 := Lib.hid (fun w => ends50 ((s[p].toNat : Nat) : Int) w)
              have HZ : Hid (endsz ((s[p].toNat : Nat) : Int) = endsW s[p]) := endsz_bI s[p]
              rw [HZ.out, hen] at K50
              have HSF : Hid (outR q s[p] (s.data.toList.drop (p + 1)) = Rs.er n) := (by show _ = _; have := HX.out; simpa [stepF, HK.out, hen] using this)
              have KS := Lib.hid (outside51 B R (w0.put w.heap.size 0 0) wr s q start wv ev wS p HRS.out hpl (by omega) (by have := HNB.out.ln; omega) (by have := HNB.out.op; omega) (by have := HNB.out.es; omega))
              rw [HSF.out] at KS
              have e10 : ((s[p].toNat : Nat) : Int) = 10 := bz s[p] 10 h10
              simp only [e10] at K50
              clear HX HD HGO HSF HCU HNB HRS h10 n10 HZ hen
              go_wp2_with fail
              refine (K46.out _).mono ?_
              rintro e w9 ⟨rfl, rfl⟩
              go_wp2_with fail
              refine (K50.out _).mono ?_
              rintro e w8 ⟨rfl, rfl⟩
              go_wp2_with fail
              refine KS.out.mono ?_
              rintro e w2 ⟨k2, er, rfl, H2⟩
              obtain ⟨rfl, q2, st2, wv2, ev2, wS2, hl2, r2⟩ := H2.out
              have HLN := Lib.hid hl2
              have HR2 := Lib.hid r2
              clear H2 r2 hl2
              have hn0 : ¬ (er : Int) = 0 := by have := HN0.out; omega
              have hn1 : ((er : Int) == 0) = false := by simpa using hn0
              have d1 := HR2.out.bx.c1
              rw [HLN.out] at d1
              have HFN := Lib.hid (HEND.out _ er q.line (by rw [HGX.out]; exact ⟨rfl, rfl, HR2.out.bl⟩))
              have k0 := rc_c0 HFN.out.1
              have k1 := rc_c1 HFN.out.1
              have kf := rc_fz HFN.out.1
              have kl := rc_lt HFN.out.1
              have z0 := rc_c0 (rc_put HFN.out.1 (.int .i64 (er : Nat)) (.int .i64 q.line))
              have z1 := rc_c1 (rc_put HFN.out.1 (.int .i64 (er : Nat)) (.int .i64 q.line))
              go_wp2_with fail
              try rw [Exit.noGoto_ret]
              refine bodyPost_ret (v := .agg #[.int .i64 (er : Nat), .int .i64 q.line]) ?_ rfl ⟨er, q.line, rfl, HFN.out.2⟩
              simp [results, Tryd.results26, go_sem, z0, z1, k0, k1, kl]
            | false =>
              have K50 := Lib.hid (fun w => ends50 ((s[p].toNat : Nat) : Int) w)
              have HZ : Hid (endsz ((s[p].toNat : Nat) : Int) = endsW s[p]) := endsz_bI s[p]
              rw [HZ.out, hen] at K50
              have hn : n = 230 := by
                have := HX.out
                simp [stepF, HK.out, hen] at this
                exact this.symm
              subst hn
              have e10 : ((s[p].toNat : Nat) : Int) = 10 := bz s[p] 10 h10
              simp only [e10] at K50
              clear h10 n10 HX HD HGO HCU HNB HZ hen
              go_wp2_with fail
              refine (K46.out _).mono ?_
              rintro e w9 ⟨rfl, rfl⟩
              go_wp2_with fail
              refine (K50.out _).mono ?_
              rintro e w8 ⟨rfl, rfl⟩
              have d1 := HRS.out.bx.c1
              have HFN := Lib.hid (HEND.out _ 230 q.line (by rw [HGX.out]; exact ⟨rfl, rfl, HRS.out.bl⟩))
              have k0 := rc_c0 HFN.out.1
              have k1 := rc_c1 HFN.out.1
              have kf := rc_fz HFN.out.1
              have kl := rc_lt HFN.out.1
              have z0 := rc_c0 (rc_put HFN.out.1 (.int .i64 (230 : Nat)) (.int .i64 q.line))
              have z1 := rc_c1 (rc_put HFN.out.1 (.int .i64 (230 : Nat)) (.int .i64 q.line))
              go_wp2_with fail
              try rw [Exit.noGoto_ret]
              refine bodyPost_ret (v := .agg #[.int .i64 (230 : Nat), .int .i64 q.line]) ?_ rfl ⟨230, q.line, rfl, HFN.out.2⟩
              simp [results, Tryd.results26, go_sem, z0, z1, k0, k1, kl]
          · cases hen : endsW s[p] with
            | true =>
              have K50 := Lib.hid (fun w => ends50 ((s[p].toNat : Nat) : Int) w)
              have HZ : Hid (endsz ((s[p].toNat : Nat) : Int) = endsW s[p]) := endsz_bI s[p]
              rw [HZ.out, hen] at K50
              have HSF : Hid (outR q s[p] (s.data.toList.drop (p + 1)) = Rs.er n) := (by show _ = _; have := HX.out; simpa [stepF, HK.out, hen] using this)
              have KS := Lib.hid (outside51 B R (w0.put w.heap.size 0 0) wr s q start wv ev wS p HRS.out hpl (by omega) (by have := HNB.out.ln; omega) (by have := HNB.out.op; omega) (by have := HNB.out.es; omega))
              rw [HSF.out] at KS
              have m10 := n10 h10
              clear HX HD HGO HSF HCU HNB HRS h10 n10 HZ hen
              go_wp2_with fail
              refine (K50.out _).mono ?_
              rintro e w8 ⟨rfl, rfl⟩
              go_wp2_with fail
              refine KS.out.mono ?_
              rintro e w2 ⟨k2, er, rfl, H2⟩
              obtain ⟨rfl, q2, st2, wv2, ev2, wS2, hl2, r2⟩ := H2.out
              have HLN := Lib.hid hl2
              have HR2 := Lib.hid r2
              clear H2 r2 hl2
              have hn0 : ¬ (er : Int) = 0 := by have := HN0.out; omega
              have hn1 : ((er : Int) == 0) = false := by simpa using hn0
              have d1 := HR2.out.bx.c1
              rw [HLN.out] at d1
              have HFN := Lib.hid (HEND.out _ er q.line (by rw [HGX.out]; exact ⟨rfl, rfl, HR2.out.bl⟩))
              have k0 := rc_c0 HFN.out.1
              have k1 := rc_c1 HFN.out.1
              have kf := rc_fz HFN.out.1
              have kl := rc_lt HFN.out.1
              have z0 := rc_c0 (rc_put HFN.out.1 (.int .i64 (er : Nat)) (.int .i64 q.line))
              have z1 := rc_c1 (rc_put HFN.out.1 (.int .i64 (er : Nat)) (.int .i64 q.line))
              go_wp2_with fail
              try rw [Exit.noGoto_ret]
              refine bodyPost_ret (v := .agg #[.int .i64 (er : Nat), .int .i64 q.line]) ?_ rfl ⟨er, q.line, rfl, HFN.out.2⟩
              simp [results, Tryd.results26, go_sem, z0, z1, k0, k1, kl]
            | false =>
              have K50 := Lib.hid (fun w => ends50 ((s[p].toNat : Nat) : Int) w)
              have HZ : Hid (endsz ((s[p].toNat : Nat) : Int) = endsW s[p]) := endsz_bI s[p]
              rw [HZ.out, hen] at K50
              have hn : n = 230 := by
                have := HX.out
                simp [stepF, HK.out, hen] at this
                exact this.symm
              subst hn
              have m10 := n10 h10
              clear h10 n10 HX HD HGO HCU HNB HZ hen
              go_wp2_with fail
              refine (K50.out _).mono ?_
              rintro e w8 ⟨rfl, rfl⟩
              have d1 := HRS.out.bx.c1
              have HFN := Lib.hid (HEND.out _ 230 q.line (by rw [HGX.out]; exact ⟨rfl, rfl, HRS.out.bl⟩))
              have k0 := rc_c0 HFN.out.1
              have k1 := rc_c1 HFN.out.1
              have kf := rc_fz HFN.out.1
              have kl := rc_lt HFN.out.1
              have z0 := rc_c0 (rc_put HFN.out.1 (.int .i64 (230 : Nat)) (.int .i64 q.line))
              have z1 := rc_c1 (rc_put HFN.out.1 (.int .i64 (230 : Nat)) (.int .i64 q.line))
              go_wp2_with fail
              try rw [Exit.noGoto_ret]
              refine bodyPost_ret (v := .agg #[.int .i64 (230 : Nat), .int .i64 q.line]) ?_ rfl ⟨230, q.line, rfl, HFN.out.2⟩
              simp [results, Tryd.results26, go_sem, z0, z1, k0, k1, kl]
        · rw [show decide ((6 : Nat) = 2 ∨ (6 : Nat) = 4) = false from by decide] at K46
          by_cases h10 : s[p] = 10
          · have e10 : ((s[p].toNat : Nat) : Int) = 10 := bz s[p] 10 h10
            have HSF : Hid (outR q s[p] (s.data.toList.drop (p + 1)) = Rs.er n) := (by show _ = _; have := HX.out; simpa [stepF, HK.out, h10] using this)
            have KS := Lib.hid (outside51 B R (w0.put w.heap.size 0 0) wr s q start wv ev wS p HRS.out hpl (by omega) (by have := HNB.out.ln; omega) (by have := HNB.out.op; omega) (by have := HNB.out.es; omega))
            rw [HSF.out] at KS
            clear HX HD HGO HSF HCU HNB HRS h10 n10
            go_wp2_with fail
            refine (K46.out _).mono ?_
            rintro e w9 ⟨rfl, rfl⟩
            go_wp2_with fail
            refine KS.out.mono ?_
            rintro e w2 ⟨k2, er, rfl, H2⟩
            obtain ⟨rfl, q2, st2, wv2, ev2, wS2, hl2, r2⟩ := H2.out
            have HLN := Lib.hid hl2
            have HR2 := Lib.hid r2
            clear H2 r2 hl2
            have hn0 : ¬ (er : Int) = 0 := by have := HN0.out; omega
            have hn1 : ((er : Int) == 0) = false := by simpa using hn0
            have d1 := HR2.out.bx.c1
            rw [HLN.out] at d1
            have HFN := Lib.hid (HEND.out _ er q.line (by rw [HGX.out]; exact ⟨rfl, rfl, HR2.out.bl⟩))
            have k0 := rc_c0 HFN.out.1
            have k1 := rc_c1 HFN.out.1
            have kf := rc_fz HFN.out.1
            have kl := rc_lt HFN.out.1
            have z0 := rc_c0 (rc_put HFN.out.1 (.int .i64 (er : Nat)) (.int .i64 q.line))
            have z1 := rc_c1 (rc_put HFN.out.1 (.int .i64 (er : Nat)) (.int .i64 q.line))
            go_wp2_with fail
            try rw [Exit.noGoto_ret]
            refine bodyPost_ret (v := .agg #[.int .i64 (er : Nat), .int .i64 q.line]) ?_ rfl ⟨er, q.line, rfl, HFN.out.2⟩
            simp [results, Tryd.results26, go_sem, z0, z1, k0, k1, kl]
          · exfalso
            have := HX.out
            simp [stepF, HK.out, h10] at this
      | ok q' =>
        have HX := Lib.hid hX
        have HNB2 := Lib.hid (HNB.out.step hX)
        have HGX : Hid (goF (linesF s.data.toList) q' (s.data.toList.drop (p + 1)) = G) := (by show _ = _; rw [← HGO.out, HD.out, goF, hX])
        clear hX
        have hkk : k = 0 ∨ k = 1 ∨ k = 2 ∨ k = 3 ∨ k = 4 ∨ k = 5 ∨ k = 6 := by omega
        rcases hkk with rfl | rfl | rfl | rfl | rfl | rfl | rfl
        · rw [show decide ((0 : Nat) = 2 ∨ (0 : Nat) = 4) = false from by decide] at K46
          have HSF : Hid (firstF q s[p] (s.data.toList.drop (p + 1)) = Rs.ok q') := (by show _ = _; have := HX.out; simpa [stepF, HK.out] using this)
          clear HX HD HGO
          by_cases h10 : s[p] = 10
          · have e10 : ((s[p].toNat : Nat) : Int) = 10 := bz s[p] 10 h10
            clear h10 n10
            have KS := Lib.hid (first47 B R (w0.put w.heap.size 0 0) wr s q start wv ev wS p HRS.out hpl (by omega) (by have := HNB.out.ln; omega) (by have := HNB.out.op; omega) (by have := HNB.out.es; omega))
            rw [HSF.out] at KS
            clear HCU HNB HSF HRS
            go_wp2_with fail
            refine (K46.out _).mono ?_
            rintro e w9 ⟨rfl, rfl⟩
            go_wp2_with fail
            refine KS.out.mono ?_
            rintro e w2 ⟨k2, er, rfl, H2⟩
            obtain ⟨rfl, rfl, st2, wv2, ev2, wS2, r2, cu2⟩ := H2.out
            have HR2 := Lib.hid r2
            have HC2 := Lib.hid cu2
            clear H2 r2 cu2
            go_wp2_with fail
            go_roundw
            case rel => exact ⟨p + 1, q'.st, q', st2, wv2, ev2, wS2, rfl, rfl, by go_num, by omega, HNB2.out.st, rfl, HR2, HGX, HC2, HNB2⟩
            case measure => simp [intOf]; omega
          · have m10 := n10 h10
            clear n10
            have KS := Lib.hid (first47 B R (w0.put w.heap.size 0 0) wr s q start wv ev wS p HRS.out hpl (by omega) (by have := HNB.out.ln; omega) (by have := HNB.out.op; omega) (by have := HNB.out.es; omega))
            rw [HSF.out] at KS
            clear HCU HNB HSF HRS
            go_wp2_with fail
            refine KS.out.mono ?_
            rintro e w2 ⟨k2, er, rfl, H2⟩
            obtain ⟨rfl, rfl, st2, wv2, ev2, wS2, r2, cu2⟩ := H2.out
            have HR2 := Lib.hid r2
            have HC2 := Lib.hid cu2
            clear H2 r2 cu2
            go_wp2_with fail
            go_roundw
            case rel => exact ⟨p + 1, q'.st, q', st2, wv2, ev2, wS2, rfl, rfl, by go_num, by omega, HNB2.out.st, rfl, HR2, HGX, HC2, HNB2⟩
            case measure => simp [intOf]; omega
        · rw [show decide ((1 : Nat) = 2 ∨ (1 : Nat) = 4) = false from by decide] at K46
          have HSF : Hid (nextF q s[p] (s.data.toList.drop (p + 1)) = Rs.ok q') := (by show _ = _; have := HX.out; simpa [stepF, HK.out] using this)
          clear HX HD HGO
          by_cases h10 : s[p] = 10
          · have e10 : ((s[p].toNat : Nat) : Int) = 10 := bz s[p] 10 h10
            clear h10 n10
            have KS := Lib.hid (next48 B R (w0.put w.heap.size 0 0) wr s q start wv ev wS p HRS.out (HCU.out (.inl HK.out)) hpl (by omega) (by have := HNB.out.ln; omega) (by have := HNB.out.op; omega) (by have := HNB.out.es; omega) HNB.out.ws)
            rw [HSF.out] at KS
            clear HCU HNB HSF HRS
            go_wp2_with fail
            refine (K46.out _).mono ?_
            rintro e w9 ⟨rfl, rfl⟩
            go_wp2_with fail
            refine KS.out.mono ?_
            rintro e w2 ⟨k2, er, rfl, H2⟩
            obtain ⟨rfl, rfl, st2, wv2, ev2, wS2, r2, cu2⟩ := H2.out
            have HR2 := Lib.hid r2
            have HC2 := Lib.hid cu2
            clear H2 r2 cu2
            go_wp2_with fail
            go_roundw
            case rel => exact ⟨p + 1, q'.st, q', st2, wv2, ev2, wS2, rfl, rfl, by go_num, by omega, HNB2.out.st, rfl, HR2, HGX, HC2, HNB2⟩
            case measure => simp [intOf]; omega
          · have m10 := n10 h10
            clear n10
            have KS := Lib.hid (next48 B R (w0.put w.heap.size 0 0) wr s q start wv ev wS p HRS.out (HCU.out (.inl HK.out)) hpl (by omega) (by have := HNB.out.ln; omega) (by have := HNB.out.op; omega) (by have := HNB.out.es; omega) HNB.out.ws)
            rw [HSF.out] at KS
            clear HCU HNB HSF HRS
            go_wp2_with fail
            refine KS.out.mono ?_
            rintro e w2 ⟨k2, er, rfl, H2⟩
            obtain ⟨rfl, rfl, st2, wv2, ev2, wS2, r2, cu2⟩ := H2.out
            have HR2 := Lib.hid r2
            have HC2 := Lib.hid cu2
            clear H2 r2 cu2
            go_wp2_with fail
            go_roundw
            case rel => exact ⟨p + 1, q'.st, q', st2, wv2, ev2, wS2, rfl, rfl, by go_num, by omega, HNB2.out.st, rfl, HR2, HGX, HC2, HNB2⟩
            case measure => simp [intOf]; omega
        · rw [show decide ((2 : Nat) = 2 ∨ (2 : Nat) = 4) = true from by decide] at K46
          by_cases h10 : s[p] = 10
          · exfalso
            have := HX.out
            simp [stepF, HK.out, h10] at this
          · have m10 := n10 h10
            have hq : q' = { q with st := 1, cur := q.cur ++ [s[p]] } := by
              have := HX.out
              simp [stepF, HK.out, h10] at this
              exact this.symm
            subst hq
            have HR2 := Lib.hid (HRS.out.setQ 1 (q.cur ++ [s[p]]))
            have HC2 : Hid (Cu s { q with st := 1, cur := q.cur ++ [s[p]] } start (p + 1)) := fun _ => (HCU.out (.inr (.inl HK.out))).push hpl 1
            clear h10 n10 HX HD HGO HCU HNB HRS
            go_wp2_with fail
            go_roundw
            case rel => exact ⟨p + 1, 1, { q with st := 1, cur := q.cur ++ [s[p]] }, start, wv, ev, wS, rfl, rfl, by go_num, by omega, HNB2.out.st, rfl, HR2, HGX, HC2, HNB2⟩
            case measure => simp [intOf]; omega
        · rw [show decide ((3 : Nat) = 2 ∨ (3 : Nat) = 4) = false from by decide] at K46
          by_cases h10 : s[p] = 10
          · exfalso
            have := HX.out
            simp [stepF, HK.out, h10] at this
          · have m10 := n10 h10
            have HSF : Hid (quotF q s[p] = Rs.ok q') := (by show _ = _; have := HX.out; simpa [stepF, HK.out, h10] using this)
            clear HX HD HGO
            clear n10 h10
            have KS := Lib.hid (quot49 B R (w0.put w.heap.size 0 0) wr s q start wv ev wS p HRS.out (HCU.out (.inr (.inr (.inl HK.out)))) hpl (by omega) HNB.out.ws)
            rw [HSF.out] at KS
            clear HCU HNB HSF HRS
            go_wp2_with fail
            refine KS.out.mono ?_
            rintro e w2 ⟨k2, er, rfl, H2⟩
            obtain ⟨rfl, rfl, st2, wv2, ev2, wS2, r2, cu2⟩ := H2.out
            have HR2 := Lib.hid r2
            have HC2 := Lib.hid cu2
            clear H2 r2 cu2
            go_wp2_with fail
            go_roundw
            case rel => exact ⟨p + 1, q'.st, q', st2, wv2, ev2, wS2, rfl, rfl, by go_num, by omega, HNB2.out.st, rfl, HR2, HGX, HC2, HNB2⟩
            case measure => simp [intOf]; omega
        · rw [show decide ((4 : Nat) = 2 ∨ (4 : Nat) = 4) = true from by decide] at K46
          by_cases h10 : s[p] = 10
          · exfalso
            have := HX.out
            simp [stepF, HK.out, h10] at this
          · have m10 := n10 h10
            have hq : q' = { q with st := 3, cur := q.cur ++ [s[p]] } := by
              have := HX.out
              simp [stepF, HK.out, h10] at this
              exact this.symm
            subst hq
            have HR2 := Lib.hid (HRS.out.setQ 3 (q.cur ++ [s[p]]))
            have HC2 : Hid (Cu s { q with st := 3, cur := q.cur ++ [s[p]] } start (p + 1)) := fun _ => (HCU.out (.inr (.inr (.inr HK.out)))).push hpl 3
            clear h10 n10 HX HD HGO HCU HNB HRS
            go_wp2_with fail
            go_roundw
            case rel => exact ⟨p + 1, 3, { q with st := 3, cur := q.cur ++ [s[p]] }, start, wv, ev, wS, rfl, rfl, by go_num, by omega, HNB2.out.st, rfl, HR2, HGX, HC2, HNB2⟩
            case measure => simp [intOf]; omega
        · rw [show decide ((5 : Nat) = 2 ∨ (5 : Nat) = 4) = false from by decide] at K46
          by_cases h10 : s[p] = 10
          · cases hen : endsW s[p] with
            | true =>
              have K50 := Lib.hid (fun w => ends50 ((s[p].toNat : Nat) : Int) w)
              have HZ : Hid (endsz ((s[p].toNat : Nat) : Int) = endsW s[p]) := endsz_bI s[p]
              rw [HZ.out, hen] at K50
              have HSF : Hid (outR q s[p] (s.data.toList.drop (p + 1)) = Rs.ok q') := (by show _ = _; have := HX.out; simpa [stepF, HK.out, hen] using this)
              have KS := Lib.hid (outside51 B R (w0.put w.heap.size 0 0) wr s q start wv ev wS p HRS.out hpl (by omega) (by have := HNB.out.ln; omega) (by have := HNB.out.op; omega) (by have := HNB.out.es; omega))
              rw [HSF.out] at KS
              have e10 : ((s[p].toNat : Nat) : Int) = 10 := bz s[p] 10 h10
              simp only [e10] at K50
              clear HX HD HGO HSF HCU HNB HRS h10 n10 HZ hen
              go_wp2_with fail
              refine (K46.out _).mono ?_
              rintro e w9 ⟨rfl, rfl⟩
              go_wp2_with fail
              refine (K50.out _).mono ?_
              rintro e w8 ⟨rfl, rfl⟩
              go_wp2_with fail
              refine KS.out.mono ?_
              rintro e w2 ⟨k2, er, rfl, H2⟩
              obtain ⟨rfl, rfl, st2, wv2, ev2, wS2, r2, cu2⟩ := H2.out
              have HR2 := Lib.hid r2
              have HC2 := Lib.hid cu2
              clear H2 r2 cu2
              go_wp2_with fail
              go_roundw
              case rel => exact ⟨p + 1, q'.st, q', st2, wv2, ev2, wS2, rfl, rfl, by go_num, by omega, HNB2.out.st, rfl, HR2, HGX, HC2, HNB2⟩
              case measure => simp [intOf]; omega
            | false =>
              have K50 := Lib.hid (fun w => ends50 ((s[p].toNat : Nat) : Int) w)
              have HZ : Hid (endsz ((s[p].toNat : Nat) : Int) = endsW s[p]) := endsz_bI s[p]
              rw [HZ.out, hen] at K50
              exfalso
              have := HX.out
              simp [stepF, HK.out, hen] at this
          · cases hen : endsW s[p] with
            | true =>
              have K50 := Lib.hid (fun w => ends50 ((s[p].toNat : Nat) : Int) w)
              have HZ : Hid (endsz ((s[p].toNat : Nat) : Int) = endsW s[p]) := endsz_bI s[p]
              rw [HZ.out, hen] at K50
              have HSF : Hid (outR q s[p] (s.data.toList.drop (p + 1)) = Rs.ok q') := (by show _ = _; have := HX.out; simpa [stepF, HK.out, hen] using this)
              have KS := Lib.hid (outside51 B R (w0.put w.heap.size 0 0) wr s q start wv ev wS p HRS.out hpl (by omega) (by have := HNB.out.ln; omega) (by have := HNB.out.op; omega) (by have := HNB.out.es; omega))
              rw [HSF.out] at KS
              have m10 := n10 h10
              clear HX HD HGO HSF HCU HNB HRS h10 n10 HZ hen
              go_wp2_with fail
              refine (K50.out _).mono ?_
              rintro e w8 ⟨rfl, rfl⟩
              go_wp2_with fail
              refine KS.out.mono ?_
              rintro e w2 ⟨k2, er, rfl, H2⟩
              obtain ⟨rfl, rfl, st2, wv2, ev2, wS2, r2, cu2⟩ := H2.out
              have HR2 := Lib.hid r2
              have HC2 := Lib.hid cu2
              clear H2 r2 cu2
              go_wp2_with fail
              go_roundw
              case rel => exact ⟨p + 1, q'.st, q', st2, wv2, ev2, wS2, rfl, rfl, by go_num, by omega, HNB2.out.st, rfl, HR2, HGX, HC2, HNB2⟩
              case measure => simp [intOf]; omega
            | false =>
              have K50 := Lib.hid (fun w => ends50 ((s[p].toNat : Nat) : Int) w)
              have HZ : Hid (endsz ((s[p].toNat : Nat) : Int) = endsW s[p]) := endsz_bI s[p]
              rw [HZ.out, hen] at K50
              exfalso
              have := HX.out
              simp [stepF, HK.out, hen] at this
        · rw [show decide ((6 : Nat) = 2 ∨ (6 : Nat) = 4) = false from by decide] at K46
          by_cases h10 : s[p] = 10
          · have e10 : ((s[p].toNat : Nat) : Int) = 10 := bz s[p] 10 h10
            have HSF : Hid (outR q s[p] (s.data.toList.drop (p + 1)) = Rs.ok q') := (by show _ = _; have := HX.out; simpa [stepF, HK.out, h10] using this)
            have KS := Lib.hid (outside51 B R (w0.put w.heap.size 0 0) wr s q start wv ev wS p HRS.out hpl (by omega) (by have := HNB.out.ln; omega) (by have := HNB.out.op; omega) (by have := HNB.out.es; omega))
            rw [HSF.out] at KS
            clear HX HD HGO HSF HCU HNB HRS h10 n10
            go_wp2_with fail
            refine (K46.out _).mono ?_
            rintro e w9 ⟨rfl, rfl⟩
            go_wp2_with fail
            refine KS.out.mono ?_
            rintro e w2 ⟨k2, er, rfl, H2⟩
            obtain ⟨rfl, rfl, st2, wv2, ev2, wS2, r2, cu2⟩ := H2.out
            have HR2 := Lib.hid r2
            have HC2 := Lib.hid cu2
            clear H2 r2 cu2
            go_wp2_with fail
            go_roundw
            case rel => exact ⟨p + 1, q'.st, q', st2, wv2, ev2, wS2, rfl, rfl, by go_num, by omega, HNB2.out.st, rfl, HR2, HGX, HC2, HNB2⟩
            case measure => simp [intOf]; omega
          · have m10 := n10 h10
            have hq : q' = q := by
              have := HX.out
              simp [stepF, HK.out, h10] at this
              exact this.symm
            subst hq
            have HC2 : Hid (Cu s q' start (p + 1)) := fun e => by have := HK.out; omega
            clear h10 n10 HX HD HGO HCU HNB
            go_wp2_with fail
            go_roundw
            case rel => exact ⟨p + 1, 6, _, start, wv, ev, wS, rfl, rfl, by go_num, by omega, by omega, HK, HRS, HGX, HC2, HNB2⟩
            case measure => simp [intOf]; omega
end Go.Proofs.YtgdkeafjglcgaaaDoor
