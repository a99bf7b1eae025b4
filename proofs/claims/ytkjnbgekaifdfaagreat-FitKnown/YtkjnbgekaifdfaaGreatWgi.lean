/- Texts laid together, in parts: Ftt Ftu Fty Ftx Mlq Mlr Mls0 Ftz Fub Fue Mlt. -/
import Derived.Test.YtkjnbgekaifdfaaGreatWgh
import Derived.Deep.CutBlock
namespace Go.Proofs.YtkjnbgekaifdfaaGreat
open Go.ChangeShapes Go.WideShapes Go.ChangeAt Go.RowKit
set_option linter.unusedVariables false
set_option linter.unusedSimpArgs false
def zeroH : Hd := ⟨0, false, 0, false, false, false, false, false, false, 0⟩
def nilA : MA := ⟨⟨none, 0, 0⟩, ⟨none, 0, 0⟩, ⟨none, 0, 0⟩, ⟨none, 0, 0⟩⟩
def CtP (m : Mg) (size : Int) (w : World) (e : Ending) (w' : World) : Prop := ∃ (G : Hd) (Y : MA), e = .returned (.tuple #[.agg #[.int .u16 G.id, .bool G.rs, .int .i64 G.op, .bool G.aa, .bool G.tc, .bool G.rd, .bool G.ra, .bool G.ad, .bool G.cd, .int .i64 G.rc, .slice Y.q.a Y.q.n Y.q.c, .slice Y.l1.a Y.l1.n Y.l1.c, .slice Y.l2.a Y.l2.n Y.l2.c, .slice Y.l3.a Y.l3.n Y.l3.c], .int .i64 (cutE m size)]) ∧ Hid ((cutE m size = 0 → MRd w' G Y (cutF m size)) ∧ Below w.heap.size w w')
set_option maxRecDepth 100000 in
set_option maxHeartbeats 8000000 in
theorem cut16 (H : Hd) (x : MA) (m : Mg) (size : Int) (w : World) (hm : MRd w H x m) (hF : Fin m) : Calls Tryz.prog 16 #[.agg #[.int .u16 H.id, .bool H.rs, .int .i64 H.op, .bool H.aa, .bool H.tc, .bool H.rd, .bool H.ra, .bool H.ad, .bool H.cd, .int .i64 H.rc, .slice x.q.a x.q.n x.q.c, .slice x.l1.a x.l1.n x.l1.c, .slice x.l2.a x.l2.n x.l2.c, .slice x.l3.a x.l3.n x.l3.c], .int .i64 size] w (CtP m size w) := by
  have hf := two_new H x w
  have HF := Lib.hid hf
  unfold zeroM at HF
  have KC := Lib.hid (fun W (hW : Below w.heap.size w W) => check_msg H x m W (hm.below hW) hF)
  have K37 := Lib.hid (fun W (hW : Below w.heap.size w W) (hc : ChkOk m) => fits37 H x m size W (hm.below hW) hc)
  have K37b := Lib.hid (fun W (hc : ChkOk m) (k : Nat) (Y : MA) (h : MRd W (headF m H k) Y (firstM m k)) => fits37 (headF m H k) Y (firstM m k) size W h (hc.first k))
  have K38 := Lib.hid (fun W (hW : Below w.heap.size w W) => copy38 H x m W (hm.below hW) hF)
  have K38b := Lib.hid (fun W (hc : ChkOk m) (k : Nat) (Y : MA) (h : MRd W (headF m H k) Y (firstM m k)) => copy38 (headF m H k) Y (firstM m k) W h (hc.first k).fin)
  have K39 := Lib.hid (fun W (hW : Below w.heap.size w W) (hc : ChkOk m) (k : Nat) (hk : k ≤ totF m) => first39 H x m k W (hm.below hW) hc hk)
  have K40 := Lib.hid (fun W (hW : Below w.heap.size w W) (hc : ChkOk m) => rfit40 H x m size W (hm.below hW) hc)
  have HM := Lib.hid hm
  clear hm hF hf
  have k0 := box_cell HF.out.2.1 0 _ rfl
  have k1 := box_cell HF.out.2.1 1 _ rfl
  have k2 := box_cell HF.out.2.1 2 _ rfl
  have k3 := box_cell HF.out.2.1 3 _ rfl
  have k4 := box_cell HF.out.2.1 4 _ rfl
  have k5 := box_cell HF.out.2.1 5 _ rfl
  have k6 := box_cell HF.out.2.1 6 _ rfl
  have k7 := box_cell HF.out.2.1 7 _ rfl
  have k8 := box_cell HF.out.2.1 8 _ rfl
  have k9 := box_cell HF.out.2.1 9 _ rfl
  have k10 := box_cell HF.out.2.1 10 _ rfl
  have k11 := box_cell HF.out.2.1 11 _ rfl
  have k12 := box_cell HF.out.2.1 12 _ rfl
  have k13 := box_cell HF.out.2.1 13 _ rfl
  have lb0 := box_lt HF.out.2.1
  obtain ⟨b, hbb⟩ : ∃ b, b = w.heap.size := ⟨_, rfl⟩
  have HBW := Lib.hid hbb
  go_enter Tryz.func16, Tryz.ntmps16
  go_wp2_with fail
  generalize ((w.alloc (.cells #[.int .u16 H.id, .bool H.rs, .int .i64 H.op, .bool H.aa, .bool H.tc, .bool H.rd, .bool H.ra, .bool H.ad, .bool H.cd, .int .i64 H.rc, .slice x.q.a x.q.n x.q.c, .slice x.l1.a x.l1.n x.l1.c, .slice x.l2.a x.l2.n x.l2.c, .slice x.l3.a x.l3.n x.l3.c] 26)).alloc (.cells #[.int .u16 0, .bool false, .int .i64 0, .bool false, .bool false, .bool false, .bool false, .bool false, .bool false, .int .i64 0, .slice none 0 0, .slice none 0 0, .slice none 0 0, .slice none 0 0] 26)) = Z at *
  refine (KC.out _ HF.out.1).mono ?_
  rintro e w1 ⟨rfl, H1⟩
  have HX1 : Hid (w1.heap[b]? = some (.cells #[.int .u16 H.id, .bool H.rs, .int .i64 H.op, .bool H.aa, .bool H.tc, .bool H.rd, .bool H.ra, .bool H.ad, .bool H.cd, .int .i64 H.rc, .slice x.q.a x.q.n x.q.c, .slice x.l1.a x.l1.n x.l1.c, .slice x.l2.a x.l2.n x.l2.c, .slice x.l3.a x.l3.n x.l3.c] 26)) := by show _ = _; rw [hbb]; exact (H1.out.block _ lb0).trans HF.out.2.1
  have HZ1 : Hid (w1.heap[b + 1]? = some (.cells #[.int .u16 0, .bool false, .int .i64 0, .bool false, .bool false, .bool false, .bool false, .bool false, .bool false, .int .i64 0, .slice none 0 0, .slice none 0 0, .slice none 0 0, .slice none 0 0] 26)) := by show _ = _; rw [hbb]; exact (H1.out.block _ (box_lt HF.out.2.2.1)).trans HF.out.2.2.1
  have HB1 : Hid (Below w.heap.size w w1) := HF.out.1.trans (H1.out.mono HF.out.1.size)
  rw [← hbb]
  clear hbb HF H1 k0 k1 k2 k3 k4 k5 k6 k7 k8 k9 k10 k11 k12 k13 lb0 KC
  by_cases hck : chkM m = 0
  · have hC := chkM_zero.1 hck
    have HC := Lib.hid hC
    rw [hck]
    have KA := Lib.hid (K37.out w1 HB1.out hC)
    obtain ⟨ft, hft⟩ : ∃ ft, ft = fitsF m size := ⟨_, rfl⟩
    rw [← hft] at KA
    have HFT := Lib.hid hft
    have HCK := Lib.hid hck
    clear hC hft hck K37
    have k0 := box_cell HX1.out 0 _ rfl
    have k1 := box_cell HX1.out 1 _ rfl
    have k2 := box_cell HX1.out 2 _ rfl
    have k3 := box_cell HX1.out 3 _ rfl
    have k4 := box_cell HX1.out 4 _ rfl
    have k5 := box_cell HX1.out 5 _ rfl
    have k6 := box_cell HX1.out 6 _ rfl
    have k7 := box_cell HX1.out 7 _ rfl
    have k8 := box_cell HX1.out 8 _ rfl
    have k9 := box_cell HX1.out 9 _ rfl
    have k10 := box_cell HX1.out 10 _ rfl
    have k11 := box_cell HX1.out 11 _ rfl
    have k12 := box_cell HX1.out 12 _ rfl
    have k13 := box_cell HX1.out 13 _ rfl
    have lb1 := box_lt HX1.out
    go_wp2_with fail
    refine KA.out.mono ?_
    rintro e w2 ⟨rfl, H2⟩
    have HX2 : Hid (w2.heap[b]? = some (.cells #[.int .u16 H.id, .bool H.rs, .int .i64 H.op, .bool H.aa, .bool H.tc, .bool H.rd, .bool H.ra, .bool H.ad, .bool H.cd, .int .i64 H.rc, .slice x.q.a x.q.n x.q.c, .slice x.l1.a x.l1.n x.l1.c, .slice x.l2.a x.l2.n x.l2.c, .slice x.l3.a x.l3.n x.l3.c] 26)) := (H2.out.block b lb1).trans HX1.out
    have HZ2 : Hid (w2.heap[b + 1]? = some (.cells #[.int .u16 0, .bool false, .int .i64 0, .bool false, .bool false, .bool false, .bool false, .bool false, .bool false, .int .i64 0, .slice none 0 0, .slice none 0 0, .slice none 0 0, .slice none 0 0] 26)) := (H2.out.block _ (box_lt HZ1.out)).trans HZ1.out
    have HB2 : Hid (Below w.heap.size w w2) := HB1.out.trans (H2.out.mono HB1.out.size)
    clear HX1 HZ1 HB1 H2 k0 k1 k2 k3 k4 k5 k6 k7 k8 k9 k10 k11 k12 k13 lb1 KA
    have k0 := box_cell HX2.out 0 _ rfl
    have k1 := box_cell HX2.out 1 _ rfl
    have k2 := box_cell HX2.out 2 _ rfl
    have k3 := box_cell HX2.out 3 _ rfl
    have k4 := box_cell HX2.out 4 _ rfl
    have k5 := box_cell HX2.out 5 _ rfl
    have k6 := box_cell HX2.out 6 _ rfl
    have k7 := box_cell HX2.out 7 _ rfl
    have k8 := box_cell HX2.out 8 _ rfl
    have k9 := box_cell HX2.out 9 _ rfl
    have k10 := box_cell HX2.out 10 _ rfl
    have k11 := box_cell HX2.out 11 _ rfl
    have k12 := box_cell HX2.out 12 _ rfl
    have k13 := box_cell HX2.out 13 _ rfl
    have lb2 := box_lt HX2.out
    cases ft
    · have KA := Lib.hid (K39.out w2 HB2.out HC.out 0 (Nat.zero_le _))
      go_wp2_with fail
      refine KA.out.mono ?_
      rintro e w3 ⟨Y0, rfl, H3⟩
      have KB := Lib.hid (K37b.out w3 HC.out 0 Y0 H3.out.1)
      obtain ⟨f0, hf0⟩ : ∃ f0, f0 = fitsF (firstM m 0) size := ⟨_, rfl⟩
      rw [← hf0] at KB
      have HF0 := Lib.hid hf0
      clear hf0 KA
      go_wp2_with fail
      refine KB.out.mono ?_
      rintro e w4 ⟨rfl, H4⟩
      have hb34 := H3.out.2.trans (H4.out.mono H3.out.2.size)
      have HX4 : Hid (w4.heap[b]? = some (.cells #[.int .u16 H.id, .bool H.rs, .int .i64 H.op, .bool H.aa, .bool H.tc, .bool H.rd, .bool H.ra, .bool H.ad, .bool H.cd, .int .i64 H.rc, .slice x.q.a x.q.n x.q.c, .slice x.l1.a x.l1.n x.l1.c, .slice x.l2.a x.l2.n x.l2.c, .slice x.l3.a x.l3.n x.l3.c] 26)) := (hb34.block b lb2).trans HX2.out
      have HZ4 : Hid (w4.heap[b + 1]? = some (.cells #[.int .u16 0, .bool false, .int .i64 0, .bool false, .bool false, .bool false, .bool false, .bool false, .bool false, .int .i64 0, .slice none 0 0, .slice none 0 0, .slice none 0 0, .slice none 0 0] 26)) := (hb34.block _ (box_lt HZ2.out)).trans HZ2.out
      have HB4 : Hid (Below w.heap.size w w4) := HB2.out.trans (hb34.mono HB2.out.size)
      clear hb34 H3 H4 HX2 HZ2 HB2 k0 k1 k2 k3 k4 k5 k6 k7 k8 k9 k10 k11 k12 k13 lb2 KB
      cases f0
      · have HER : Hid (cutE m size = 3) := by
          show _ = _
          unfold cutE
          rw [if_pos HCK.out, ← HFT.out, ← HF0.out]
          rfl
        have d0 := box_cell HZ4.out 0 _ rfl
        have d1 := box_cell HZ4.out 1 _ rfl
        have d2 := box_cell HZ4.out 2 _ rfl
        have d3 := box_cell HZ4.out 3 _ rfl
        have d4 := box_cell HZ4.out 4 _ rfl
        have d5 := box_cell HZ4.out 5 _ rfl
        have d6 := box_cell HZ4.out 6 _ rfl
        have d7 := box_cell HZ4.out 7 _ rfl
        have d8 := box_cell HZ4.out 8 _ rfl
        have d9 := box_cell HZ4.out 9 _ rfl
        have d10 := box_cell HZ4.out 10 _ rfl
        have d11 := box_cell HZ4.out 11 _ rfl
        have d12 := box_cell HZ4.out 12 _ rfl
        have d13 := box_cell HZ4.out 13 _ rfl
        have f0 : w4.frozen? ⟨b + 1, 0, none⟩ = false := box_frozen HZ4.out _
        have f1 : w4.frozen? ⟨b + 1, 1, none⟩ = false := box_frozen HZ4.out _
        have f2 : w4.frozen? ⟨b + 1, 2, none⟩ = false := box_frozen HZ4.out _
        have f3 : w4.frozen? ⟨b + 1, 3, none⟩ = false := box_frozen HZ4.out _
        have f4 : w4.frozen? ⟨b + 1, 4, none⟩ = false := box_frozen HZ4.out _
        have f5 : w4.frozen? ⟨b + 1, 5, none⟩ = false := box_frozen HZ4.out _
        have f6 : w4.frozen? ⟨b + 1, 6, none⟩ = false := box_frozen HZ4.out _
        have f7 : w4.frozen? ⟨b + 1, 7, none⟩ = false := box_frozen HZ4.out _
        have f8 : w4.frozen? ⟨b + 1, 8, none⟩ = false := box_frozen HZ4.out _
        have f9 : w4.frozen? ⟨b + 1, 9, none⟩ = false := box_frozen HZ4.out _
        have f10 : w4.frozen? ⟨b + 1, 10, none⟩ = false := box_frozen HZ4.out _
        have f11 : w4.frozen? ⟨b + 1, 11, none⟩ = false := box_frozen HZ4.out _
        have f12 : w4.frozen? ⟨b + 1, 12, none⟩ = false := box_frozen HZ4.out _
        have f13 : w4.frozen? ⟨b + 1, 13, none⟩ = false := box_frozen HZ4.out _
        have lz := box_lt HZ4.out
        go_wp2_with fail
        have HG9 := Lib.hid (put14 HZ4.out (.int .u16 0) (.bool false) (.int .i64 0) (.bool false) (.bool false) (.bool false) (.bool false) (.bool false) (.bool false) (.int .i64 0) (.slice none 0 0) (.slice none 0 0) (.slice none 0 0) (.slice none 0 0))
        have HB9 := Lib.hid (put14_below w4 (b + 1) (.int .u16 0) (.bool false) (.int .i64 0) (.bool false) (.bool false) (.bool false) (.bool false) (.bool false) (.bool false) (.int .i64 0) (.slice none 0 0) (.slice none 0 0) (.slice none 0 0) (.slice none 0 0))
        have HO9 := Lib.hid (put14_other w4 (b + 1) (.int .u16 0) (.bool false) (.int .i64 0) (.bool false) (.bool false) (.bool false) (.bool false) (.bool false) (.bool false) (.int .i64 0) (.slice none 0 0) (.slice none 0 0) (.slice none 0 0) (.slice none 0 0))
        generalize ((((((((((((((w4.setCell ⟨b + 1, 0, none⟩ (.int .u16 0)).setCell ⟨b + 1, 1, none⟩ (.bool false)).setCell ⟨b + 1, 2, none⟩ (.int .i64 0)).setCell ⟨b + 1, 3, none⟩ (.bool false)).setCell ⟨b + 1, 4, none⟩ (.bool false)).setCell ⟨b + 1, 5, none⟩ (.bool false)).setCell ⟨b + 1, 6, none⟩ (.bool false)).setCell ⟨b + 1, 7, none⟩ (.bool false)).setCell ⟨b + 1, 8, none⟩ (.bool false)).setCell ⟨b + 1, 9, none⟩ (.int .i64 0)).setCell ⟨b + 1, 10, none⟩ (.slice none 0 0)).setCell ⟨b + 1, 11, none⟩ (.slice none 0 0)).setCell ⟨b + 1, 12, none⟩ (.slice none 0 0)).setCell ⟨b + 1, 13, none⟩ (.slice none 0 0)) = w9 at *
        have y0 : w9.cell? ⟨b + 1, 0, none⟩ = some (.int .u16 0) := box_cell HG9.out 0 _ rfl
        have y1 : w9.cell? ⟨b + 1, 1, none⟩ = some (.bool false) := box_cell HG9.out 1 _ rfl
        have y2 : w9.cell? ⟨b + 1, 2, none⟩ = some (.int .i64 0) := box_cell HG9.out 2 _ rfl
        have y3 : w9.cell? ⟨b + 1, 3, none⟩ = some (.bool false) := box_cell HG9.out 3 _ rfl
        have y4 : w9.cell? ⟨b + 1, 4, none⟩ = some (.bool false) := box_cell HG9.out 4 _ rfl
        have y5 : w9.cell? ⟨b + 1, 5, none⟩ = some (.bool false) := box_cell HG9.out 5 _ rfl
        have y6 : w9.cell? ⟨b + 1, 6, none⟩ = some (.bool false) := box_cell HG9.out 6 _ rfl
        have y7 : w9.cell? ⟨b + 1, 7, none⟩ = some (.bool false) := box_cell HG9.out 7 _ rfl
        have y8 : w9.cell? ⟨b + 1, 8, none⟩ = some (.bool false) := box_cell HG9.out 8 _ rfl
        have y9 : w9.cell? ⟨b + 1, 9, none⟩ = some (.int .i64 0) := box_cell HG9.out 9 _ rfl
        have y10 : w9.cell? ⟨b + 1, 10, none⟩ = some (.slice none 0 0) := box_cell HG9.out 10 _ rfl
        have y11 : w9.cell? ⟨b + 1, 11, none⟩ = some (.slice none 0 0) := box_cell HG9.out 11 _ rfl
        have y12 : w9.cell? ⟨b + 1, 12, none⟩ = some (.slice none 0 0) := box_cell HG9.out 12 _ rfl
        have y13 : w9.cell? ⟨b + 1, 13, none⟩ = some (.slice none 0 0) := box_cell HG9.out 13 _ rfl
        have lt9 := box_lt HG9.out
        have hs9 := HB9.out.size
        have hbe9 : Below w.heap.size w w9 := HB4.out.trans (HB9.out.mono (by have := HBW.out; omega))
        refine bodyPost_ret (v := .tuple #[.agg #[.int .u16 0, .bool false, .int .i64 0, .bool false, .bool false, .bool false, .bool false, .bool false, .bool false, .int .i64 0, .slice none 0 0, .slice none 0 0, .slice none 0 0, .slice none 0 0], .int .i64 3]) ?_ rfl ?_
        · simp [results, Tryz.results16, go_sem, y0, y1, y2, y3, y4, y5, y6, y7, y8, y9, y10, y11, y12, y13, lt9]
        · refine ⟨zeroH, nilA, by rw [HER.out]; rfl, fun e => (by rw [HER.out] at e; cases e), hbe9⟩
      · have HER : Hid (cutE m size = 0) := by
          show _ = _
          unfold cutE
          rw [if_pos HCK.out, ← HFT.out, ← HF0.out]
          rfl
        have HCU : Hid (cutF m size = firstM m (fitN m size 0 (setsF m))) := by
          show _ = _
          unfold cutF
          rw [← HFT.out]
          rfl
        have HLE := Lib.hid (fitN_le m size)
        obtain ⟨N, hN⟩ : ∃ N, N = fitN m size 0 (setsF m) := ⟨_, rfl⟩
        have KA := Lib.hid (fun W hW => K40.out W hW HC.out)
        rw [← hN] at KA HCU HLE
        have KSO : ∀ W : World, W.heap[b]? = some (.cells #[.int .u16 H.id, .bool H.rs, .int .i64 H.op, .bool H.aa, .bool H.tc, .bool H.rd, .bool H.ra, .bool H.ad, .bool H.cd, .int .i64 H.rc, .slice x.q.a x.q.n x.q.c, .slice x.l1.a x.l1.n x.l1.c, .slice x.l2.a x.l2.n x.l2.c, .slice x.l3.a x.l3.n x.l3.c] 26) → W.cell? ⟨b, 0, none⟩ = some (.int .u16 H.id) ∧ W.cell? ⟨b, 1, none⟩ = some (.bool H.rs) ∧ W.cell? ⟨b, 2, none⟩ = some (.int .i64 H.op) ∧ W.cell? ⟨b, 3, none⟩ = some (.bool H.aa) ∧ W.cell? ⟨b, 4, none⟩ = some (.bool H.tc) ∧ W.cell? ⟨b, 5, none⟩ = some (.bool H.rd) ∧ W.cell? ⟨b, 6, none⟩ = some (.bool H.ra) ∧ W.cell? ⟨b, 7, none⟩ = some (.bool H.ad) ∧ W.cell? ⟨b, 8, none⟩ = some (.bool H.cd) ∧ W.cell? ⟨b, 9, none⟩ = some (.int .i64 H.rc) ∧ W.cell? ⟨b, 10, none⟩ = some (.slice x.q.a x.q.n x.q.c) ∧ W.cell? ⟨b, 11, none⟩ = some (.slice x.l1.a x.l1.n x.l1.c) ∧ W.cell? ⟨b, 12, none⟩ = some (.slice x.l2.a x.l2.n x.l2.c) ∧ W.cell? ⟨b, 13, none⟩ = some (.slice x.l3.a x.l3.n x.l3.c) := fun W h => ⟨box_cell h 0 _ rfl, box_cell h 1 _ rfl, box_cell h 2 _ rfl, box_cell h 3 _ rfl, box_cell h 4 _ rfl, box_cell h 5 _ rfl, box_cell h 6 _ rfl, box_cell h 7 _ rfl, box_cell h 8 _ rfl, box_cell h 9 _ rfl, box_cell h 10 _ rfl, box_cell h 11 _ rfl, box_cell h 12 _ rfl, box_cell h 13 _ rfl⟩
        have KZ : Hid (∀ W : World, W.heap[b + 1]? = some (.cells #[.int .u16 0, .bool false, .int .i64 0, .bool false, .bool false, .bool false, .bool false, .bool false, .bool false, .int .i64 0, .slice none 0 0, .slice none 0 0, .slice none 0 0, .slice none 0 0] 26) → W.cell? ⟨b + 1, 0, none⟩ = some (.int .u16 0) ∧ W.cell? ⟨b + 1, 1, none⟩ = some (.bool false) ∧ W.cell? ⟨b + 1, 2, none⟩ = some (.int .i64 0) ∧ W.cell? ⟨b + 1, 3, none⟩ = some (.bool false) ∧ W.cell? ⟨b + 1, 4, none⟩ = some (.bool false) ∧ W.cell? ⟨b + 1, 5, none⟩ = some (.bool false) ∧ W.cell? ⟨b + 1, 6, none⟩ = some (.bool false) ∧ W.cell? ⟨b + 1, 7, none⟩ = some (.bool false) ∧ W.cell? ⟨b + 1, 8, none⟩ = some (.bool false) ∧ W.cell? ⟨b + 1, 9, none⟩ = some (.int .i64 0) ∧ W.cell? ⟨b + 1, 10, none⟩ = some (.slice none 0 0) ∧ W.cell? ⟨b + 1, 11, none⟩ = some (.slice none 0 0) ∧ W.cell? ⟨b + 1, 12, none⟩ = some (.slice none 0 0) ∧ W.cell? ⟨b + 1, 13, none⟩ = some (.slice none 0 0) ∧ (∀ i, W.frozen? ⟨b + 1, i, none⟩ = false) ∧ b + 1 < W.heap.size) := fun W h => ⟨box_cell h 0 _ rfl, box_cell h 1 _ rfl, box_cell h 2 _ rfl, box_cell h 3 _ rfl, box_cell h 4 _ rfl, box_cell h 5 _ rfl, box_cell h 6 _ rfl, box_cell h 7 _ rfl, box_cell h 8 _ rfl, box_cell h 9 _ rfl, box_cell h 10 _ rfl, box_cell h 11 _ rfl, box_cell h 12 _ rfl, box_cell h 13 _ rfl, fun i => box_frozen h i, box_lt h⟩
        have l4 := box_lt HX4.out
        have lz4 := box_lt HZ4.out
        clear hN K40
        go_wp2_with fail
        obtain ⟨a0, a1, a2, a3, a4, a5, a6, a7, a8, a9, a10, a11, a12, a13⟩ := KSO w4.drew HX4.out
        have la : b < w4.drew.heap.size := l4
        go_region_law (first
          | (go_simp; go_at_call 40; refine (KA.out _ HB4.out.drew).mono ?_; rintro e w6 ⟨rfl, H6⟩; have E6 : Hid (w6.heap[b]? = some (.cells #[.int .u16 H.id, .bool H.rs, .int .i64 H.op, .bool H.aa, .bool H.tc, .bool H.rd, .bool H.ra, .bool H.ad, .bool H.cd, .int .i64 H.rc, .slice x.q.a x.q.n x.q.c, .slice x.l1.a x.l1.n x.l1.c, .slice x.l2.a x.l2.n x.l2.c, .slice x.l3.a x.l3.n x.l3.c] 26)) := ((H6.out.block b l4).trans HX4.out); have Z6 : Hid (w6.heap[b + 1]? = some (.cells #[.int .u16 0, .bool false, .int .i64 0, .bool false, .bool false, .bool false, .bool false, .bool false, .bool false, .int .i64 0, .slice none 0 0, .slice none 0 0, .slice none 0 0, .slice none 0 0] 26)) := ((H6.out.block _ lz4).trans HZ4.out); have HB6 : Hid (Below w.heap.size w w6) := (HB4.out.drew.trans (H6.out.mono HB4.out.size)); have l6 := box_lt E6.out; obtain ⟨c0, c1, c2, c3, c4, c5, c6, c7, c8, c9, c10, c11, c12, c13⟩ := KSO w6 E6.out)
          | (go_simp; go_at_call 39; refine (K39.out w6 HB6.out HC.out N HLE.out).mono ?_; rintro e w7 ⟨Y, rfl, H7⟩; have E7 : Hid (w7.heap[b]? = some (.cells #[.int .u16 H.id, .bool H.rs, .int .i64 H.op, .bool H.aa, .bool H.tc, .bool H.rd, .bool H.ra, .bool H.ad, .bool H.cd, .int .i64 H.rc, .slice x.q.a x.q.n x.q.c, .slice x.l1.a x.l1.n x.l1.c, .slice x.l2.a x.l2.n x.l2.c, .slice x.l3.a x.l3.n x.l3.c] 26)) := ((H7.out.2.block b (box_lt E6.out)).trans E6.out); have Z7 : Hid (w7.heap[b + 1]? = some (.cells #[.int .u16 0, .bool false, .int .i64 0, .bool false, .bool false, .bool false, .bool false, .bool false, .bool false, .int .i64 0, .slice none 0 0, .slice none 0 0, .slice none 0 0, .slice none 0 0] 26)) := ((H7.out.2.block _ (box_lt Z6.out)).trans Z6.out); have HB7 : Hid (Below w.heap.size w w7) := (HB6.out.trans (H7.out.2.mono HB6.out.size)); have l7 := box_lt E7.out)
          | (go_simp; go_at_call 38; refine (K38b.out w7 HC.out N Y H7.out.1).mono ?_; rintro e w8 ⟨X, rfl, H8⟩; have E8 : Hid (w8.heap[b]? = some (.cells #[.int .u16 H.id, .bool H.rs, .int .i64 H.op, .bool H.aa, .bool H.tc, .bool H.rd, .bool H.ra, .bool H.ad, .bool H.cd, .int .i64 H.rc, .slice x.q.a x.q.n x.q.c, .slice x.l1.a x.l1.n x.l1.c, .slice x.l2.a x.l2.n x.l2.c, .slice x.l3.a x.l3.n x.l3.c] 26)) := ((H8.out.2.block b (box_lt E7.out)).trans E7.out); have Z8 : Hid (w8.heap[b + 1]? = some (.cells #[.int .u16 0, .bool false, .int .i64 0, .bool false, .bool false, .bool false, .bool false, .bool false, .bool false, .int .i64 0, .slice none 0 0, .slice none 0 0, .slice none 0 0, .slice none 0 0] 26)) := ((H8.out.2.block _ (box_lt Z7.out)).trans Z7.out); have HB8 : Hid (Below w.heap.size w w8) := (HB7.out.trans (H8.out.2.mono HB7.out.size)); have l8 := box_lt E8.out; obtain ⟨d0, d1, d2, d3, d4, d5, d6, d7, d8, d9, d10, d11, d12, d13, dz, dl⟩ := KZ.out w8 Z8.out)
          | fail)
        all_goals
          go_wp2_with fail
          have HG9 := Lib.hid (put14 Z8.out (.int .u16 (headF m H N).id) (.bool (headF m H N).rs) (.int .i64 (headF m H N).op) (.bool (headF m H N).aa) (.bool (headF m H N).tc) (.bool (headF m H N).rd) (.bool (headF m H N).ra) (.bool (headF m H N).ad) (.bool (headF m H N).cd) (.int .i64 (headF m H N).rc) (.slice X.q.a X.q.n X.q.c) (.slice X.l1.a X.l1.n X.l1.c) (.slice X.l2.a X.l2.n X.l2.c) (.slice X.l3.a X.l3.n X.l3.c))
          have HB9 := Lib.hid (put14_below w8 (b + 1) (.int .u16 (headF m H N).id) (.bool (headF m H N).rs) (.int .i64 (headF m H N).op) (.bool (headF m H N).aa) (.bool (headF m H N).tc) (.bool (headF m H N).rd) (.bool (headF m H N).ra) (.bool (headF m H N).ad) (.bool (headF m H N).cd) (.int .i64 (headF m H N).rc) (.slice X.q.a X.q.n X.q.c) (.slice X.l1.a X.l1.n X.l1.c) (.slice X.l2.a X.l2.n X.l2.c) (.slice X.l3.a X.l3.n X.l3.c))
          have HO9 := Lib.hid (put14_other w8 (b + 1) (.int .u16 (headF m H N).id) (.bool (headF m H N).rs) (.int .i64 (headF m H N).op) (.bool (headF m H N).aa) (.bool (headF m H N).tc) (.bool (headF m H N).rd) (.bool (headF m H N).ra) (.bool (headF m H N).ad) (.bool (headF m H N).cd) (.int .i64 (headF m H N).rc) (.slice X.q.a X.q.n X.q.c) (.slice X.l1.a X.l1.n X.l1.c) (.slice X.l2.a X.l2.n X.l2.c) (.slice X.l3.a X.l3.n X.l3.c))
          generalize ((((((((((((((w8.setCell ⟨b + 1, 0, none⟩ (.int .u16 (headF m H N).id)).setCell ⟨b + 1, 1, none⟩ (.bool (headF m H N).rs)).setCell ⟨b + 1, 2, none⟩ (.int .i64 (headF m H N).op)).setCell ⟨b + 1, 3, none⟩ (.bool (headF m H N).aa)).setCell ⟨b + 1, 4, none⟩ (.bool (headF m H N).tc)).setCell ⟨b + 1, 5, none⟩ (.bool (headF m H N).rd)).setCell ⟨b + 1, 6, none⟩ (.bool (headF m H N).ra)).setCell ⟨b + 1, 7, none⟩ (.bool (headF m H N).ad)).setCell ⟨b + 1, 8, none⟩ (.bool (headF m H N).cd)).setCell ⟨b + 1, 9, none⟩ (.int .i64 (headF m H N).rc)).setCell ⟨b + 1, 10, none⟩ (.slice X.q.a X.q.n X.q.c)).setCell ⟨b + 1, 11, none⟩ (.slice X.l1.a X.l1.n X.l1.c)).setCell ⟨b + 1, 12, none⟩ (.slice X.l2.a X.l2.n X.l2.c)).setCell ⟨b + 1, 13, none⟩ (.slice X.l3.a X.l3.n X.l3.c)) = w9 at *
          have y0 : w9.cell? ⟨b + 1, 0, none⟩ = some (.int .u16 (headF m H N).id) := box_cell HG9.out 0 _ rfl
          have y1 : w9.cell? ⟨b + 1, 1, none⟩ = some (.bool (headF m H N).rs) := box_cell HG9.out 1 _ rfl
          have y2 : w9.cell? ⟨b + 1, 2, none⟩ = some (.int .i64 (headF m H N).op) := box_cell HG9.out 2 _ rfl
          have y3 : w9.cell? ⟨b + 1, 3, none⟩ = some (.bool (headF m H N).aa) := box_cell HG9.out 3 _ rfl
          have y4 : w9.cell? ⟨b + 1, 4, none⟩ = some (.bool (headF m H N).tc) := box_cell HG9.out 4 _ rfl
          have y5 : w9.cell? ⟨b + 1, 5, none⟩ = some (.bool (headF m H N).rd) := box_cell HG9.out 5 _ rfl
          have y6 : w9.cell? ⟨b + 1, 6, none⟩ = some (.bool (headF m H N).ra) := box_cell HG9.out 6 _ rfl
          have y7 : w9.cell? ⟨b + 1, 7, none⟩ = some (.bool (headF m H N).ad) := box_cell HG9.out 7 _ rfl
          have y8 : w9.cell? ⟨b + 1, 8, none⟩ = some (.bool (headF m H N).cd) := box_cell HG9.out 8 _ rfl
          have y9 : w9.cell? ⟨b + 1, 9, none⟩ = some (.int .i64 (headF m H N).rc) := box_cell HG9.out 9 _ rfl
          have y10 : w9.cell? ⟨b + 1, 10, none⟩ = some (.slice X.q.a X.q.n X.q.c) := box_cell HG9.out 10 _ rfl
          have y11 : w9.cell? ⟨b + 1, 11, none⟩ = some (.slice X.l1.a X.l1.n X.l1.c) := box_cell HG9.out 11 _ rfl
          have y12 : w9.cell? ⟨b + 1, 12, none⟩ = some (.slice X.l2.a X.l2.n X.l2.c) := box_cell HG9.out 12 _ rfl
          have y13 : w9.cell? ⟨b + 1, 13, none⟩ = some (.slice X.l3.a X.l3.n X.l3.c) := box_cell HG9.out 13 _ rfl
          have lt9 := box_lt HG9.out
          have hs9 := HB9.out.size
          have hbe9 : Below w.heap.size w w9 := HB8.out.trans (HB9.out.mono (by have := HBW.out; omega))
          refine bodyPost_ret (v := .tuple #[.agg #[.int .u16 (headF m H N).id, .bool (headF m H N).rs, .int .i64 (headF m H N).op, .bool (headF m H N).aa, .bool (headF m H N).tc, .bool (headF m H N).rd, .bool (headF m H N).ra, .bool (headF m H N).ad, .bool (headF m H N).cd, .int .i64 (headF m H N).rc, .slice X.q.a X.q.n X.q.c, .slice X.l1.a X.l1.n X.l1.c, .slice X.l2.a X.l2.n X.l2.c, .slice X.l3.a X.l3.n X.l3.c], .int .i64 0]) ?_ rfl ?_
          · simp [results, Tryz.results16, go_sem, y0, y1, y2, y3, y4, y5, y6, y7, y8, y9, y10, y11, y12, y13, lt9]
          · refine ⟨headF m H N, X, by rw [HER.out], fun _ => ?_, hbe9⟩
            rw [HCU.out]
            have hbz := box_lt Z7.out
            exact (H8.out.1.go hs9 (fun j j1 j2 => HO9.out j (by omega))).mrd H7.out.1.h H7.out.1.b
    · have KA := Lib.hid (K38.out w2 HB2.out)
      go_wp2_with fail
      refine KA.out.mono ?_
      rintro e w3 ⟨X, rfl, H3⟩
      have HZ3 : Hid (w3.heap[b + 1]? = some (.cells #[.int .u16 0, .bool false, .int .i64 0, .bool false, .bool false, .bool false, .bool false, .bool false, .bool false, .int .i64 0, .slice none 0 0, .slice none 0 0, .slice none 0 0, .slice none 0 0] 26)) := (H3.out.2.block _ (box_lt HZ2.out)).trans HZ2.out
      have HB3 : Hid (Below w.heap.size w w3) := HB2.out.trans (H3.out.2.mono HB2.out.size)
      have HBZ : Hid (b + 1 < w2.heap.size) := box_lt HZ2.out
      have HER : Hid (cutE m size = 0 ∧ cutF m size = m) := by
        unfold cutE cutF
        rw [if_pos HCK.out, ← HFT.out]
        exact ⟨rfl, rfl⟩
      clear HX2 HZ2 HB2 k0 k1 k2 k3 k4 k5 k6 k7 k8 k9 k10 k11 k12 k13 lb2 KA
      have d0 := box_cell HZ3.out 0 _ rfl
      have d1 := box_cell HZ3.out 1 _ rfl
      have d2 := box_cell HZ3.out 2 _ rfl
      have d3 := box_cell HZ3.out 3 _ rfl
      have d4 := box_cell HZ3.out 4 _ rfl
      have d5 := box_cell HZ3.out 5 _ rfl
      have d6 := box_cell HZ3.out 6 _ rfl
      have d7 := box_cell HZ3.out 7 _ rfl
      have d8 := box_cell HZ3.out 8 _ rfl
      have d9 := box_cell HZ3.out 9 _ rfl
      have d10 := box_cell HZ3.out 10 _ rfl
      have d11 := box_cell HZ3.out 11 _ rfl
      have d12 := box_cell HZ3.out 12 _ rfl
      have d13 := box_cell HZ3.out 13 _ rfl
      have f0 : w3.frozen? ⟨b + 1, 0, none⟩ = false := box_frozen HZ3.out _
      have f1 : w3.frozen? ⟨b + 1, 1, none⟩ = false := box_frozen HZ3.out _
      have f2 : w3.frozen? ⟨b + 1, 2, none⟩ = false := box_frozen HZ3.out _
      have f3 : w3.frozen? ⟨b + 1, 3, none⟩ = false := box_frozen HZ3.out _
      have f4 : w3.frozen? ⟨b + 1, 4, none⟩ = false := box_frozen HZ3.out _
      have f5 : w3.frozen? ⟨b + 1, 5, none⟩ = false := box_frozen HZ3.out _
      have f6 : w3.frozen? ⟨b + 1, 6, none⟩ = false := box_frozen HZ3.out _
      have f7 : w3.frozen? ⟨b + 1, 7, none⟩ = false := box_frozen HZ3.out _
      have f8 : w3.frozen? ⟨b + 1, 8, none⟩ = false := box_frozen HZ3.out _
      have f9 : w3.frozen? ⟨b + 1, 9, none⟩ = false := box_frozen HZ3.out _
      have f10 : w3.frozen? ⟨b + 1, 10, none⟩ = false := box_frozen HZ3.out _
      have f11 : w3.frozen? ⟨b + 1, 11, none⟩ = false := box_frozen HZ3.out _
      have f12 : w3.frozen? ⟨b + 1, 12, none⟩ = false := box_frozen HZ3.out _
      have f13 : w3.frozen? ⟨b + 1, 13, none⟩ = false := box_frozen HZ3.out _
      have lz := box_lt HZ3.out
      go_wp2_with fail
      have HG9 := Lib.hid (put14 HZ3.out (.int .u16 H.id) (.bool H.rs) (.int .i64 H.op) (.bool H.aa) (.bool H.tc) (.bool H.rd) (.bool H.ra) (.bool H.ad) (.bool H.cd) (.int .i64 H.rc) (.slice X.q.a X.q.n X.q.c) (.slice X.l1.a X.l1.n X.l1.c) (.slice X.l2.a X.l2.n X.l2.c) (.slice X.l3.a X.l3.n X.l3.c))
      have HB9 := Lib.hid (put14_below w3 (b + 1) (.int .u16 H.id) (.bool H.rs) (.int .i64 H.op) (.bool H.aa) (.bool H.tc) (.bool H.rd) (.bool H.ra) (.bool H.ad) (.bool H.cd) (.int .i64 H.rc) (.slice X.q.a X.q.n X.q.c) (.slice X.l1.a X.l1.n X.l1.c) (.slice X.l2.a X.l2.n X.l2.c) (.slice X.l3.a X.l3.n X.l3.c))
      have HO9 := Lib.hid (put14_other w3 (b + 1) (.int .u16 H.id) (.bool H.rs) (.int .i64 H.op) (.bool H.aa) (.bool H.tc) (.bool H.rd) (.bool H.ra) (.bool H.ad) (.bool H.cd) (.int .i64 H.rc) (.slice X.q.a X.q.n X.q.c) (.slice X.l1.a X.l1.n X.l1.c) (.slice X.l2.a X.l2.n X.l2.c) (.slice X.l3.a X.l3.n X.l3.c))
      generalize ((((((((((((((w3.setCell ⟨b + 1, 0, none⟩ (.int .u16 H.id)).setCell ⟨b + 1, 1, none⟩ (.bool H.rs)).setCell ⟨b + 1, 2, none⟩ (.int .i64 H.op)).setCell ⟨b + 1, 3, none⟩ (.bool H.aa)).setCell ⟨b + 1, 4, none⟩ (.bool H.tc)).setCell ⟨b + 1, 5, none⟩ (.bool H.rd)).setCell ⟨b + 1, 6, none⟩ (.bool H.ra)).setCell ⟨b + 1, 7, none⟩ (.bool H.ad)).setCell ⟨b + 1, 8, none⟩ (.bool H.cd)).setCell ⟨b + 1, 9, none⟩ (.int .i64 H.rc)).setCell ⟨b + 1, 10, none⟩ (.slice X.q.a X.q.n X.q.c)).setCell ⟨b + 1, 11, none⟩ (.slice X.l1.a X.l1.n X.l1.c)).setCell ⟨b + 1, 12, none⟩ (.slice X.l2.a X.l2.n X.l2.c)).setCell ⟨b + 1, 13, none⟩ (.slice X.l3.a X.l3.n X.l3.c)) = w9 at *
      have y0 : w9.cell? ⟨b + 1, 0, none⟩ = some (.int .u16 H.id) := box_cell HG9.out 0 _ rfl
      have y1 : w9.cell? ⟨b + 1, 1, none⟩ = some (.bool H.rs) := box_cell HG9.out 1 _ rfl
      have y2 : w9.cell? ⟨b + 1, 2, none⟩ = some (.int .i64 H.op) := box_cell HG9.out 2 _ rfl
      have y3 : w9.cell? ⟨b + 1, 3, none⟩ = some (.bool H.aa) := box_cell HG9.out 3 _ rfl
      have y4 : w9.cell? ⟨b + 1, 4, none⟩ = some (.bool H.tc) := box_cell HG9.out 4 _ rfl
      have y5 : w9.cell? ⟨b + 1, 5, none⟩ = some (.bool H.rd) := box_cell HG9.out 5 _ rfl
      have y6 : w9.cell? ⟨b + 1, 6, none⟩ = some (.bool H.ra) := box_cell HG9.out 6 _ rfl
      have y7 : w9.cell? ⟨b + 1, 7, none⟩ = some (.bool H.ad) := box_cell HG9.out 7 _ rfl
      have y8 : w9.cell? ⟨b + 1, 8, none⟩ = some (.bool H.cd) := box_cell HG9.out 8 _ rfl
      have y9 : w9.cell? ⟨b + 1, 9, none⟩ = some (.int .i64 H.rc) := box_cell HG9.out 9 _ rfl
      have y10 : w9.cell? ⟨b + 1, 10, none⟩ = some (.slice X.q.a X.q.n X.q.c) := box_cell HG9.out 10 _ rfl
      have y11 : w9.cell? ⟨b + 1, 11, none⟩ = some (.slice X.l1.a X.l1.n X.l1.c) := box_cell HG9.out 11 _ rfl
      have y12 : w9.cell? ⟨b + 1, 12, none⟩ = some (.slice X.l2.a X.l2.n X.l2.c) := box_cell HG9.out 12 _ rfl
      have y13 : w9.cell? ⟨b + 1, 13, none⟩ = some (.slice X.l3.a X.l3.n X.l3.c) := box_cell HG9.out 13 _ rfl
      have lt9 := box_lt HG9.out
      have hs9 := HB9.out.size
      have hbe9 : Below w.heap.size w w9 := HB3.out.trans (HB9.out.mono (by have := HBW.out; omega))
      refine bodyPost_ret (v := .tuple #[.agg #[.int .u16 H.id, .bool H.rs, .int .i64 H.op, .bool H.aa, .bool H.tc, .bool H.rd, .bool H.ra, .bool H.ad, .bool H.cd, .int .i64 H.rc, .slice X.q.a X.q.n X.q.c, .slice X.l1.a X.l1.n X.l1.c, .slice X.l2.a X.l2.n X.l2.c, .slice X.l3.a X.l3.n X.l3.c], .int .i64 0]) ?_ rfl ?_
      · simp [results, Tryz.results16, go_sem, y0, y1, y2, y3, y4, y5, y6, y7, y8, y9, y10, y11, y12, y13, lt9]
      · refine ⟨H, X, by rw [HER.out.1], fun _ => ?_, hbe9⟩
        rw [HER.out.2]
        have hbz := HBZ.out
        exact (H3.out.1.go hs9 (fun j j1 j2 => HO9.out j (by omega))).mrd HM.out.h HM.out.b
  · have HER : Hid (cutE m size = chkM m) := by
      show _ = _
      unfold cutE
      rw [if_neg hck]
    have HNE : Hid (¬ chkM m = 0) := hck
    obtain ⟨er, her⟩ : ∃ er, er = chkM m := ⟨_, rfl⟩
    rw [← her] at hck HER HNE ⊢
    have hckb : (er == 0) = false := by simpa using hck
    clear her
    have d0 := box_cell HZ1.out 0 _ rfl
    have d1 := box_cell HZ1.out 1 _ rfl
    have d2 := box_cell HZ1.out 2 _ rfl
    have d3 := box_cell HZ1.out 3 _ rfl
    have d4 := box_cell HZ1.out 4 _ rfl
    have d5 := box_cell HZ1.out 5 _ rfl
    have d6 := box_cell HZ1.out 6 _ rfl
    have d7 := box_cell HZ1.out 7 _ rfl
    have d8 := box_cell HZ1.out 8 _ rfl
    have d9 := box_cell HZ1.out 9 _ rfl
    have d10 := box_cell HZ1.out 10 _ rfl
    have d11 := box_cell HZ1.out 11 _ rfl
    have d12 := box_cell HZ1.out 12 _ rfl
    have d13 := box_cell HZ1.out 13 _ rfl
    have f0 : w1.frozen? ⟨b + 1, 0, none⟩ = false := box_frozen HZ1.out _
    have f1 : w1.frozen? ⟨b + 1, 1, none⟩ = false := box_frozen HZ1.out _
    have f2 : w1.frozen? ⟨b + 1, 2, none⟩ = false := box_frozen HZ1.out _
    have f3 : w1.frozen? ⟨b + 1, 3, none⟩ = false := box_frozen HZ1.out _
    have f4 : w1.frozen? ⟨b + 1, 4, none⟩ = false := box_frozen HZ1.out _
    have f5 : w1.frozen? ⟨b + 1, 5, none⟩ = false := box_frozen HZ1.out _
    have f6 : w1.frozen? ⟨b + 1, 6, none⟩ = false := box_frozen HZ1.out _
    have f7 : w1.frozen? ⟨b + 1, 7, none⟩ = false := box_frozen HZ1.out _
    have f8 : w1.frozen? ⟨b + 1, 8, none⟩ = false := box_frozen HZ1.out _
    have f9 : w1.frozen? ⟨b + 1, 9, none⟩ = false := box_frozen HZ1.out _
    have f10 : w1.frozen? ⟨b + 1, 10, none⟩ = false := box_frozen HZ1.out _
    have f11 : w1.frozen? ⟨b + 1, 11, none⟩ = false := box_frozen HZ1.out _
    have f12 : w1.frozen? ⟨b + 1, 12, none⟩ = false := box_frozen HZ1.out _
    have f13 : w1.frozen? ⟨b + 1, 13, none⟩ = false := box_frozen HZ1.out _
    have lz := box_lt HZ1.out
    go_wp2_with fail
    have HG9 := Lib.hid (put14 HZ1.out (.int .u16 0) (.bool false) (.int .i64 0) (.bool false) (.bool false) (.bool false) (.bool false) (.bool false) (.bool false) (.int .i64 0) (.slice none 0 0) (.slice none 0 0) (.slice none 0 0) (.slice none 0 0))
    have HB9 := Lib.hid (put14_below w1 (b + 1) (.int .u16 0) (.bool false) (.int .i64 0) (.bool false) (.bool false) (.bool false) (.bool false) (.bool false) (.bool false) (.int .i64 0) (.slice none 0 0) (.slice none 0 0) (.slice none 0 0) (.slice none 0 0))
    have HO9 := Lib.hid (put14_other w1 (b + 1) (.int .u16 0) (.bool false) (.int .i64 0) (.bool false) (.bool false) (.bool false) (.bool false) (.bool false) (.bool false) (.int .i64 0) (.slice none 0 0) (.slice none 0 0) (.slice none 0 0) (.slice none 0 0))
    generalize ((((((((((((((w1.setCell ⟨b + 1, 0, none⟩ (.int .u16 0)).setCell ⟨b + 1, 1, none⟩ (.bool false)).setCell ⟨b + 1, 2, none⟩ (.int .i64 0)).setCell ⟨b + 1, 3, none⟩ (.bool false)).setCell ⟨b + 1, 4, none⟩ (.bool false)).setCell ⟨b + 1, 5, none⟩ (.bool false)).setCell ⟨b + 1, 6, none⟩ (.bool false)).setCell ⟨b + 1, 7, none⟩ (.bool false)).setCell ⟨b + 1, 8, none⟩ (.bool false)).setCell ⟨b + 1, 9, none⟩ (.int .i64 0)).setCell ⟨b + 1, 10, none⟩ (.slice none 0 0)).setCell ⟨b + 1, 11, none⟩ (.slice none 0 0)).setCell ⟨b + 1, 12, none⟩ (.slice none 0 0)).setCell ⟨b + 1, 13, none⟩ (.slice none 0 0)) = w9 at *
    have y0 : w9.cell? ⟨b + 1, 0, none⟩ = some (.int .u16 0) := box_cell HG9.out 0 _ rfl
    have y1 : w9.cell? ⟨b + 1, 1, none⟩ = some (.bool false) := box_cell HG9.out 1 _ rfl
    have y2 : w9.cell? ⟨b + 1, 2, none⟩ = some (.int .i64 0) := box_cell HG9.out 2 _ rfl
    have y3 : w9.cell? ⟨b + 1, 3, none⟩ = some (.bool false) := box_cell HG9.out 3 _ rfl
    have y4 : w9.cell? ⟨b + 1, 4, none⟩ = some (.bool false) := box_cell HG9.out 4 _ rfl
    have y5 : w9.cell? ⟨b + 1, 5, none⟩ = some (.bool false) := box_cell HG9.out 5 _ rfl
    have y6 : w9.cell? ⟨b + 1, 6, none⟩ = some (.bool false) := box_cell HG9.out 6 _ rfl
    have y7 : w9.cell? ⟨b + 1, 7, none⟩ = some (.bool false) := box_cell HG9.out 7 _ rfl
    have y8 : w9.cell? ⟨b + 1, 8, none⟩ = some (.bool false) := box_cell HG9.out 8 _ rfl
    have y9 : w9.cell? ⟨b + 1, 9, none⟩ = some (.int .i64 0) := box_cell HG9.out 9 _ rfl
    have y10 : w9.cell? ⟨b + 1, 10, none⟩ = some (.slice none 0 0) := box_cell HG9.out 10 _ rfl
    have y11 : w9.cell? ⟨b + 1, 11, none⟩ = some (.slice none 0 0) := box_cell HG9.out 11 _ rfl
    have y12 : w9.cell? ⟨b + 1, 12, none⟩ = some (.slice none 0 0) := box_cell HG9.out 12 _ rfl
    have y13 : w9.cell? ⟨b + 1, 13, none⟩ = some (.slice none 0 0) := box_cell HG9.out 13 _ rfl
    have lt9 := box_lt HG9.out
    have hs9 := HB9.out.size
    have hbe9 : Below w.heap.size w w9 := HB1.out.trans (HB9.out.mono (by have := HBW.out; omega))
    refine bodyPost_ret (v := .tuple #[.agg #[.int .u16 0, .bool false, .int .i64 0, .bool false, .bool false, .bool false, .bool false, .bool false, .bool false, .int .i64 0, .slice none 0 0, .slice none 0 0, .slice none 0 0, .slice none 0 0], .int .i64 er]) ?_ rfl ?_
    · simp [results, Tryz.results16, go_sem, y0, y1, y2, y3, y4, y5, y6, y7, y8, y9, y10, y11, y12, y13, lt9]
    · refine ⟨zeroH, nilA, by rw [HER.out]; rfl, fun e => (by rw [HER.out] at e; exact absurd e HNE.out), hbe9⟩
end Go.Proofs.YtkjnbgekaifdfaaGreat
namespace Go.Proofs.YtkjnbgekaifdfaaGreat
open Go.ChangeShapes Go.WideShapes Go.ChangeAt Go.RowKit
set_option linter.unusedVariables false
set_option linter.unusedSimpArgs false
theorem cutE_ok {m : Mg} {size : Int} (h : cutE m size = 0) : ChkOk m ∧ ChkOk (cutF m size) ∧ fitsF (cutF m size) size = true := by
  unfold cutE at h
  split at h
  · next hc =>
    have hC := chkM_zero.1 hc
    refine ⟨hC, ?_⟩
    unfold cutF
    by_cases h1 : fitsF m size
    · rw [if_pos h1]; exact ⟨hC, h1⟩
    · rw [if_neg h1] at h ⊢
      refine ⟨hC.first _, ?_⟩
      obtain ⟨j, j1, j2, j3, j4⟩ := fitN_spec m size (setsF m) 0
      have h0 : fitsF (firstM m 0) size = true := by
        by_cases h0 : fitsF (firstM m 0) size
        · exact h0
        · rw [if_neg h0] at h; cases h
      rw [j2]
      rcases j4 with rfl | j4
      · simpa using h0
      · exact j4
  · next hc => exact absurd h hc
def BtR (m : Mg) (size : Int) (w' : World) (s : Sl) (er : Int) : Prop := if cutE m size = 0 then WrR (prun (pmsg (cutF m size)) (some ([], []))) w' s er else er = cutE m size ∧ s = ⟨none, 0, 0⟩
def BtP (m : Mg) (size : Int) (w : World) (e : Ending) (w' : World) : Prop := ∃ (s : Sl) (er : Int), e = .returned (.tuple #[(.slice s.a s.n s.c), .int .i64 er]) ∧ Hid (BtR m size w' s er ∧ Below w.heap.size w w')
set_option maxRecDepth 100000 in
set_option maxHeartbeats 4000000 in
theorem bytes17 (H : Hd) (x : MA) (m : Mg) (size : Int) (w : World) (hm : MRd w H x m) (hF : Fin m) : Calls Tryz.prog 17 #[.agg #[.int .u16 H.id, .bool H.rs, .int .i64 H.op, .bool H.aa, .bool H.tc, .bool H.rd, .bool H.ra, .bool H.ad, .bool H.cd, .int .i64 H.rc, .slice x.q.a x.q.n x.q.c, .slice x.l1.a x.l1.n x.l1.c, .slice x.l2.a x.l2.n x.l2.c, .slice x.l3.a x.l3.n x.l3.c], .int .i64 size] w (BtP m size w) := by
  have hb0 := newF_below w (.cells #[.int .u16 H.id, .bool H.rs, .int .i64 H.op, .bool H.aa, .bool H.tc, .bool H.rd, .bool H.ra, .bool H.ad, .bool H.cd, .int .i64 H.rc, .slice x.q.a x.q.n x.q.c, .slice x.l1.a x.l1.n x.l1.c, .slice x.l2.a x.l2.n x.l2.c, .slice x.l3.a x.l3.n x.l3.c] 26)
  have hx0 : (w.alloc (.cells #[.int .u16 H.id, .bool H.rs, .int .i64 H.op, .bool H.aa, .bool H.tc, .bool H.rd, .bool H.ra, .bool H.ad, .bool H.cd, .int .i64 H.rc, .slice x.q.a x.q.n x.q.c, .slice x.l1.a x.l1.n x.l1.c, .slice x.l2.a x.l2.n x.l2.c, .slice x.l3.a x.l3.n x.l3.c] 26)).heap[w.heap.size]? = some (.cells #[.int .u16 H.id, .bool H.rs, .int .i64 H.op, .bool H.aa, .bool H.tc, .bool H.rd, .bool H.ra, .bool H.ad, .bool H.cd, .int .i64 H.rc, .slice x.q.a x.q.n x.q.c, .slice x.l1.a x.l1.n x.l1.c, .slice x.l2.a x.l2.n x.l2.c, .slice x.l3.a x.l3.n x.l3.c] 26) := heap_alloc_new _ _
  have KC := Lib.hid (cut16 H x m size _ (hm.below hb0) hF)
  have HB0 := Lib.hid hb0
  have k0 := box_cell hx0 0 _ rfl
  have k1 := box_cell hx0 1 _ rfl
  have k2 := box_cell hx0 2 _ rfl
  have k3 := box_cell hx0 3 _ rfl
  have k4 := box_cell hx0 4 _ rfl
  have k5 := box_cell hx0 5 _ rfl
  have k6 := box_cell hx0 6 _ rfl
  have k7 := box_cell hx0 7 _ rfl
  have k8 := box_cell hx0 8 _ rfl
  have k9 := box_cell hx0 9 _ rfl
  have k10 := box_cell hx0 10 _ rfl
  have k11 := box_cell hx0 11 _ rfl
  have k12 := box_cell hx0 12 _ rfl
  have k13 := box_cell hx0 13 _ rfl
  have lb0 := box_lt hx0
  clear hm hF hb0 hx0
  go_enter Tryz.func17, Tryz.ntmps17
  go_wp2_with fail
  refine KC.out.mono ?_
  rintro e w1 ⟨G, Y, rfl, H1⟩
  generalize w.alloc (.cells #[.int .u16 H.id, .bool H.rs, .int .i64 H.op, .bool H.aa, .bool H.tc, .bool H.rd, .bool H.ra, .bool H.ad, .bool H.cd, .int .i64 H.rc, .slice x.q.a x.q.n x.q.c, .slice x.l1.a x.l1.n x.l1.c, .slice x.l2.a x.l2.n x.l2.c, .slice x.l3.a x.l3.n x.l3.c] 26) = wz at *
  clear k0 k1 k2 k3 k4 k5 k6 k7 k8 k9 k10 k11 k12 k13 lb0 KC
  have HB1 : Hid (Below w.heap.size w (w1.alloc (.cells #[.int .u16 G.id, .bool G.rs, .int .i64 G.op, .bool G.aa, .bool G.tc, .bool G.rd, .bool G.ra, .bool G.ad, .bool G.cd, .int .i64 G.rc, .slice Y.q.a Y.q.n Y.q.c, .slice Y.l1.a Y.l1.n Y.l1.c, .slice Y.l2.a Y.l2.n Y.l2.c, .slice Y.l3.a Y.l3.n Y.l3.c] 26))) := (HB0.out.trans (H1.out.2.mono HB0.out.size)).trans ((newF_below w1 _).mono (Nat.le_trans HB0.out.size H1.out.2.size))
  have HX1 : Hid ((w1.alloc (.cells #[.int .u16 G.id, .bool G.rs, .int .i64 G.op, .bool G.aa, .bool G.tc, .bool G.rd, .bool G.ra, .bool G.ad, .bool G.cd, .int .i64 G.rc, .slice Y.q.a Y.q.n Y.q.c, .slice Y.l1.a Y.l1.n Y.l1.c, .slice Y.l2.a Y.l2.n Y.l2.c, .slice Y.l3.a Y.l3.n Y.l3.c] 26)).heap[w1.heap.size]? = some (.cells #[.int .u16 G.id, .bool G.rs, .int .i64 G.op, .bool G.aa, .bool G.tc, .bool G.rd, .bool G.ra, .bool G.ad, .bool G.cd, .int .i64 G.rc, .slice Y.q.a Y.q.n Y.q.c, .slice Y.l1.a Y.l1.n Y.l1.c, .slice Y.l2.a Y.l2.n Y.l2.c, .slice Y.l3.a Y.l3.n Y.l3.c] 26)) := heap_alloc_new _ _
  have HN1 := Lib.hid (newF_below w1 (.cells #[.int .u16 G.id, .bool G.rs, .int .i64 G.op, .bool G.aa, .bool G.tc, .bool G.rd, .bool G.ra, .bool G.ad, .bool G.cd, .int .i64 G.rc, .slice Y.q.a Y.q.n Y.q.c, .slice Y.l1.a Y.l1.n Y.l1.c, .slice Y.l2.a Y.l2.n Y.l2.c, .slice Y.l3.a Y.l3.n Y.l3.c] 26))
  by_cases hc : cutE m size = 0
  · have hR := H1.out.1 hc
    have HK := Lib.hid (bytes_msg G Y (cutF m size) (w1.alloc (.cells #[.int .u16 G.id, .bool G.rs, .int .i64 G.op, .bool G.aa, .bool G.tc, .bool G.rd, .bool G.ra, .bool G.ad, .bool G.cd, .int .i64 G.rc, .slice Y.q.a Y.q.n Y.q.c, .slice Y.l1.a Y.l1.n Y.l1.c, .slice Y.l2.a Y.l2.n Y.l2.c, .slice Y.l3.a Y.l3.n Y.l3.c] 26)) (hR.below HN1.out) (cutE_ok hc).2.1.fin)
    have HC := Lib.hid hc
    have HCK : Hid (chkM (cutF m size) = 0) := chkM_zero.2 (cutE_ok hc).2.1
    rw [hc]
    clear hc hR H1
    have k0 := box_cell HX1.out 0 _ rfl
    have k1 := box_cell HX1.out 1 _ rfl
    have k2 := box_cell HX1.out 2 _ rfl
    have k3 := box_cell HX1.out 3 _ rfl
    have k4 := box_cell HX1.out 4 _ rfl
    have k5 := box_cell HX1.out 5 _ rfl
    have k6 := box_cell HX1.out 6 _ rfl
    have k7 := box_cell HX1.out 7 _ rfl
    have k8 := box_cell HX1.out 8 _ rfl
    have k9 := box_cell HX1.out 9 _ rfl
    have k10 := box_cell HX1.out 10 _ rfl
    have k11 := box_cell HX1.out 11 _ rfl
    have k12 := box_cell HX1.out 12 _ rfl
    have k13 := box_cell HX1.out 13 _ rfl
    have lb1 := box_lt HX1.out
    go_wp2_with fail
    refine HK.out.mono ?_
    rintro e w2 ⟨⟨sa, sn, sc⟩, er, rfl, H2⟩
    have HE : Hid (BtR m size w2 ⟨sa, sn, sc⟩ er ∧ Below w.heap.size w w2) := by
      refine ⟨?_, HB1.out.trans (H2.out.2.mono HB1.out.size)⟩
      have h := H2.out.1
      unfold ByR at h
      rw [if_pos HCK.out] at h
      unfold BtR
      rw [if_pos HC.out]
      exact h
    clear k0 k1 k2 k3 k4 k5 k6 k7 k8 k9 k10 k11 k12 k13 lb1 HK H2
    go_wp2_with fail
    refine bodyPost_ret (v := .tuple #[.slice sa sn sc, .int .i64 er]) ?_ rfl ⟨⟨sa, sn, sc⟩, er, rfl, HE.out⟩
    simp [results, Tryz.results17, go_sem]
  · have HE : Hid (BtR m size (w1.alloc (.cells #[.int .u16 G.id, .bool G.rs, .int .i64 G.op, .bool G.aa, .bool G.tc, .bool G.rd, .bool G.ra, .bool G.ad, .bool G.cd, .int .i64 G.rc, .slice Y.q.a Y.q.n Y.q.c, .slice Y.l1.a Y.l1.n Y.l1.c, .slice Y.l2.a Y.l2.n Y.l2.c, .slice Y.l3.a Y.l3.n Y.l3.c] 26)) ⟨none, 0, 0⟩ (cutE m size) ∧ Below w.heap.size w (w1.alloc (.cells #[.int .u16 G.id, .bool G.rs, .int .i64 G.op, .bool G.aa, .bool G.tc, .bool G.rd, .bool G.ra, .bool G.ad, .bool G.cd, .int .i64 G.rc, .slice Y.q.a Y.q.n Y.q.c, .slice Y.l1.a Y.l1.n Y.l1.c, .slice Y.l2.a Y.l2.n Y.l2.c, .slice Y.l3.a Y.l3.n Y.l3.c] 26))) := by
      refine ⟨?_, HB1.out⟩
      unfold BtR
      rw [if_neg hc]
      exact ⟨rfl, rfl⟩
    generalize hE : cutE m size = er at *
    have hcb : (er == 0) = false := by simpa using hc
    clear H1
    go_wp2_with fail
    refine bodyPost_ret (v := .tuple #[.slice none 0 0, .int .i64 er]) ?_ rfl ⟨⟨none, 0, 0⟩, er, rfl, HE.out⟩
    simp [results, Tryz.results17, go_sem]
theorem field13 (v0 v1 v2 v3 v4 v5 v6 v7 v8 v9 v10 v11 v12 v13 : Value) (w : World) : (Instr.field 26 (.agg #[v0, v1, v2, v3, v4, v5, v6, v7, v8, v9, v10, v11, v12, v13]) 13).run Tryz.prog w = .ok v13 w := by kernel_rfl
set_option maxRecDepth 100000 in
set_option maxHeartbeats 4000000 in
theorem records21 (H : Hd) (x : MA) (m : Mg) (w : World) (hm : MRd w H x m) (hF : Fin m) : Calls Tryz.prog 21 #[.agg #[.int .u16 H.id, .bool H.rs, .int .i64 H.op, .bool H.aa, .bool H.tc, .bool H.rd, .bool H.ra, .bool H.ad, .bool H.cd, .int .i64 H.rc, .slice x.q.a x.q.n x.q.c, .slice x.l1.a x.l1.n x.l1.c, .slice x.l2.a x.l2.n x.l2.c, .slice x.l3.a x.l3.n x.l3.c]] w fun e w' => e = .returned (.int .i64 ((recN m : Nat) : Int)) ∧ Hid (Below w.heap.size w w') := by
  have hb0 := newF_below w (.cells #[.int .u16 H.id, .bool H.rs, .int .i64 H.op, .bool H.aa, .bool H.tc, .bool H.rd, .bool H.ra, .bool H.ad, .bool H.cd, .int .i64 H.rc, .slice x.q.a x.q.n x.q.c, .slice x.l1.a x.l1.n x.l1.c, .slice x.l2.a x.l2.n x.l2.c, .slice x.l3.a x.l3.n x.l3.c] 26)
  have hx0 : (w.alloc (.cells #[.int .u16 H.id, .bool H.rs, .int .i64 H.op, .bool H.aa, .bool H.tc, .bool H.rd, .bool H.ra, .bool H.ad, .bool H.cd, .int .i64 H.rc, .slice x.q.a x.q.n x.q.c, .slice x.l1.a x.l1.n x.l1.c, .slice x.l2.a x.l2.n x.l2.c, .slice x.l3.a x.l3.n x.l3.c] 26)).heap[w.heap.size]? = some (.cells #[.int .u16 H.id, .bool H.rs, .int .i64 H.op, .bool H.aa, .bool H.tc, .bool H.rd, .bool H.ra, .bool H.ad, .bool H.cd, .int .i64 H.rc, .slice x.q.a x.q.n x.q.c, .slice x.l1.a x.l1.n x.l1.c, .slice x.l2.a x.l2.n x.l2.c, .slice x.l3.a x.l3.n x.l3.c] 26) := heap_alloc_new _ _
  have KW := Lib.hid (fun W (hW : Below w.heap.size w W) => without36 H x m W (hm.below hW) hF)
  have HB0 := Lib.hid hb0
  have HX0 := Lib.hid hx0
  have e1 := hm.l1.len
  have e2 := hm.l2.len
  have ht := hF.t
  unfold tot at ht
  have HRN : Hid (recN m = x.l1.n + x.l2.n + (flt m.l3).length ∧ (flt m.l3).length ≤ 1000000) := ⟨by unfold recN; rw [e1, e2], by have := cnt_flt m.l3; omega⟩
  have hn1 : x.l1.n ≤ 1000000 := by omega
  have hn2 : x.l2.n ≤ 1000000 := by omega
  clear hm hF hb0 hx0 e1 e2 ht
  obtain ⟨b, hbb⟩ : ∃ b, b = w.heap.size := ⟨_, rfl⟩
  go_enter Tryz.func21, Tryz.ntmps21
  go_wp2_with fail
  generalize w.alloc (.cells #[.int .u16 H.id, .bool H.rs, .int .i64 H.op, .bool H.aa, .bool H.tc, .bool H.rd, .bool H.ra, .bool H.ad, .bool H.cd, .int .i64 H.rc, .slice x.q.a x.q.n x.q.c, .slice x.l1.a x.l1.n x.l1.c, .slice x.l2.a x.l2.n x.l2.c, .slice x.l3.a x.l3.n x.l3.c] 26) = w0 at *
  rw [← hbb] at HX0 ⊢
  clear hbb
  have KS : ∀ W, Below w0.heap.size w0 W → (W.cell? ⟨b, 0, none⟩ = some (.int .u16 H.id) ∧ W.cell? ⟨b, 1, none⟩ = some (.bool H.rs) ∧ W.cell? ⟨b, 2, none⟩ = some (.int .i64 H.op) ∧ W.cell? ⟨b, 3, none⟩ = some (.bool H.aa) ∧ W.cell? ⟨b, 4, none⟩ = some (.bool H.tc) ∧ W.cell? ⟨b, 5, none⟩ = some (.bool H.rd) ∧ W.cell? ⟨b, 6, none⟩ = some (.bool H.ra) ∧ W.cell? ⟨b, 7, none⟩ = some (.bool H.ad) ∧ W.cell? ⟨b, 8, none⟩ = some (.bool H.cd) ∧ W.cell? ⟨b, 9, none⟩ = some (.int .i64 H.rc) ∧ W.cell? ⟨b, 10, none⟩ = some (.slice x.q.a x.q.n x.q.c) ∧ W.cell? ⟨b, 11, none⟩ = some (.slice x.l1.a x.l1.n x.l1.c) ∧ W.cell? ⟨b, 12, none⟩ = some (.slice x.l2.a x.l2.n x.l2.c) ∧ W.cell? ⟨b, 13, none⟩ = some (.slice x.l3.a x.l3.n x.l3.c)) := fun W hW => by
    have h := (hW.block b (box_lt HX0.out)).trans HX0.out
    exact ⟨box_cell h 0 _ rfl, box_cell h 1 _ rfl, box_cell h 2 _ rfl, box_cell h 3 _ rfl, box_cell h 4 _ rfl, box_cell h 5 _ rfl, box_cell h 6 _ rfl, box_cell h 7 _ rfl, box_cell h 8 _ rfl, box_cell h 9 _ rfl, box_cell h 10 _ rfl, box_cell h 11 _ rfl, box_cell h 12 _ rfl, box_cell h 13 _ rfl⟩
  have l1 := box_lt HX0.out
  have hfd := field13
  go_region_held3 (fun W => (W.cell? ⟨b, 0, none⟩ = some (.int .u16 H.id) ∧ W.cell? ⟨b, 1, none⟩ = some (.bool H.rs) ∧ W.cell? ⟨b, 2, none⟩ = some (.int .i64 H.op) ∧ W.cell? ⟨b, 3, none⟩ = some (.bool H.aa) ∧ W.cell? ⟨b, 4, none⟩ = some (.bool H.tc) ∧ W.cell? ⟨b, 5, none⟩ = some (.bool H.rd) ∧ W.cell? ⟨b, 6, none⟩ = some (.bool H.ra) ∧ W.cell? ⟨b, 7, none⟩ = some (.bool H.ad) ∧ W.cell? ⟨b, 8, none⟩ = some (.bool H.cd) ∧ W.cell? ⟨b, 9, none⟩ = some (.int .i64 H.rc) ∧ W.cell? ⟨b, 10, none⟩ = some (.slice x.q.a x.q.n x.q.c) ∧ W.cell? ⟨b, 11, none⟩ = some (.slice x.l1.a x.l1.n x.l1.c) ∧ W.cell? ⟨b, 12, none⟩ = some (.slice x.l2.a x.l2.n x.l2.c) ∧ W.cell? ⟨b, 13, none⟩ = some (.slice x.l3.a x.l3.n x.l3.c))) (first | exact KS _ HB6.out | exact KS _ (Below.refl w0.heap.size w0).drew | exact KS _ (Below.refl w0.heap.size w0)) (first
    | (go_simp; go_at_call 36; refine (KW.out _ HB0.out.drew).mono ?_; rintro e w6 ⟨⟨⟨xa, xn, xc⟩, ⟨xa1, xn1, xc1⟩, ⟨xa2, xn2, xc2⟩, ⟨xa3, xn3, xc3⟩⟩, rfl, H6⟩; have HB6 : Hid (Below w0.heap.size w0 w6) := ((Below.refl w0.heap.size w0).drew.trans H6.out.2))
    | fail)
  rename_i hheld
  clear hheld
  have h3 : xn3 = (flt m.l3).length := by
    obtain ⟨S3, S, _, q, _⟩ := H6.out.1
    exact q.lrd.len.symm
  have HE : Hid (recN m = x.l1.n + x.l2.n + xn3 ∧ Below w.heap.size w w6) := ⟨by rw [h3]; exact HRN.out.1, HB0.out.trans (HB6.out.mono HB0.out.size)⟩
  have hn3 : xn3 ≤ 1000000 := by rw [h3]; exact HRN.out.2
  clear h3
  have hw1 : IntKind.i64.wrap ((x.l1.n : Int) + (x.l2.n : Int)) = ((x.l1.n + x.l2.n : Nat) : Int) := by rw [IntKind.wrap_i64]; omega
  have hw2 : IntKind.i64.wrap (((x.l1.n + x.l2.n : Nat) : Int) + (xn3 : Int)) = ((x.l1.n + x.l2.n + xn3 : Nat) : Int) := by rw [IntKind.wrap_i64]; omega
  rw [hw1, hw2]
  clear hw1 hw2
  go_wp2
  go_ret
  refine ⟨?_, HE.out.2⟩
  rw [HE.out.1]
  first | rfl | (simp; done)
end Go.Proofs.YtkjnbgekaifdfaaGreat
namespace Go.Proofs.YtkjnbgekaifdfaaGreat
open Go.ChangeShapes Go.WideShapes Go.ChangeAt Go.RowKit
set_option linter.unusedVariables false
set_option linter.unusedSimpArgs false
set_option maxRecDepth 100000 in
set_option maxHeartbeats 2000000 in
theorem sameints35 (s t : Sl) (cs : List Nat) (w : World) (h1 : IRd w s cs) (h2 : IRd w t cs) : Calls Tryz.prog 35 #[(.slice s.a s.n s.c), (.slice t.a t.n t.c)] w fun e w' => e = .returned (.bool true) ∧ Hid (Below w.heap.size w w') := by
  obtain ⟨sa, n, sc⟩ := s
  obtain ⟨ta, n', tc⟩ := t
  have HX := Lib.hid h1
  have HY := Lib.hid h2
  have HL : Hid (cs.length = n) := h1.len
  have hn : n' = n := h2.len.symm.trans h1.len
  subst hn
  have hcap := h1.cap
  simp only at hcap ⊢
  clear h1 h2
  go_enter Tryz.func35, Tryz.ntmps35
  go_wp2_with fail
  go_loopw [5] (fun y wr => ∃ k : Nat, k ≤ n' ∧ y = .int .i64 (k : Int) ∧ Hid (Below w.heap.size w wr)) (fun y _ => n' - (intOf y).toNat)
  case atStart => exact ⟨0, Nat.zero_le _, rfl, Below.refl _ _⟩
  case round =>
    obtain ⟨k, hk, rfl, HB⟩ := hrel
    by_cases hlt : k < n'
    · have hlt' : (k : Int) < (n' : Int) := by omega
      have hks : k < cs.length := by rw [HL.out]; exact hlt
      obtain ⟨b1, o1, e1, q1, c1⟩ := (HX.out.below HB.out).at k hks
      obtain ⟨b2, o2, e2, q2, c2⟩ := (HY.out.below HB.out).at k hks
      simp only at e1 e2
      subst e1 e2
      generalize cs[k] = z at c1 c2
      go_wp2_with fail
      go_quiet (fail)
      all_goals go_wp2
      all_goals exact ⟨⟨k + 1, by omega, by go_num, HB.out.trans ((below_dn _ _).mono HB.out.size)⟩, by simp [intOf]; omega⟩
    · obtain rfl : k = n' := by omega
      go_wp2
      go_ret
      exact ⟨rfl, HB.out⟩
end Go.Proofs.YtkjnbgekaifdfaaGreat
namespace Go.Proofs.YtkjnbgekaifdfaaGreat
open Go.ChangeShapes Go.WideShapes Go.ChangeAt Go.RowKit
set_option linter.unusedVariables false
set_option linter.unusedSimpArgs false
theorem three_l (H0 : Hd) (M : Mg) (hH : H0 = thrH) (hM : M = thrM) (w : World) : Calls Tryz.prog 26 #[] w fun e w' => ∃ x : MA, e = .returned (.agg #[.int .u16 H0.id, .bool H0.rs, .int .i64 H0.op, .bool H0.aa, .bool H0.tc, .bool H0.rd, .bool H0.ra, .bool H0.ad, .bool H0.cd, .int .i64 H0.rc, .slice x.q.a x.q.n x.q.c, .slice x.l1.a x.l1.n x.l1.c, .slice x.l2.a x.l2.n x.l2.c, .slice x.l3.a x.l3.n x.l3.c]) ∧ Hid (MRd w' H0 x M ∧ Below w.heap.size w w') := by
  subst hH hM
  exact three26 w
/-- What a slice that was built of numbers holds. -/
theorem ints_at {w : World} {g : Nat} {cs : List Nat} {l : Nat} (h : w.heap[g]? = some (.cells (ivs cs).toArray 3)) (hl : cs.length = l) (hn : l ≤ 1000) : IRd w ⟨some ⟨g, 0, none⟩, l, l⟩ cs := by
  refine ⟨.inr ⟨g, 0, rfl, box_lt h, fun i hi => ?_⟩, hl, ⟨Nat.le_refl _, show l ≤ _ by omega⟩, fun e => by cases e⟩
  have := box_cell h (0 + i) (.int .i64 (cs[i] : Nat)) (by simp [ivs, hi])
  exact this
set_option maxRecDepth 100000 in
set_option maxHeartbeats 8000000 in
theorem awake14 (w : World) : Calls Tryz.prog 14 #[] w fun e w' => e = .returned (.bool true) ∧ Hid (Below w.heap.size w w') := by
  obtain ⟨H0, hH0⟩ : ∃ H, H = thrH := ⟨_, rfl⟩
  obtain ⟨M, hM⟩ : ∃ M, M = thrM := ⟨_, rfl⟩
  have HFi : Hid (Fin M ∧ ChkOk M) := by
    have h : ChkOk M := by rw [hM]; exact chkM_zero.1 thr_chk
    exact ⟨h.fin, h⟩
  have t67 := Lib.hid thr67
  have t66 := Lib.hid thr66
  have tS := Lib.hid thr_sets
  rw [← hM] at t67 t66 tS
  have K26 := fun W => Lib.hid (three_l H0 M hH0 hM W)
  clear hH0 hM
  go_enter Tryz.func14, Tryz.ntmps14
  go_wp2_with fail
  refine (K26 _).out.mono ?_
  rintro e w1 ⟨x1, rfl, H1⟩
  have K16 := Lib.hid (cut16 H0 x1 M 67 w1 H1.out.1 HFi.out.1)
  have HB1 := Lib.hid H1.out.2
  clear H1
  go_wp2_with fail
  refine K16.out.mono ?_
  rintro e w2 ⟨G, Y, rfl, H2⟩
  have HM2 := Lib.hid (H2.out.1 t67.out.1)
  have HB2 : Hid (Below w.heap.size w w2) := HB1.out.trans (H2.out.2.mono HB1.out.size)
  have n2 : Hid (Y.l2.n = 1) := HM2.out.l2.len.symm.trans t67.out.2.1
  have n3 : Hid (Y.l3.n = 0) := HM2.out.l3.len.symm.trans t67.out.2.2.1
  have nT : Hid (G.tc = false) := by show _ = _; rw [← HM2.out.h]; exact t67.out.2.2.2
  rw [t67.out.1]
  clear K16 H2 HB1 HM2 t67
  have HX2 : Hid ((w2.alloc (.cells #[.int .u16 G.id, .bool G.rs, .int .i64 G.op, .bool G.aa, .bool G.tc, .bool G.rd, .bool G.ra, .bool G.ad, .bool G.cd, .int .i64 G.rc, .slice Y.q.a Y.q.n Y.q.c, .slice Y.l1.a Y.l1.n Y.l1.c, .slice Y.l2.a Y.l2.n Y.l2.c, .slice Y.l3.a Y.l3.n Y.l3.c] 26)).heap[w2.heap.size]? = some (.cells #[.int .u16 G.id, .bool G.rs, .int .i64 G.op, .bool G.aa, .bool G.tc, .bool G.rd, .bool G.ra, .bool G.ad, .bool G.cd, .int .i64 G.rc, .slice Y.q.a Y.q.n Y.q.c, .slice Y.l1.a Y.l1.n Y.l1.c, .slice Y.l2.a Y.l2.n Y.l2.c, .slice Y.l3.a Y.l3.n Y.l3.c] 26)) := heap_alloc_new _ _
  have HB3 : Hid (Below w.heap.size w (w2.alloc (.cells #[.int .u16 G.id, .bool G.rs, .int .i64 G.op, .bool G.aa, .bool G.tc, .bool G.rd, .bool G.ra, .bool G.ad, .bool G.cd, .int .i64 G.rc, .slice Y.q.a Y.q.n Y.q.c, .slice Y.l1.a Y.l1.n Y.l1.c, .slice Y.l2.a Y.l2.n Y.l2.c, .slice Y.l3.a Y.l3.n Y.l3.c] 26))) := HB2.out.trans ((newF_below w2 _).mono HB2.out.size)
  go_wp2_with fail
  refine (K26 _).out.mono ?_
  rintro e w3 ⟨x3, rfl, H3⟩
  generalize w2.alloc (.cells #[.int .u16 G.id, .bool G.rs, .int .i64 G.op, .bool G.aa, .bool G.tc, .bool G.rd, .bool G.ra, .bool G.ad, .bool G.cd, .int .i64 G.rc, .slice Y.q.a Y.q.n Y.q.c, .slice Y.l1.a Y.l1.n Y.l1.c, .slice Y.l2.a Y.l2.n Y.l2.c, .slice Y.l3.a Y.l3.n Y.l3.c] 26) = W2 at *
  obtain ⟨b, hbb⟩ : ∃ b, b = w2.heap.size := ⟨_, rfl⟩
  rw [← hbb] at HX2 ⊢
  clear hbb
  have HX3 : Hid (w3.heap[b]? = some (.cells #[.int .u16 G.id, .bool G.rs, .int .i64 G.op, .bool G.aa, .bool G.tc, .bool G.rd, .bool G.ra, .bool G.ad, .bool G.cd, .int .i64 G.rc, .slice Y.q.a Y.q.n Y.q.c, .slice Y.l1.a Y.l1.n Y.l1.c, .slice Y.l2.a Y.l2.n Y.l2.c, .slice Y.l3.a Y.l3.n Y.l3.c] 26)) := (H3.out.2.block _ (box_lt HX2.out)).trans HX2.out
  have HB4 : Hid (Below w.heap.size w w3) := HB3.out.trans (H3.out.2.mono HB3.out.size)
  have K17 := Lib.hid (bytes17 H0 x3 M 66 w3 H3.out.1 HFi.out.1)
  clear HX2 HB3 H3 HB2
  go_wp2_with fail
  refine K17.out.mono ?_
  rintro e w4 ⟨⟨sa, sn, sc⟩, er, rfl, H4⟩
  have hR := H4.out.1
  unfold BtR at hR
  rw [if_pos t66.out.1] at hR
  have h66 := t66.out.2
  cases hz : prun (pmsg (cutF M 66)) (some ([], [])) with
  | none => rw [hz] at h66; cases h66
  | some z =>
    rw [hz] at h66 hR
    obtain ⟨rfl, hS⟩ := hR
    have hsn : sn = 51 := by
      have h1 := hS.len
      simp only [Option.map_some, Option.some.injEq] at h66 h1
      rw [h66] at h1
      exact h1.symm
    subst hsn
    have HX4 : Hid (w4.heap[b]? = some (.cells #[.int .u16 G.id, .bool G.rs, .int .i64 G.op, .bool G.aa, .bool G.tc, .bool G.rd, .bool G.ra, .bool G.ad, .bool G.cd, .int .i64 G.rc, .slice Y.q.a Y.q.n Y.q.c, .slice Y.l1.a Y.l1.n Y.l1.c, .slice Y.l2.a Y.l2.n Y.l2.c, .slice Y.l3.a Y.l3.n Y.l3.c] 26)) := (H4.out.2.block _ (box_lt HX3.out)).trans HX3.out
    have HB5 : Hid (Below w.heap.size w w4) := HB4.out.trans (H4.out.2.mono HB4.out.size)
    clear HX3 HB4 H4 K17 hz h66 hS t66
    go_wp2_with fail
    refine (K26 _).out.mono ?_
    rintro e w5 ⟨x5, rfl, H5⟩
    have HX5 : Hid (w5.heap[b]? = some (.cells #[.int .u16 G.id, .bool G.rs, .int .i64 G.op, .bool G.aa, .bool G.tc, .bool G.rd, .bool G.ra, .bool G.ad, .bool G.cd, .int .i64 G.rc, .slice Y.q.a Y.q.n Y.q.c, .slice Y.l1.a Y.l1.n Y.l1.c, .slice Y.l2.a Y.l2.n Y.l2.c, .slice Y.l3.a Y.l3.n Y.l3.c] 26)) := (H5.out.2.block _ (box_lt HX4.out)).trans HX4.out
    have HB6 : Hid (Below w.heap.size w w5) := HB5.out.trans (H5.out.2.mono HB5.out.size)
    have K22 := Lib.hid (sets22 H0 x5 M w5 H5.out.1 HFi.out.2)
    clear HX4 HB5 H5
    go_wp2_with fail
    refine K22.out.mono ?_
    rintro e w6 ⟨⟨ta, tn, tc⟩, rfl, H6⟩
    have HX6 : Hid ((w6.alloc (.cells #[.int .i64 2, .int .i64 1, .int .i64 1] 3)).heap[b]? = some (.cells #[.int .u16 G.id, .bool G.rs, .int .i64 G.op, .bool G.aa, .bool G.tc, .bool G.rd, .bool G.ra, .bool G.ad, .bool G.cd, .int .i64 G.rc, .slice Y.q.a Y.q.n Y.q.c, .slice Y.l1.a Y.l1.n Y.l1.c, .slice Y.l2.a Y.l2.n Y.l2.c, .slice Y.l3.a Y.l3.n Y.l3.c] 26)) := ((newF_below w6 _).block _ (Nat.lt_of_lt_of_le (box_lt HX5.out) H6.out.2.size)).trans ((H6.out.2.block _ (box_lt HX5.out)).trans HX5.out)
    have HB7 : Hid (Below w.heap.size w (w6.alloc (.cells #[.int .i64 2, .int .i64 1, .int .i64 1] 3))) := (HB6.out.trans (H6.out.2.mono HB6.out.size)).trans ((newF_below w6 _).mono (Nat.le_trans HB6.out.size H6.out.2.size))
    have KI := Lib.hid (sameints35 ⟨ta, tn, tc⟩ ⟨some ⟨w6.heap.size, 0, none⟩, 3, 3⟩ [2, 1, 1] (w6.alloc (.cells #[.int .i64 2, .int .i64 1, .int .i64 1] 3)) (by have h := H6.out.1; rw [tS.out] at h; exact h.below (newF_below w6 _)) (ints_at (cs := [2, 1, 1]) (heap_alloc_new _ _) rfl (by omega)))
    clear H6 K22 HX5 HB6
    go_wp2_with fail
    refine KI.out.mono ?_
    rintro e w7 ⟨rfl, H7⟩
    generalize w6.alloc (.cells #[.int .i64 2, .int .i64 1, .int .i64 1] 3) = W6 at *
    have HX7 : Hid (w7.heap[b]? = some (.cells #[.int .u16 G.id, .bool G.rs, .int .i64 G.op, .bool G.aa, .bool G.tc, .bool G.rd, .bool G.ra, .bool G.ad, .bool G.cd, .int .i64 G.rc, .slice Y.q.a Y.q.n Y.q.c, .slice Y.l1.a Y.l1.n Y.l1.c, .slice Y.l2.a Y.l2.n Y.l2.c, .slice Y.l3.a Y.l3.n Y.l3.c] 26)) := (H7.out.block _ (box_lt HX6.out)).trans HX6.out
    have HB8 : Hid (Below w.heap.size w w7) := HB7.out.trans (H7.out.mono HB7.out.size)
    clear HX6 HB7 H7 KI
    have k0 := box_cell HX7.out 0 _ rfl
    have k1 := box_cell HX7.out 1 _ rfl
    have k2 := box_cell HX7.out 2 _ rfl
    have k3 := box_cell HX7.out 3 _ rfl
    have k4 := box_cell HX7.out 4 _ rfl
    have k5 := box_cell HX7.out 5 _ rfl
    have k6 := box_cell HX7.out 6 _ rfl
    have k7 := box_cell HX7.out 7 _ rfl
    have k8 := box_cell HX7.out 8 _ rfl
    have k9 := box_cell HX7.out 9 _ rfl
    have k10 := box_cell HX7.out 10 _ rfl
    have k11 := box_cell HX7.out 11 _ rfl
    have k12 := box_cell HX7.out 12 _ rfl
    have k13 := box_cell HX7.out 13 _ rfl
    have lb := box_lt HX7.out
    rw [n2.out] at k12
    rw [n3.out] at k13
    rw [nT.out] at k4
    clear n2 n3 nT
    go_wp2
    go_ret
    exact ⟨rfl, HB8.out⟩
end Go.Proofs.YtkjnbgekaifdfaaGreat
namespace Go.Proofs.YtkjnbgekaifdfaaGreat
open Go.ChangeShapes Go.WideShapes Go.ChangeAt Go.RowKit Go.Maps
set_option linter.unusedVariables false
set_option linter.unusedSimpArgs false
set_option maxRecDepth 100000 in
set_option maxHeartbeats 4000000 in
theorem all32 (H : Hd) (x : MA) (m : Mg) (w : World) (hm : MRd w H x m) (ht : x.l1.n + x.l2.n + x.l3.n ≤ 2000000) : Calls Tryz.prog 28 #[.agg #[.int .u16 H.id, .bool H.rs, .int .i64 H.op, .bool H.aa, .bool H.tc, .bool H.rd, .bool H.ra, .bool H.ad, .bool H.cd, .int .i64 H.rc, .slice x.q.a x.q.n x.q.c, .slice x.l1.a x.l1.n x.l1.c, .slice x.l2.a x.l2.n x.l2.c, .slice x.l3.a x.l3.n x.l3.c]] w fun e w' => ∃ t : Sl, e = .returned (.slice t.a t.n t.c) ∧ Hid (LRd w' t (m.l1 ++ m.l2 ++ m.l3) ∧ Below w.heap.size w w') := by
  obtain ⟨ps1, e1, l1, s1, r1, z1⟩ := lrd_parts hm.l1
  obtain ⟨ps2, e2, l2, s2, r2, z2⟩ := lrd_parts hm.l2
  obtain ⟨ps3, e3, l3, s3, r3, z3⟩ := lrd_parts hm.l3
  have HE : Hid (m.l1 ++ m.l2 ++ m.l3 = (ps1 ++ ps2 ++ ps3).map (·.2)) := (show _ = _ by rw [List.map_append, List.map_append, e1, e2, e3])
  have HR : Hid (∀ p ∈ ps1 ++ ps2 ++ ps3, RRd w p.1 p.2) := fun p hp => by
    rcases List.mem_append.1 hp with hp | hp
    · rcases List.mem_append.1 hp with hp | hp
      · exact r1 p hp
      · exact r2 p hp
    · exact r3 p hp
  rw [HE.out]
  clear hm e1 e2 e3 r1 r2 r3
  obtain ⟨⟨qa, qn, qc⟩, ⟨a1, n1, c1⟩, ⟨a2, n2, c2⟩, ⟨a3, n3, c3⟩⟩ := x
  simp only at *
  have HL1 : Hid ((cellsR ps1).length = n1 * 8) := (show _ = _ by rw [cellsR_len, l1])
  have HL2 : Hid ((cellsR ps2).length = n2 * 8) := (show _ = _ by rw [cellsR_len, l2])
  have HL3 : Hid ((cellsR ps3).length = n3 * 8) := (show _ = _ by rw [cellsR_len, l3])
  have HS1 := Lib.hid s1
  have HS2 := Lib.hid s2
  have HS3 := Lib.hid s3
  have HZ1 := Lib.hid z1
  have HZ2 := Lib.hid z2
  have HZ3 := Lib.hid z3
  have HPL : Hid ((ps1 ++ ps2 ++ ps3).length = n1 + n2 + n3) := (show _ = _ by simp only [List.length_append, l1, l2, l3])
  have HC1 := Lib.hid (cellsR_oneE ps1)
  have HC2 := Lib.hid (cellsR_oneE ps2)
  have HC3 := Lib.hid (cellsR_oneE ps3)
  clear s1 s2 s3 z1 z2 z3 l1 l2 l3
  have hb0 := newq_below w (.cells #[.int .u16 H.id, .bool H.rs, .int .i64 H.op, .bool H.aa, .bool H.tc, .bool H.rd, .bool H.ra, .bool H.ad, .bool H.cd, .int .i64 H.rc, .slice qa qn qc, .slice a1 n1 c1, .slice a2 n2 c2, .slice a3 n3 c3] 26)
  have hbx : (w.alloc (.cells #[.int .u16 H.id, .bool H.rs, .int .i64 H.op, .bool H.aa, .bool H.tc, .bool H.rd, .bool H.ra, .bool H.ad, .bool H.cd, .int .i64 H.rc, .slice qa qn qc, .slice a1 n1 c1, .slice a2 n2 c2, .slice a3 n3 c3] 26)).heap[w.heap.size]? = some (.cells #[.int .u16 H.id, .bool H.rs, .int .i64 H.op, .bool H.aa, .bool H.tc, .bool H.rd, .bool H.ra, .bool H.ad, .bool H.cd, .int .i64 H.rc, .slice qa qn qc, .slice a1 n1 c1, .slice a2 n2 c2, .slice a3 n3 c3] 26) := heap_alloc_new _ _
  have HX := Lib.hid hbx
  have HB := Lib.hid hb0
  clear hbx hb0
  go_enter Tryz.func28, Tryz.ntmps28
  go_wp2_with fail
  generalize w.alloc (.cells #[.int .u16 H.id, .bool H.rs, .int .i64 H.op, .bool H.aa, .bool H.tc, .bool H.rd, .bool H.ra, .bool H.ad, .bool H.cd, .int .i64 H.rc, .slice qa qn qc, .slice a1 n1 c1, .slice a2 n2 c2, .slice a3 n3 c3] 26) = w0 at *
  obtain ⟨b, hbb⟩ : ∃ b, b = w.heap.size := ⟨_, rfl⟩
  rw [← hbb] at HX ⊢
  have HBB : Hid (b = w.heap.size) := hbb
  clear hbb
  have k11 := box_cell HX.out 11 _ rfl
  have k12 := box_cell HX.out 12 _ rfl
  have lb := box_lt HX.out
  have HN0 : Hid (w0.drew.ownsRow w0.heap.size 62 8 (.slice none 0 0) 0 []) := ⟨rfl, .inl ⟨rfl, rfl⟩⟩
  have HBD : Hid (Below w.heap.size w w0.drew) := HB.out.drew
  go_region_law (first
    | (refine step_appR (by rfl) _ _ (by rfl) w0.heap.size none 0 0 [] (by rfl) HN0.out a1 n1 c1 (cellsR ps1) (by rfl) HL1.out (HS1.out _ HBD.out) HZ1.out HC1.out (by omega) (Nat.le_refl _) n1 (Nat.zero_add n1) ?_; intro x1 y1 w1 h5 h6; have H5 := Lib.hid h5.out; have H6 := Lib.hid h6.out; clear h5 h6; have HB1 : Hid (Below w.heap.size w w1) := (HBD.out.grown H6.out HBD.out.size (fun k e => by simp [Value.ownBlock] at e)); have hx1 : w1.heap[b]? = some (.cells #[.int .u16 H.id, .bool H.rs, .int .i64 H.op, .bool H.aa, .bool H.tc, .bool H.rd, .bool H.ra, .bool H.ad, .bool H.cd, .int .i64 H.rc, .slice qa qn qc, .slice a1 n1 c1, .slice a2 n2 c2, .slice a3 n3 c3] 26) := ((H6.out.block b lb (by simp [Value.ownBlock])).trans HX.out); have HX1 := Lib.hid hx1; have m12 := box_cell hx1 12 _ rfl; have lb1 := box_lt hx1; have HSZ1 : Hid (w0.heap.size ≤ w1.heap.size) := H6.out.size; clear hx1)
    | (refine step_appR (by rfl) _ _ (by rfl) w0.heap.size x1 n1 y1 ([] ++ cellsR ps1) (by rfl) H5.out a2 n2 c2 (cellsR ps2) (by rfl) HL2.out (HS2.out _ HB1.out) HZ2.out HC2.out (by omega) HSZ1.out (n1 + n2) rfl ?_; intro x2 y2 w2 h7 h8; have H7 := Lib.hid h7.out; have H8 := Lib.hid h8.out; clear h7 h8; have HB2 : Hid (Below w.heap.size w w2) := (HB1.out.grown H8.out HB1.out.size (fun k e => by have := (H5.out.lt k e).1; have := HB.out.size; omega)); have hx2 : w2.heap[b]? = some (.cells #[.int .u16 H.id, .bool H.rs, .int .i64 H.op, .bool H.aa, .bool H.tc, .bool H.rd, .bool H.ra, .bool H.ad, .bool H.cd, .int .i64 H.rc, .slice qa qn qc, .slice a1 n1 c1, .slice a2 n2 c2, .slice a3 n3 c3] 26) := ((H8.out.block b lb1 (fun e => by have := (H5.out.lt b e.symm).1; omega)).trans HX1.out); have HX2 := Lib.hid hx2; have HSZ2 : Hid (w0.heap.size ≤ w2.heap.size) := (Nat.le_trans HSZ1.out H8.out.size); clear hx2)
    | fail)
  all_goals
    have k13 := box_cell HX2.out 13 _ rfl
    have lb2 := box_lt HX2.out
    go_wp2_with (at_builtin; refine wpList_appR rfl _ _ rfl w0.heap.size x2 (n1 + n2) y2 ([] ++ cellsR ps1 ++ cellsR ps2) rfl H7.out a3 n3 c3 (cellsR ps3) rfl HL3.out (HS3.out _ HB2.out) HZ3.out HC3.out (by omega) HSZ2.out (n1 + n2 + n3) rfl ?_; intro x3 y3 w3 h9 h10; have H9 := Lib.hid h9.out; have H10 := Lib.hid h10.out; clear h9 h10)
    go_ret
    have hb3 : Below w.heap.size w w3 := HB2.out.grown H10.out HB2.out.size (fun k e => by have := (H7.out.lt k e).1; have := HB.out.size; omega)
    refine ⟨⟨x3, n1 + n2 + n3, y3⟩, rfl, ?_, hb3⟩
    have h9 := H9.out
    rw [List.nil_append, ← cellsR_app, ← cellsR_app] at h9
    exact row_lrd h9 HPL.out (fun p hp => RRd.below (HR.out p hp) hb3)
end Go.Proofs.YtkjnbgekaifdfaaGreat
namespace Go.Proofs.YtkjnbgekaifdfaaGreat
open Go.ChangeShapes Go.WideShapes Go.ChangeAt Go.RowKit Go.Maps
set_option linter.unusedVariables false
set_option linter.unusedSimpArgs false
/-- A message that is gone through. -/
structure FewM (m : Mg) : Prop where
  q : m.qs.length ≤ 20
  qn : ∀ q ∈ m.qs, q.nm.length ≤ 130
  l : (m.l1 ++ m.l2 ++ m.l3).length ≤ 515
  r : ∀ r ∈ m.l1 ++ m.l2 ++ m.l3, r.ow.length ≤ 130 ∧ Small r.d
def LmP (m : Mg) (w : World) (e : Ending) (w' : World) : Prop := ∃ b, e = .returned (.bool b) ∧ Hid ((b = false → FewM m) ∧ Below w.heap.size w w')
theorem lmp_yes {m : Mg} {w w' : World} (h : Below w.heap.size w w') : LmP m w (.returned (.bool true)) w' := ⟨true, rfl, fun h => (by cases h), h⟩
theorem lmp_no {m : Mg} {w w' : World} (h1 : FewM m) (h : Below w.heap.size w w') : LmP m w (.returned (.bool false)) w' := ⟨false, rfl, fun _ => h1, h⟩
theorem allp_step {α : Type} {P : α → Prop} {l : List α} {k : Nat} (hk : k < l.length) (h : ∀ r ∈ l.take k, P r) (h1 : P l[k]) : ∀ r ∈ l.take (k + 1), P r := by
  rw [List.take_succ_eq_append_getElem hk]
  intro r hr
  rcases List.mem_append.1 hr with hr | hr
  · exact h r hr
  · rw [List.mem_singleton.1 hr]; exact h1
set_option maxRecDepth 100000 in
set_option maxHeartbeats 4000000 in
theorem largeM (H : Hd) (x : MA) (m : Mg) (w : World) (hm : MRd w H x m) (ht : x.l1.n + x.l2.n + x.l3.n ≤ 2000000) : Calls Tryz.prog 8 #[.agg #[.int .u16 H.id, .bool H.rs, .int .i64 H.op, .bool H.aa, .bool H.tc, .bool H.rd, .bool H.ra, .bool H.ad, .bool H.cd, .int .i64 H.rc, .slice x.q.a x.q.n x.q.c, .slice x.l1.a x.l1.n x.l1.c, .slice x.l2.a x.l2.n x.l2.c, .slice x.l3.a x.l3.n x.l3.c]] w (LmP m w) := by
  have hb0 := newq_below w (.cells #[.int .u16 H.id, .bool H.rs, .int .i64 H.op, .bool H.aa, .bool H.tc, .bool H.rd, .bool H.ra, .bool H.ad, .bool H.cd, .int .i64 H.rc, .slice x.q.a x.q.n x.q.c, .slice x.l1.a x.l1.n x.l1.c, .slice x.l2.a x.l2.n x.l2.c, .slice x.l3.a x.l3.n x.l3.c] 26)
  have hbx : (w.alloc (.cells #[.int .u16 H.id, .bool H.rs, .int .i64 H.op, .bool H.aa, .bool H.tc, .bool H.rd, .bool H.ra, .bool H.ad, .bool H.cd, .int .i64 H.rc, .slice x.q.a x.q.n x.q.c, .slice x.l1.a x.l1.n x.l1.c, .slice x.l2.a x.l2.n x.l2.c, .slice x.l3.a x.l3.n x.l3.c] 26)).heap[w.heap.size]? = some (.cells #[.int .u16 H.id, .bool H.rs, .int .i64 H.op, .bool H.aa, .bool H.tc, .bool H.rd, .bool H.ra, .bool H.ad, .bool H.cd, .int .i64 H.rc, .slice x.q.a x.q.n x.q.c, .slice x.l1.a x.l1.n x.l1.c, .slice x.l2.a x.l2.n x.l2.c, .slice x.l3.a x.l3.n x.l3.c] 26) := heap_alloc_new _ _
  have K32 := Lib.hid (all32 H x m _ (hm.below hb0) ht)
  have HQ : Hid (QsRd w x.q m.qs) := hm.q
  have HX := Lib.hid hbx
  have HB := Lib.hid hb0
  have hqc := hm.q.cap
  have hql := hm.q.len
  clear hbx hb0 hm
  obtain ⟨⟨qa, qn, qc⟩, ⟨a1, n1, c1⟩, ⟨a2, n2, c2⟩, ⟨a3, n3, c3⟩⟩ := x
  obtain ⟨L, hL⟩ : ∃ L, L = m.l1 ++ m.l2 ++ m.l3 := ⟨_, rfl⟩
  have HL : Hid (L = m.l1 ++ m.l2 ++ m.l3) := hL
  rw [← hL] at K32
  obtain ⟨qs, hqs⟩ : ∃ qs, qs = m.qs := ⟨_, rfl⟩
  have HQS : Hid (qs = m.qs) := hqs
  rw [← hqs] at HQ hql
  clear hL hqs
  simp only at *
  go_enter Tryz.func8, Tryz.ntmps8
  go_wp2_with fail
  generalize w.alloc (.cells #[.int .u16 H.id, .bool H.rs, .int .i64 H.op, .bool H.aa, .bool H.tc, .bool H.rd, .bool H.ra, .bool H.ad, .bool H.cd, .int .i64 H.rc, .slice qa qn qc, .slice a1 n1 c1, .slice a2 n2 c2, .slice a3 n3 c3] 26) = w0 at *
  obtain ⟨b, hbb⟩ : ∃ b, b = w.heap.size := ⟨_, rfl⟩
  rw [← hbb] at HX ⊢
  clear hbb
  have k0 := box_cell HX.out 0 _ rfl; have k1 := box_cell HX.out 1 _ rfl; have k2 := box_cell HX.out 2 _ rfl; have k3 := box_cell HX.out 3 _ rfl; have k4 := box_cell HX.out 4 _ rfl; have k5 := box_cell HX.out 5 _ rfl; have k6 := box_cell HX.out 6 _ rfl; have k7 := box_cell HX.out 7 _ rfl; have k8 := box_cell HX.out 8 _ rfl; have k9 := box_cell HX.out 9 _ rfl; have k10 := box_cell HX.out 10 _ rfl; have k11 := box_cell HX.out 11 _ rfl; have k12 := box_cell HX.out 12 _ rfl; have k13 := box_cell HX.out 13 _ rfl
  have lb := box_lt HX.out
  go_wp2_with fail
  refine K32.out.mono ?_
  rintro e w1 ⟨⟨ta, tn, tc⟩, rfl, H1⟩
  have HB1 : Hid (Below w.heap.size w w1) := HB.out.trans (H1.out.2.mono HB.out.size)
  have HT1 : Hid (LRd w1 ⟨ta, tn, tc⟩ L) := H1.out.1
  have htl : L.length = tn := H1.out.1.len
  have htc := H1.out.1.cap
  have hx1 := (H1.out.2.block b (box_lt HX.out)).trans HX.out
  clear k0 k1 k2 k3 k4 k5 k6 k7 k8 k9 k10 k11 k12 k13 lb K32 H1
  have k10 := box_cell hx1 10 _ rfl
  have lb := box_lt hx1
  have HX1 := Lib.hid hx1
  clear hx1
  by_cases g1 : (20 : Int) < (qn : Int)
  · go_wp2
    go_ret
    exact lmp_yes HB1.out
  by_cases g2 : (515 : Int) < (tn : Int)
  · by_cases g3 : (40 : Int) < (tn : Int)
    · have g4 : ¬ (tn : Int) ≤ 512 := by omega
      go_wp2
      go_ret
      exact lmp_yes HB1.out
    · omega
  by_cases g3 : (40 : Int) < (tn : Int) ∧ (tn : Int) ≤ 512
  · have g4 := g3.1
    have g5 := g3.2
    clear g3
    go_wp2
    go_ret
    exact lmp_yes HB1.out
  have HG : Hid (qs.length ≤ 20 ∧ L.length ≤ 515) := ⟨by omega, by omega⟩
  by_cases g4 : (40 : Int) < (tn : Int)
  · have g5 : ¬ (tn : Int) ≤ 512 := fun h => g3 ⟨g4, h⟩
    clear g3
    go_wp2_with fail
    go_loop [4] (fun y => ∃ k : Nat, k ≤ qn ∧ y = .int .i64 (k : Int) ∧ Hid (∀ q ∈ qs.take k, q.nm.length ≤ 130)) (fun y => qn - (intOf y).toNat)
    case atStart => exact ⟨0, Nat.zero_le _, rfl, fun q hq => (by simp at hq)⟩
    case round =>
      obtain ⟨k, hk, rfl, HK⟩ := hrel
      by_cases hlt : k < qn
      · have hlt' : (k : Int) < (qn : Int) := by omega
        have hkq : k < qs.length := by omega
        obtain ⟨qb, qo, f1, f2, y, f3, f4, f5, f6⟩ := (HQ.out.below HB1.out).at k hkq
        have hny : qs[k].nm.length = y.s.n := f6.rd.len
        have HNY := Lib.hid hny
        simp only at f1
        subst f1
        clear f4 f5 f6 hny
        obtain ⟨⟨ya, yn, yc⟩, yt, ycl⟩ := y
        simp only at *
        by_cases g9 : (130 : Int) < (yn : Int)
        · go_wp2
          go_ret
          exact lmp_yes HB1.out
        · go_wp2
          go_round
          case rel => exact ⟨k + 1, by omega, by go_num, allp_step hkq HK.out (by rw [HNY.out]; omega)⟩
          case measure => simp [intOf]; omega
      · have hge : (qn : Int) ≤ (k : Int) := by omega
        have HKQ : Hid (∀ q ∈ qs, q.nm.length ≤ 130) := by
          have := HK.out
          rw [List.take_of_length_le (by omega)] at this
          exact this
        clear HK
        go_wp2_with fail
        clear k10 lb
        go_loopw [5] (fun y wr => ∃ j : Nat, j ≤ tn ∧ y = .int .i64 (j : Int) ∧ Hid (∀ r ∈ L.take j, r.ow.length ≤ 130 ∧ Small r.d) ∧ Hid (Below w1.heap.size w1 wr)) (fun y _ => tn - (intOf y).toNat)
        case atStart => exact ⟨0, Nat.zero_le _, rfl, fun q hq => (by simp at hq), Below.refl _ _⟩
        case round =>
          obtain ⟨j, hj, rfl, HJ, HBJ⟩ := hrel
          by_cases hjl : j < tn
          · have hjl' : (j : Int) < (tn : Int) := by omega
            have hjL : j < L.length := by omega
            obtain ⟨rb, ro, e0, hrb, xx, he, hx⟩ := (HT1.out.below HBJ.out).rd.at j hjL
            simp only at e0
            subst e0
            have KD := Lib.hid (large_any xx.d L[j].d wr hx.2)
            have hon : L[j].ow.length = xx.o.n := hx.1.len
            have HON := Lib.hid hon
            have d0 := he 0 (by omega)
            have d4 := he 4 (by omega)
            have d5 := he 5 (by omega)
            have d6 := he 6 (by omega)
            have d7 := he 7 (by omega)
            clear hx he hon
            obtain ⟨⟨xa, xn, xc⟩, ⟨⟨xa1, xn1, xc1⟩, ⟨xa2, xn2, xc2⟩, ⟨xa3, xn3, xc3⟩, ⟨xa4, xn4, xc4⟩⟩⟩ := xx
            simp only [recCells, Nat.add_zero, List.getElem?_cons_zero, List.getElem?_cons_succ] at d0 d4 d5 d6 d7 KD HON
            by_cases g9 : (130 : Int) < (xn : Int)
            · go_wp2
              go_ret
              exact lmp_yes (HB1.out.trans (HBJ.out.mono HB1.out.size))
            · go_wp2_with fail
              refine KD.out.mono ?_
              rintro e w5 ⟨bb, rfl, hbb, hb5⟩
              have HB5 : Hid (Below w1.heap.size w1 w5) := HBJ.out.trans (hb5.mono HBJ.out.size)
              have HSM := Lib.hid hbb
              clear hb5 hbb KD d0 d4 d5 d6 d7
              cases bb
              · have hN9 : ∀ r ∈ L.take (j + 1), r.ow.length ≤ 130 ∧ Small r.d := @allp_step Rec (fun r => r.ow.length ≤ 130 ∧ Small r.d) L j hjL HJ.out ⟨by rw [HON.out]; omega, HSM.out rfl⟩
                have HN := Lib.hid hN9
                clear hN9
                go_wp2
                go_round
                case rel => exact ⟨j + 1, by omega, by go_num, HN, HB5⟩
                case measure => simp [intOf]; omega
              · go_wp2
                go_ret
                exact lmp_yes (HB1.out.trans (HB5.out.mono HB1.out.size))
          · have hjge : (tn : Int) ≤ (j : Int) := by omega
            have HJL : Hid (∀ r ∈ L, r.ow.length ≤ 130 ∧ Small r.d) := by
              have := HJ.out
              rw [List.take_of_length_le (by omega)] at this
              exact this
            go_wp2
            go_ret
            refine lmp_no ⟨by rw [← HQS.out]; exact HG.out.1, by rw [← HQS.out]; exact HKQ.out, by rw [← HL.out]; exact HG.out.2, by rw [← HL.out]; exact HJL.out⟩ (HB1.out.trans (HBJ.out.mono HB1.out.size))
  · clear g3
    go_wp2_with fail
    go_loop [4] (fun y => ∃ k : Nat, k ≤ qn ∧ y = .int .i64 (k : Int) ∧ Hid (∀ q ∈ qs.take k, q.nm.length ≤ 130)) (fun y => qn - (intOf y).toNat)
    case atStart => exact ⟨0, Nat.zero_le _, rfl, fun q hq => (by simp at hq)⟩
    case round =>
      obtain ⟨k, hk, rfl, HK⟩ := hrel
      by_cases hlt : k < qn
      · have hlt' : (k : Int) < (qn : Int) := by omega
        have hkq : k < qs.length := by omega
        obtain ⟨qb, qo, f1, f2, y, f3, f4, f5, f6⟩ := (HQ.out.below HB1.out).at k hkq
        have hny : qs[k].nm.length = y.s.n := f6.rd.len
        have HNY := Lib.hid hny
        simp only at f1
        subst f1
        clear f4 f5 f6 hny
        obtain ⟨⟨ya, yn, yc⟩, yt, ycl⟩ := y
        simp only at *
        by_cases g9 : (130 : Int) < (yn : Int)
        · go_wp2
          go_ret
          exact lmp_yes HB1.out
        · go_wp2
          go_round
          case rel => exact ⟨k + 1, by omega, by go_num, allp_step hkq HK.out (by rw [HNY.out]; omega)⟩
          case measure => simp [intOf]; omega
      · have hge : (qn : Int) ≤ (k : Int) := by omega
        have HKQ : Hid (∀ q ∈ qs, q.nm.length ≤ 130) := by
          have := HK.out
          rw [List.take_of_length_le (by omega)] at this
          exact this
        clear HK
        go_wp2_with fail
        clear k10 lb
        go_loopw [5] (fun y wr => ∃ j : Nat, j ≤ tn ∧ y = .int .i64 (j : Int) ∧ Hid (∀ r ∈ L.take j, r.ow.length ≤ 130 ∧ Small r.d) ∧ Hid (Below w1.heap.size w1 wr)) (fun y _ => tn - (intOf y).toNat)
        case atStart => exact ⟨0, Nat.zero_le _, rfl, fun q hq => (by simp at hq), Below.refl _ _⟩
        case round =>
          obtain ⟨j, hj, rfl, HJ, HBJ⟩ := hrel
          by_cases hjl : j < tn
          · have hjl' : (j : Int) < (tn : Int) := by omega
            have hjL : j < L.length := by omega
            obtain ⟨rb, ro, e0, hrb, xx, he, hx⟩ := (HT1.out.below HBJ.out).rd.at j hjL
            simp only at e0
            subst e0
            have KD := Lib.hid (large_any xx.d L[j].d wr hx.2)
            have hon : L[j].ow.length = xx.o.n := hx.1.len
            have HON := Lib.hid hon
            have d0 := he 0 (by omega)
            have d4 := he 4 (by omega)
            have d5 := he 5 (by omega)
            have d6 := he 6 (by omega)
            have d7 := he 7 (by omega)
            clear hx he hon
            obtain ⟨⟨xa, xn, xc⟩, ⟨⟨xa1, xn1, xc1⟩, ⟨xa2, xn2, xc2⟩, ⟨xa3, xn3, xc3⟩, ⟨xa4, xn4, xc4⟩⟩⟩ := xx
            simp only [recCells, Nat.add_zero, List.getElem?_cons_zero, List.getElem?_cons_succ] at d0 d4 d5 d6 d7 KD HON
            by_cases g9 : (130 : Int) < (xn : Int)
            · go_wp2
              go_ret
              exact lmp_yes (HB1.out.trans (HBJ.out.mono HB1.out.size))
            · go_wp2_with fail
              refine KD.out.mono ?_
              rintro e w5 ⟨bb, rfl, hbb, hb5⟩
              have HB5 : Hid (Below w1.heap.size w1 w5) := HBJ.out.trans (hb5.mono HBJ.out.size)
              have HSM := Lib.hid hbb
              clear hb5 hbb KD d0 d4 d5 d6 d7
              cases bb
              · have hN9 : ∀ r ∈ L.take (j + 1), r.ow.length ≤ 130 ∧ Small r.d := @allp_step Rec (fun r => r.ow.length ≤ 130 ∧ Small r.d) L j hjL HJ.out ⟨by rw [HON.out]; omega, HSM.out rfl⟩
                have HN := Lib.hid hN9
                clear hN9
                go_wp2
                go_round
                case rel => exact ⟨j + 1, by omega, by go_num, HN, HB5⟩
                case measure => simp [intOf]; omega
              · go_wp2
                go_ret
                exact lmp_yes (HB1.out.trans (HB5.out.mono HB1.out.size))
          · have hjge : (tn : Int) ≤ (j : Int) := by omega
            have HJL : Hid (∀ r ∈ L, r.ow.length ≤ 130 ∧ Small r.d) := by
              have := HJ.out
              rw [List.take_of_length_le (by omega)] at this
              exact this
            go_wp2
            go_ret
            refine lmp_no ⟨by rw [← HQS.out]; exact HG.out.1, by rw [← HQS.out]; exact HKQ.out, by rw [← HL.out]; exact HG.out.2, by rw [← HL.out]; exact HJL.out⟩ (HB1.out.trans (HBJ.out.mono HB1.out.size))
end Go.Proofs.YtkjnbgekaifdfaaGreat
namespace Go.Proofs.YtkjnbgekaifdfaaGreat
open Go.ChangeShapes Go.WideShapes Go.ChangeAt Go.RowKit Go.Maps
set_option linter.unusedVariables false
set_option linter.unusedSimpArgs false
theorem FewM.fin {m : Mg} (h : FewM m) : Fin m := by
  have hmem : ∀ k, ∀ r ∈ nthL m k, r ∈ m.l1 ++ m.l2 ++ m.l3 := by
    intro k r hr
    unfold nthL at hr
    split at hr
    · simp [hr]
    · split at hr <;> simp [hr]
  refine ⟨fun k r hr => ((h.r r (hmem k r hr)).2).bd, fun q hq => by have := h.qn q hq; omega, fun k r hr => by have := (h.r r (hmem k r hr)).1; omega, ?_, by have := h.q; omega⟩
  have := h.l
  simp only [List.length_append] at this
  unfold tot
  omega
end Go.Proofs.YtkjnbgekaifdfaaGreat
namespace Go.Proofs.YtkjnbgekaifdfaaGreat
open Go.ChangeShapes Go.WideShapes Go.ChangeAt Go.RowKit
set_option linter.unusedVariables false
set_option linter.unusedSimpArgs false
set_option maxRecDepth 100000 in
set_option maxHeartbeats 16000000 in
theorem growsL (H : Hd) (x : MA) (m : Mg) (a b : Int) (w : World) (hm : MRd w H x m) (ht : x.l1.n + x.l2.n + x.l3.n ≤ 2000000) (hab : ¬ b < a) : Calls Tryz.prog 5 #[.agg #[.int .u16 H.id, .bool H.rs, .int .i64 H.op, .bool H.aa, .bool H.tc, .bool H.rd, .bool H.ra, .bool H.ad, .bool H.cd, .int .i64 H.rc, .slice x.q.a x.q.n x.q.c, .slice x.l1.a x.l1.n x.l1.c, .slice x.l2.a x.l2.n x.l2.c, .slice x.l3.a x.l3.n x.l3.c], .int .i64 a, .int .i64 b] w fun e w' => e = .returned (.bool true) ∧ Hid (Below w.heap.size w w') := by
  have hb0 := newF_below w (.cells #[.int .u16 H.id, .bool H.rs, .int .i64 H.op, .bool H.aa, .bool H.tc, .bool H.rd, .bool H.ra, .bool H.ad, .bool H.cd, .int .i64 H.rc, .slice x.q.a x.q.n x.q.c, .slice x.l1.a x.l1.n x.l1.c, .slice x.l2.a x.l2.n x.l2.c, .slice x.l3.a x.l3.n x.l3.c] 26)
  have HX : Hid ((w.alloc (.cells #[.int .u16 H.id, .bool H.rs, .int .i64 H.op, .bool H.aa, .bool H.tc, .bool H.rd, .bool H.ra, .bool H.ad, .bool H.cd, .int .i64 H.rc, .slice x.q.a x.q.n x.q.c, .slice x.l1.a x.l1.n x.l1.c, .slice x.l2.a x.l2.n x.l2.c, .slice x.l3.a x.l3.n x.l3.c] 26)).heap[w.heap.size]? = some (.cells #[.int .u16 H.id, .bool H.rs, .int .i64 H.op, .bool H.aa, .bool H.tc, .bool H.rd, .bool H.ra, .bool H.ad, .bool H.cd, .int .i64 H.rc, .slice x.q.a x.q.n x.q.c, .slice x.l1.a x.l1.n x.l1.c, .slice x.l2.a x.l2.n x.l2.c, .slice x.l3.a x.l3.n x.l3.c] 26)) := heap_alloc_new _ _
  have HB0 := Lib.hid hb0
  have HM : Hid (MRd (w.alloc (.cells #[.int .u16 H.id, .bool H.rs, .int .i64 H.op, .bool H.aa, .bool H.tc, .bool H.rd, .bool H.ra, .bool H.ad, .bool H.cd, .int .i64 H.rc, .slice x.q.a x.q.n x.q.c, .slice x.l1.a x.l1.n x.l1.c, .slice x.l2.a x.l2.n x.l2.c, .slice x.l3.a x.l3.n x.l3.c] 26)) H x m) := hm.below hb0
  have HHm : Hid (m.h = H) := hm.h
  have HMb : Hid (Mb m) := hm.b
  clear hb0 hm
  go_enter Tryz.func5, Tryz.ntmps5
  go_wp2_with fail
  generalize w.alloc (.cells #[.int .u16 H.id, .bool H.rs, .int .i64 H.op, .bool H.aa, .bool H.tc, .bool H.rd, .bool H.ra, .bool H.ad, .bool H.cd, .int .i64 H.rc, .slice x.q.a x.q.n x.q.c, .slice x.l1.a x.l1.n x.l1.c, .slice x.l2.a x.l2.n x.l2.c, .slice x.l3.a x.l3.n x.l3.c] 26) = w0 at *
  obtain ⟨p, hbb⟩ : ∃ p, p = w.heap.size := ⟨_, rfl⟩
  rw [← hbb] at HX
  simp only [← hbb]
  clear hbb
  have KM : ∀ W, Below w0.heap.size w0 W → (W.cell? ⟨p, 0, none⟩ = some (.int .u16 H.id) ∧ W.cell? ⟨p, 1, none⟩ = some (.bool H.rs) ∧ W.cell? ⟨p, 2, none⟩ = some (.int .i64 H.op) ∧ W.cell? ⟨p, 3, none⟩ = some (.bool H.aa) ∧ W.cell? ⟨p, 4, none⟩ = some (.bool H.tc) ∧ W.cell? ⟨p, 5, none⟩ = some (.bool H.rd) ∧ W.cell? ⟨p, 6, none⟩ = some (.bool H.ra) ∧ W.cell? ⟨p, 7, none⟩ = some (.bool H.ad) ∧ W.cell? ⟨p, 8, none⟩ = some (.bool H.cd) ∧ W.cell? ⟨p, 9, none⟩ = some (.int .i64 H.rc) ∧ W.cell? ⟨p, 10, none⟩ = some (.slice x.q.a x.q.n x.q.c) ∧ W.cell? ⟨p, 11, none⟩ = some (.slice x.l1.a x.l1.n x.l1.c) ∧ W.cell? ⟨p, 12, none⟩ = some (.slice x.l2.a x.l2.n x.l2.c) ∧ W.cell? ⟨p, 13, none⟩ = some (.slice x.l3.a x.l3.n x.l3.c)) := fun W hb => by
    have mm := (hb.block p (box_lt HX.out)).trans HX.out
    exact ⟨box_cell mm 0 _ rfl, box_cell mm 1 _ rfl, box_cell mm 2 _ rfl, box_cell mm 3 _ rfl, box_cell mm 4 _ rfl, box_cell mm 5 _ rfl, box_cell mm 6 _ rfl, box_cell mm 7 _ rfl, box_cell mm 8 _ rfl, box_cell mm 9 _ rfl, box_cell mm 10 _ rfl, box_cell mm 11 _ rfl, box_cell mm 12 _ rfl, box_cell mm 13 _ rfl⟩
  have K14 := fun W => Lib.hid (awake14 W)
  go_wp2_with fail
  refine (K14 _).out.mono ?_
  rintro e w1 ⟨rfl, H1⟩
  obtain ⟨k0, k1, k2, k3, k4, k5, k6, k7, k8, k9, k10, k11, k12, k13⟩ := KM w1 H1.out
  have lb : p < w1.heap.size := Nat.lt_of_lt_of_le (box_lt HX.out) (Below.size H1.out)
  have K8 := Lib.hid (largeM H x m w1 (HM.out.below H1.out) ht)
  go_wp2_with fail
  refine K8.out.mono ?_
  rintro e w2 ⟨bl, rfl, H2⟩
  have HB2 : Hid (Below w0.heap.size w0 w2) := H1.out.trans (H2.out.2.mono H1.out.size)
  have HFW := Lib.hid H2.out.1
  clear k0 k1 k2 k3 k4 k5 k6 k7 k8 k9 k10 k11 k12 k13 lb
  clear K8 K14 H1 H2
  obtain ⟨k0, k1, k2, k3, k4, k5, k6, k7, k8, k9, k10, k11, k12, k13⟩ := KM w2 HB2.out
  have lb : p < w2.heap.size := Nat.lt_of_lt_of_le (box_lt HX.out) (Below.size HB2.out)
  have HLE : Hid (a ≤ b) := by show _ ≤ _; omega
  cases bl with
  | true =>
    go_wp2
    go_ret
    exact ⟨rfl, HB0.out.trans (HB2.out.mono HB0.out.size)⟩
  | false =>
    have HF : Hid (Fin m) := (HFW.out rfl).fin
    have K16 := fun z W (h : MRd W H x m) => Lib.hid (cut16 H x m z W h HF.out)
    have HM2 : Hid (MRd w2 H x m) := HM.out.below HB2.out
    go_wp2_with fail
    refine (K16 a _ HM2.out).out.mono ?_
    rintro e w3 ⟨G1, Y1, rfl, H3⟩
    clear k0 k1 k2 k3 k4 k5 k6 k7 k8 k9 k10 k11 k12 k13 lb
    have hN3 := newF_below w3 (.cells #[.int .u16 G1.id, .bool G1.rs, .int .i64 G1.op, .bool G1.aa, .bool G1.tc, .bool G1.rd, .bool G1.ra, .bool G1.ad, .bool G1.cd, .int .i64 G1.rc, .slice Y1.q.a Y1.q.n Y1.q.c, .slice Y1.l1.a Y1.l1.n Y1.l1.c, .slice Y1.l2.a Y1.l2.n Y1.l2.c, .slice Y1.l3.a Y1.l3.n Y1.l3.c] 26)
    have HX3 : Hid ((w3.alloc (.cells #[.int .u16 G1.id, .bool G1.rs, .int .i64 G1.op, .bool G1.aa, .bool G1.tc, .bool G1.rd, .bool G1.ra, .bool G1.ad, .bool G1.cd, .int .i64 G1.rc, .slice Y1.q.a Y1.q.n Y1.q.c, .slice Y1.l1.a Y1.l1.n Y1.l1.c, .slice Y1.l2.a Y1.l2.n Y1.l2.c, .slice Y1.l3.a Y1.l3.n Y1.l3.c] 26)).heap[w3.heap.size]? = some (.cells #[.int .u16 G1.id, .bool G1.rs, .int .i64 G1.op, .bool G1.aa, .bool G1.tc, .bool G1.rd, .bool G1.ra, .bool G1.ad, .bool G1.cd, .int .i64 G1.rc, .slice Y1.q.a Y1.q.n Y1.q.c, .slice Y1.l1.a Y1.l1.n Y1.l1.c, .slice Y1.l2.a Y1.l2.n Y1.l2.c, .slice Y1.l3.a Y1.l3.n Y1.l3.c] 26)) := heap_alloc_new _ _
    have HB3 : Hid (Below w0.heap.size w0 (w3.alloc (.cells #[.int .u16 G1.id, .bool G1.rs, .int .i64 G1.op, .bool G1.aa, .bool G1.tc, .bool G1.rd, .bool G1.ra, .bool G1.ad, .bool G1.cd, .int .i64 G1.rc, .slice Y1.q.a Y1.q.n Y1.q.c, .slice Y1.l1.a Y1.l1.n Y1.l1.c, .slice Y1.l2.a Y1.l2.n Y1.l2.c, .slice Y1.l3.a Y1.l3.n Y1.l3.c] 26))) := (HB2.out.trans (H3.out.2.mono HB2.out.size)).trans (hN3.mono (Nat.le_trans HB2.out.size H3.out.2.size))
    have HR1 : Hid (cutE m a = 0 → MRd (w3.alloc (.cells #[.int .u16 G1.id, .bool G1.rs, .int .i64 G1.op, .bool G1.aa, .bool G1.tc, .bool G1.rd, .bool G1.ra, .bool G1.ad, .bool G1.cd, .int .i64 G1.rc, .slice Y1.q.a Y1.q.n Y1.q.c, .slice Y1.l1.a Y1.l1.n Y1.l1.c, .slice Y1.l2.a Y1.l2.n Y1.l2.c, .slice Y1.l3.a Y1.l3.n Y1.l3.c] 26)) G1 Y1 (cutF m a)) := fun h => (H3.out.1 h).below hN3
    clear H3 hN3 HM2
    obtain ⟨E1, hE1⟩ : ∃ z, z = cutE m a := ⟨_, rfl⟩
    have HE1 := Lib.hid hE1
    rw [← hE1] at HR1 ⊢
    clear hE1
    obtain ⟨k0, k1, k2, k3, k4, k5, k6, k7, k8, k9, k10, k11, k12, k13⟩ := KM _ HB3.out
    have lb : p < (w3.alloc (.cells #[.int .u16 G1.id, .bool G1.rs, .int .i64 G1.op, .bool G1.aa, .bool G1.tc, .bool G1.rd, .bool G1.ra, .bool G1.ad, .bool G1.cd, .int .i64 G1.rc, .slice Y1.q.a Y1.q.n Y1.q.c, .slice Y1.l1.a Y1.l1.n Y1.l1.c, .slice Y1.l2.a Y1.l2.n Y1.l2.c, .slice Y1.l3.a Y1.l3.n Y1.l3.c] 26)).heap.size := Nat.lt_of_lt_of_le (box_lt HX.out) (Below.size HB3.out)
    have HM3 : Hid (MRd (w3.alloc (.cells #[.int .u16 G1.id, .bool G1.rs, .int .i64 G1.op, .bool G1.aa, .bool G1.tc, .bool G1.rd, .bool G1.ra, .bool G1.ad, .bool G1.cd, .int .i64 G1.rc, .slice Y1.q.a Y1.q.n Y1.q.c, .slice Y1.l1.a Y1.l1.n Y1.l1.c, .slice Y1.l2.a Y1.l2.n Y1.l2.c, .slice Y1.l3.a Y1.l3.n Y1.l3.c] 26)) H x m) := HM.out.below HB3.out
    go_wp2_with fail
    refine (K16 b _ HM3.out).out.mono ?_
    rintro e w4 ⟨G2, Y2, rfl, H4⟩
    clear k0 k1 k2 k3 k4 k5 k6 k7 k8 k9 k10 k11 k12 k13 lb
    generalize w3.alloc (.cells #[.int .u16 G1.id, .bool G1.rs, .int .i64 G1.op, .bool G1.aa, .bool G1.tc, .bool G1.rd, .bool G1.ra, .bool G1.ad, .bool G1.cd, .int .i64 G1.rc, .slice Y1.q.a Y1.q.n Y1.q.c, .slice Y1.l1.a Y1.l1.n Y1.l1.c, .slice Y1.l2.a Y1.l2.n Y1.l2.c, .slice Y1.l3.a Y1.l3.n Y1.l3.c] 26) = W3 at *
    obtain ⟨p1, hp1⟩ : ∃ z, z = w3.heap.size := ⟨_, rfl⟩
    rw [← hp1] at HX3 ⊢
    clear hp1
    have hN4 := newF_below w4 (.cells #[.int .u16 G2.id, .bool G2.rs, .int .i64 G2.op, .bool G2.aa, .bool G2.tc, .bool G2.rd, .bool G2.ra, .bool G2.ad, .bool G2.cd, .int .i64 G2.rc, .slice Y2.q.a Y2.q.n Y2.q.c, .slice Y2.l1.a Y2.l1.n Y2.l1.c, .slice Y2.l2.a Y2.l2.n Y2.l2.c, .slice Y2.l3.a Y2.l3.n Y2.l3.c] 26)
    have HX4 : Hid ((w4.alloc (.cells #[.int .u16 G2.id, .bool G2.rs, .int .i64 G2.op, .bool G2.aa, .bool G2.tc, .bool G2.rd, .bool G2.ra, .bool G2.ad, .bool G2.cd, .int .i64 G2.rc, .slice Y2.q.a Y2.q.n Y2.q.c, .slice Y2.l1.a Y2.l1.n Y2.l1.c, .slice Y2.l2.a Y2.l2.n Y2.l2.c, .slice Y2.l3.a Y2.l3.n Y2.l3.c] 26)).heap[w4.heap.size]? = some (.cells #[.int .u16 G2.id, .bool G2.rs, .int .i64 G2.op, .bool G2.aa, .bool G2.tc, .bool G2.rd, .bool G2.ra, .bool G2.ad, .bool G2.cd, .int .i64 G2.rc, .slice Y2.q.a Y2.q.n Y2.q.c, .slice Y2.l1.a Y2.l1.n Y2.l1.c, .slice Y2.l2.a Y2.l2.n Y2.l2.c, .slice Y2.l3.a Y2.l3.n Y2.l3.c] 26)) := heap_alloc_new _ _
    have HB34 : Hid (Below W3.heap.size W3 (w4.alloc (.cells #[.int .u16 G2.id, .bool G2.rs, .int .i64 G2.op, .bool G2.aa, .bool G2.tc, .bool G2.rd, .bool G2.ra, .bool G2.ad, .bool G2.cd, .int .i64 G2.rc, .slice Y2.q.a Y2.q.n Y2.q.c, .slice Y2.l1.a Y2.l1.n Y2.l1.c, .slice Y2.l2.a Y2.l2.n Y2.l2.c, .slice Y2.l3.a Y2.l3.n Y2.l3.c] 26))) := H4.out.2.trans (hN4.mono H4.out.2.size)
    have HB4 : Hid (Below w0.heap.size w0 (w4.alloc (.cells #[.int .u16 G2.id, .bool G2.rs, .int .i64 G2.op, .bool G2.aa, .bool G2.tc, .bool G2.rd, .bool G2.ra, .bool G2.ad, .bool G2.cd, .int .i64 G2.rc, .slice Y2.q.a Y2.q.n Y2.q.c, .slice Y2.l1.a Y2.l1.n Y2.l1.c, .slice Y2.l2.a Y2.l2.n Y2.l2.c, .slice Y2.l3.a Y2.l3.n Y2.l3.c] 26))) := HB3.out.trans (HB34.out.mono HB3.out.size)
    have HR2 : Hid (cutE m b = 0 → MRd (w4.alloc (.cells #[.int .u16 G2.id, .bool G2.rs, .int .i64 G2.op, .bool G2.aa, .bool G2.tc, .bool G2.rd, .bool G2.ra, .bool G2.ad, .bool G2.cd, .int .i64 G2.rc, .slice Y2.q.a Y2.q.n Y2.q.c, .slice Y2.l1.a Y2.l1.n Y2.l1.c, .slice Y2.l2.a Y2.l2.n Y2.l2.c, .slice Y2.l3.a Y2.l3.n Y2.l3.c] 26)) G2 Y2 (cutF m b)) := fun h => (H4.out.1 h).below hN4
    clear H4 hN4 HM3 K16
    obtain ⟨E2, hE2⟩ : ∃ z, z = cutE m b := ⟨_, rfl⟩
    have HE2 := Lib.hid hE2
    rw [← hE2] at HR2 ⊢
    clear hE2
    by_cases hc : E1 = 0
    · subst hc
      obtain ⟨c1, c2, c3⟩ := cut_grows m HLE.out HE1.out.symm
      have hc2 : E2 = 0 := HE2.out.trans c1
      subst hc2
      have HA1 : Hid (MRd W3 G1 Y1 (cutF m a)) := HR1.out rfl
      have HA2 : Hid (MRd (w4.alloc (.cells #[.int .u16 G2.id, .bool G2.rs, .int .i64 G2.op, .bool G2.aa, .bool G2.tc, .bool G2.rd, .bool G2.ra, .bool G2.ad, .bool G2.cd, .int .i64 G2.rc, .slice Y2.q.a Y2.q.n Y2.q.c, .slice Y2.l1.a Y2.l1.n Y2.l1.c, .slice Y2.l2.a Y2.l2.n Y2.l2.c, .slice Y2.l3.a Y2.l3.n Y2.l3.c] 26)) G2 Y2 (cutF m b)) := HR2.out rfl
      have HFs : Hid (Fin (cutF m a) ∧ Fin (cutF m b)) := ⟨(cutE_ok HE1.out.symm).2.1.fin, (cutE_ok HE2.out.symm).2.1.fin⟩
      have HTC : Hid (G2.tc = true → G1.tc = true ∨ H.tc = true) := by
        intro h
        rw [← HA1.out.h, ← HHm.out]
        exact c3 (by rw [HA2.out.h]; exact h)
      have hrl : ((recN (cutF m a) : Nat) : Int) ≤ ((recN (cutF m b) : Nat) : Int) := by omega
      go_upto_region 10 with (fail)
      generalize w4.alloc (.cells #[.int .u16 G2.id, .bool G2.rs, .int .i64 G2.op, .bool G2.aa, .bool G2.tc, .bool G2.rd, .bool G2.ra, .bool G2.ad, .bool G2.cd, .int .i64 G2.rc, .slice Y2.q.a Y2.q.n Y2.q.c, .slice Y2.l1.a Y2.l1.n Y2.l1.c, .slice Y2.l2.a Y2.l2.n Y2.l2.c, .slice Y2.l3.a Y2.l3.n Y2.l3.c] 26) = W4 at *
      obtain ⟨p2, hp2⟩ : ∃ z, z = w4.heap.size := ⟨_, rfl⟩
      rw [← hp2] at HX4 ⊢
      clear hp2
      have KA : ∀ W, Below W4.heap.size W4 W → Hid (Calls Tryz.prog 21 #[.agg #[.int .u16 G1.id, .bool G1.rs, .int .i64 G1.op, .bool G1.aa, .bool G1.tc, .bool G1.rd, .bool G1.ra, .bool G1.ad, .bool G1.cd, .int .i64 G1.rc, .slice Y1.q.a Y1.q.n Y1.q.c, .slice Y1.l1.a Y1.l1.n Y1.l1.c, .slice Y1.l2.a Y1.l2.n Y1.l2.c, .slice Y1.l3.a Y1.l3.n Y1.l3.c]] W fun e w' => e = .returned (.int .i64 ((recN (cutF m a) : Nat) : Int)) ∧ Hid (Below W.heap.size W w')) := fun W hW => records21 G1 Y1 _ W ((HA1.out.below HB34.out).below hW) HFs.out.1
      have KB : ∀ W, Below W4.heap.size W4 W → Hid (Calls Tryz.prog 21 #[.agg #[.int .u16 G2.id, .bool G2.rs, .int .i64 G2.op, .bool G2.aa, .bool G2.tc, .bool G2.rd, .bool G2.ra, .bool G2.ad, .bool G2.cd, .int .i64 G2.rc, .slice Y2.q.a Y2.q.n Y2.q.c, .slice Y2.l1.a Y2.l1.n Y2.l1.c, .slice Y2.l2.a Y2.l2.n Y2.l2.c, .slice Y2.l3.a Y2.l3.n Y2.l3.c]] W fun e w' => e = .returned (.int .i64 ((recN (cutF m b) : Nat) : Int)) ∧ Hid (Below W.heap.size W w')) := fun W hW => records21 G2 Y2 _ W (HA2.out.below hW) HFs.out.2
      generalize recN (cutF m a) = R1 at *
      generalize recN (cutF m b) = R2 at *
      have KS : ∀ W, Below W4.heap.size W4 W → ((W.cell? ⟨p, 0, none⟩ = some (.int .u16 H.id) ∧ W.cell? ⟨p, 1, none⟩ = some (.bool H.rs) ∧ W.cell? ⟨p, 2, none⟩ = some (.int .i64 H.op) ∧ W.cell? ⟨p, 3, none⟩ = some (.bool H.aa) ∧ W.cell? ⟨p, 4, none⟩ = some (.bool H.tc) ∧ W.cell? ⟨p, 5, none⟩ = some (.bool H.rd) ∧ W.cell? ⟨p, 6, none⟩ = some (.bool H.ra) ∧ W.cell? ⟨p, 7, none⟩ = some (.bool H.ad) ∧ W.cell? ⟨p, 8, none⟩ = some (.bool H.cd) ∧ W.cell? ⟨p, 9, none⟩ = some (.int .i64 H.rc) ∧ W.cell? ⟨p, 10, none⟩ = some (.slice x.q.a x.q.n x.q.c) ∧ W.cell? ⟨p, 11, none⟩ = some (.slice x.l1.a x.l1.n x.l1.c) ∧ W.cell? ⟨p, 12, none⟩ = some (.slice x.l2.a x.l2.n x.l2.c) ∧ W.cell? ⟨p, 13, none⟩ = some (.slice x.l3.a x.l3.n x.l3.c)) ∧ (W.cell? ⟨p1, 0, none⟩ = some (.int .u16 G1.id) ∧ W.cell? ⟨p1, 1, none⟩ = some (.bool G1.rs) ∧ W.cell? ⟨p1, 2, none⟩ = some (.int .i64 G1.op) ∧ W.cell? ⟨p1, 3, none⟩ = some (.bool G1.aa) ∧ W.cell? ⟨p1, 4, none⟩ = some (.bool G1.tc) ∧ W.cell? ⟨p1, 5, none⟩ = some (.bool G1.rd) ∧ W.cell? ⟨p1, 6, none⟩ = some (.bool G1.ra) ∧ W.cell? ⟨p1, 7, none⟩ = some (.bool G1.ad) ∧ W.cell? ⟨p1, 8, none⟩ = some (.bool G1.cd) ∧ W.cell? ⟨p1, 9, none⟩ = some (.int .i64 G1.rc) ∧ W.cell? ⟨p1, 10, none⟩ = some (.slice Y1.q.a Y1.q.n Y1.q.c) ∧ W.cell? ⟨p1, 11, none⟩ = some (.slice Y1.l1.a Y1.l1.n Y1.l1.c) ∧ W.cell? ⟨p1, 12, none⟩ = some (.slice Y1.l2.a Y1.l2.n Y1.l2.c) ∧ W.cell? ⟨p1, 13, none⟩ = some (.slice Y1.l3.a Y1.l3.n Y1.l3.c)) ∧ (W.cell? ⟨p2, 0, none⟩ = some (.int .u16 G2.id) ∧ W.cell? ⟨p2, 1, none⟩ = some (.bool G2.rs) ∧ W.cell? ⟨p2, 2, none⟩ = some (.int .i64 G2.op) ∧ W.cell? ⟨p2, 3, none⟩ = some (.bool G2.aa) ∧ W.cell? ⟨p2, 4, none⟩ = some (.bool G2.tc) ∧ W.cell? ⟨p2, 5, none⟩ = some (.bool G2.rd) ∧ W.cell? ⟨p2, 6, none⟩ = some (.bool G2.ra) ∧ W.cell? ⟨p2, 7, none⟩ = some (.bool G2.ad) ∧ W.cell? ⟨p2, 8, none⟩ = some (.bool G2.cd) ∧ W.cell? ⟨p2, 9, none⟩ = some (.int .i64 G2.rc) ∧ W.cell? ⟨p2, 10, none⟩ = some (.slice Y2.q.a Y2.q.n Y2.q.c) ∧ W.cell? ⟨p2, 11, none⟩ = some (.slice Y2.l1.a Y2.l1.n Y2.l1.c) ∧ W.cell? ⟨p2, 12, none⟩ = some (.slice Y2.l2.a Y2.l2.n Y2.l2.c) ∧ W.cell? ⟨p2, 13, none⟩ = some (.slice Y2.l3.a Y2.l3.n Y2.l3.c))) := fun W hW => by
        have mm := (hW.block p2 (box_lt HX4.out)).trans HX4.out
        have hX3 := (HB34.out.block p1 (box_lt HX3.out)).trans HX3.out
        refine ⟨KM W (HB4.out.trans (hW.mono HB4.out.size)), ?_, ⟨box_cell mm 0 _ rfl, box_cell mm 1 _ rfl, box_cell mm 2 _ rfl, box_cell mm 3 _ rfl, box_cell mm 4 _ rfl, box_cell mm 5 _ rfl, box_cell mm 6 _ rfl, box_cell mm 7 _ rfl, box_cell mm 8 _ rfl, box_cell mm 9 _ rfl, box_cell mm 10 _ rfl, box_cell mm 11 _ rfl, box_cell mm 12 _ rfl, box_cell mm 13 _ rfl⟩⟩
        have mm := (hW.block p1 (box_lt hX3)).trans hX3
        exact ⟨box_cell mm 0 _ rfl, box_cell mm 1 _ rfl, box_cell mm 2 _ rfl, box_cell mm 3 _ rfl, box_cell mm 4 _ rfl, box_cell mm 5 _ rfl, box_cell mm 6 _ rfl, box_cell mm 7 _ rfl, box_cell mm 8 _ rfl, box_cell mm 9 _ rfl, box_cell mm 10 _ rfl, box_cell mm 11 _ rfl, box_cell mm 12 _ rfl, box_cell mm 13 _ rfl⟩
      have HEnd : ∀ W, Below W4.heap.size W4 W → Hid (Below w.heap.size w W) := fun W hW => HB0.out.trans ((HB4.out.trans (hW.mono HB4.out.size)).mono HB0.out.size)
      have lp : p < W4.heap.size := Nat.lt_of_lt_of_le (box_lt HX.out) HB4.out.size
      have lp1 : p1 < W4.heap.size := Nat.lt_of_lt_of_le (box_lt HX3.out) HB34.out.size
      have lp2 := box_lt HX4.out
      clear HR1 HR2 HA1 HA2 HFs HE1 HE2 c1 c2 c3 HM HX HX3 HX4 KM HFW HF HLE HB34 HB2 HB3
      have HTC2 := HTC.out
      clear HTC
      cases hg2 : G2.tc with
      | false =>
        rw [hg2] at KS KB
        obtain ⟨⟨ia0, ia1, ia2, ia3, ia4, ia5, ia6, ia7, ia8, ia9, ia10, ia11, ia12, ia13⟩, ⟨ib0, ib1, ib2, ib3, ib4, ib5, ib6, ib7, ib8, ib9, ib10, ib11, ib12, ib13⟩, ic0, ic1, ic2, ic3, ic4, ic5, ic6, ic7, ic8, ic9, ic10, ic11, ic12, ic13⟩ := KS W4 (Below.refl _ _)
        first | (go_region_law (first
          | (go_simp; go_at_call 21; have hb := HB6.out; refine Calls.mono (KB _ hb).out ?_; rintro e w7 ⟨rfl, H7⟩; have HB7 : Hid (Below W4.heap.size W4 w7) := hb.trans (H7.out.mono hb.size); obtain ⟨⟨qa0, qa1, qa2, qa3, qa4, qa5, qa6, qa7, qa8, qa9, qa10, qa11, qa12, qa13⟩, ⟨qb0, qb1, qb2, qb3, qb4, qb5, qb6, qb7, qb8, qb9, qb10, qb11, qb12, qb13⟩, qc0, qc1, qc2, qc3, qc4, qc5, qc6, qc7, qc8, qc9, qc10, qc11, qc12, qc13⟩ := KS w7 HB7.out; have lq0 : p < w7.heap.size := Nat.lt_of_lt_of_le lp HB7.out.size; have lq1 : p1 < w7.heap.size := Nat.lt_of_lt_of_le lp1 HB7.out.size; have lq2 : p2 < w7.heap.size := Nat.lt_of_lt_of_le lp2 HB7.out.size)
          | (go_simp; go_at_call 21; refine Calls.mono (KA _ (Below.refl W4.heap.size W4).drew).out ?_; rintro e w6 ⟨rfl, H6⟩; have HB6 : Hid (Below W4.heap.size W4 w6) := (Below.refl W4.heap.size W4).drew.trans H6.out; obtain ⟨⟨ja0, ja1, ja2, ja3, ja4, ja5, ja6, ja7, ja8, ja9, ja10, ja11, ja12, ja13⟩, ⟨jb0, jb1, jb2, jb3, jb4, jb5, jb6, jb7, jb8, jb9, jb10, jb11, jb12, jb13⟩, jc0, jc1, jc2, jc3, jc4, jc5, jc6, jc7, jc8, jc9, jc10, jc11, jc12, jc13⟩ := KS w6 HB6.out; have lj0 : p < w6.heap.size := Nat.lt_of_lt_of_le lp HB6.out.size; have lj1 : p1 < w6.heap.size := Nat.lt_of_lt_of_le lp1 HB6.out.size; have lj2 : p2 < w6.heap.size := Nat.lt_of_lt_of_le lp2 HB6.out.size)
          | fail)) | fail
        all_goals go_wp2
        all_goals go_ret
        all_goals exact ⟨rfl, (HEnd _ HB7.out).out⟩
      | true =>
        rw [hg2] at KS KB
        cases hg1 : G1.tc with
        | true =>
          rw [hg1] at KS KA
          obtain ⟨⟨ia0, ia1, ia2, ia3, ia4, ia5, ia6, ia7, ia8, ia9, ia10, ia11, ia12, ia13⟩, ⟨ib0, ib1, ib2, ib3, ib4, ib5, ib6, ib7, ib8, ib9, ib10, ib11, ib12, ib13⟩, ic0, ic1, ic2, ic3, ic4, ic5, ic6, ic7, ic8, ic9, ic10, ic11, ic12, ic13⟩ := KS W4 (Below.refl _ _)
          first | (go_region_law (first
            | (go_simp; go_at_call 21; have hb := HB6.out; refine Calls.mono (KB _ hb).out ?_; rintro e w7 ⟨rfl, H7⟩; have HB7 : Hid (Below W4.heap.size W4 w7) := hb.trans (H7.out.mono hb.size); obtain ⟨⟨qa0, qa1, qa2, qa3, qa4, qa5, qa6, qa7, qa8, qa9, qa10, qa11, qa12, qa13⟩, ⟨qb0, qb1, qb2, qb3, qb4, qb5, qb6, qb7, qb8, qb9, qb10, qb11, qb12, qb13⟩, qc0, qc1, qc2, qc3, qc4, qc5, qc6, qc7, qc8, qc9, qc10, qc11, qc12, qc13⟩ := KS w7 HB7.out; have lq0 : p < w7.heap.size := Nat.lt_of_lt_of_le lp HB7.out.size; have lq1 : p1 < w7.heap.size := Nat.lt_of_lt_of_le lp1 HB7.out.size; have lq2 : p2 < w7.heap.size := Nat.lt_of_lt_of_le lp2 HB7.out.size)
            | (go_simp; go_at_call 21; refine Calls.mono (KA _ (Below.refl W4.heap.size W4).drew).out ?_; rintro e w6 ⟨rfl, H6⟩; have HB6 : Hid (Below W4.heap.size W4 w6) := (Below.refl W4.heap.size W4).drew.trans H6.out; obtain ⟨⟨ja0, ja1, ja2, ja3, ja4, ja5, ja6, ja7, ja8, ja9, ja10, ja11, ja12, ja13⟩, ⟨jb0, jb1, jb2, jb3, jb4, jb5, jb6, jb7, jb8, jb9, jb10, jb11, jb12, jb13⟩, jc0, jc1, jc2, jc3, jc4, jc5, jc6, jc7, jc8, jc9, jc10, jc11, jc12, jc13⟩ := KS w6 HB6.out; have lj0 : p < w6.heap.size := Nat.lt_of_lt_of_le lp HB6.out.size; have lj1 : p1 < w6.heap.size := Nat.lt_of_lt_of_le lp1 HB6.out.size; have lj2 : p2 < w6.heap.size := Nat.lt_of_lt_of_le lp2 HB6.out.size)
            | fail)) | fail
          all_goals go_wp2
          all_goals go_ret
          all_goals exact ⟨rfl, (HEnd _ HB7.out).out⟩
        | false =>
          have hH : H.tc = true := by
            rcases HTC2 hg2 with h | h
            · rw [hg1] at h; cases h
            · exact h
          rw [hg1] at KS KA
          rw [hH] at KS
          clear HTC2
          obtain ⟨⟨ia0, ia1, ia2, ia3, ia4, ia5, ia6, ia7, ia8, ia9, ia10, ia11, ia12, ia13⟩, ⟨ib0, ib1, ib2, ib3, ib4, ib5, ib6, ib7, ib8, ib9, ib10, ib11, ib12, ib13⟩, ic0, ic1, ic2, ic3, ic4, ic5, ic6, ic7, ic8, ic9, ic10, ic11, ic12, ic13⟩ := KS W4 (Below.refl _ _)
          first | (go_region_law (first
            | (go_simp; go_at_call 21; have hb := HB6.out; refine Calls.mono (KB _ hb).out ?_; rintro e w7 ⟨rfl, H7⟩; have HB7 : Hid (Below W4.heap.size W4 w7) := hb.trans (H7.out.mono hb.size); obtain ⟨⟨qa0, qa1, qa2, qa3, qa4, qa5, qa6, qa7, qa8, qa9, qa10, qa11, qa12, qa13⟩, ⟨qb0, qb1, qb2, qb3, qb4, qb5, qb6, qb7, qb8, qb9, qb10, qb11, qb12, qb13⟩, qc0, qc1, qc2, qc3, qc4, qc5, qc6, qc7, qc8, qc9, qc10, qc11, qc12, qc13⟩ := KS w7 HB7.out; have lq0 : p < w7.heap.size := Nat.lt_of_lt_of_le lp HB7.out.size; have lq1 : p1 < w7.heap.size := Nat.lt_of_lt_of_le lp1 HB7.out.size; have lq2 : p2 < w7.heap.size := Nat.lt_of_lt_of_le lp2 HB7.out.size)
            | (go_simp; go_at_call 21; refine Calls.mono (KA _ (Below.refl W4.heap.size W4).drew).out ?_; rintro e w6 ⟨rfl, H6⟩; have HB6 : Hid (Below W4.heap.size W4 w6) := (Below.refl W4.heap.size W4).drew.trans H6.out; obtain ⟨⟨ja0, ja1, ja2, ja3, ja4, ja5, ja6, ja7, ja8, ja9, ja10, ja11, ja12, ja13⟩, ⟨jb0, jb1, jb2, jb3, jb4, jb5, jb6, jb7, jb8, jb9, jb10, jb11, jb12, jb13⟩, jc0, jc1, jc2, jc3, jc4, jc5, jc6, jc7, jc8, jc9, jc10, jc11, jc12, jc13⟩ := KS w6 HB6.out; have lj0 : p < w6.heap.size := Nat.lt_of_lt_of_le lp HB6.out.size; have lj1 : p1 < w6.heap.size := Nat.lt_of_lt_of_le lp1 HB6.out.size; have lj2 : p2 < w6.heap.size := Nat.lt_of_lt_of_le lp2 HB6.out.size)
            | fail)) | fail
          all_goals go_wp2
          all_goals go_ret
          all_goals exact ⟨rfl, (HEnd _ HB7.out).out⟩
    · have hcb : (E1 == 0) = false := by simpa using hc
      have HEnd : Hid (Below w.heap.size w (w4.alloc (.cells #[.int .u16 G2.id, .bool G2.rs, .int .i64 G2.op, .bool G2.aa, .bool G2.tc, .bool G2.rd, .bool G2.ra, .bool G2.ad, .bool G2.cd, .int .i64 G2.rc, .slice Y2.q.a Y2.q.n Y2.q.c, .slice Y2.l1.a Y2.l1.n Y2.l1.c, .slice Y2.l2.a Y2.l2.n Y2.l2.c, .slice Y2.l3.a Y2.l3.n Y2.l3.c] 26))) := HB0.out.trans (HB4.out.mono HB0.out.size)
      go_wp2
      go_ret
      exact ⟨rfl, HEnd.out⟩
end Go.Proofs.YtkjnbgekaifdfaaGreat
namespace Go.Proofs.YtkjnbgekaifdfaaGreat
open Go.ChangeShapes Go.WideShapes Go.ChangeAt Go.RowKit
set_option linter.unusedVariables false
set_option linter.unusedSimpArgs false
set_option maxRecDepth 100000 in
set_option maxHeartbeats 16000000 in
theorem growsG (H : Hd) (x : MA) (m : Mg) (a b : Int) (w : World) (hm : MRd w H x m) (ht : x.l1.n + x.l2.n + x.l3.n ≤ 2000000) (hab : b < a) : Calls Tryz.prog 5 #[.agg #[.int .u16 H.id, .bool H.rs, .int .i64 H.op, .bool H.aa, .bool H.tc, .bool H.rd, .bool H.ra, .bool H.ad, .bool H.cd, .int .i64 H.rc, .slice x.q.a x.q.n x.q.c, .slice x.l1.a x.l1.n x.l1.c, .slice x.l2.a x.l2.n x.l2.c, .slice x.l3.a x.l3.n x.l3.c], .int .i64 a, .int .i64 b] w fun e w' => e = .returned (.bool true) ∧ Hid (Below w.heap.size w w') := by
  have hb0 := newF_below w (.cells #[.int .u16 H.id, .bool H.rs, .int .i64 H.op, .bool H.aa, .bool H.tc, .bool H.rd, .bool H.ra, .bool H.ad, .bool H.cd, .int .i64 H.rc, .slice x.q.a x.q.n x.q.c, .slice x.l1.a x.l1.n x.l1.c, .slice x.l2.a x.l2.n x.l2.c, .slice x.l3.a x.l3.n x.l3.c] 26)
  have HX : Hid ((w.alloc (.cells #[.int .u16 H.id, .bool H.rs, .int .i64 H.op, .bool H.aa, .bool H.tc, .bool H.rd, .bool H.ra, .bool H.ad, .bool H.cd, .int .i64 H.rc, .slice x.q.a x.q.n x.q.c, .slice x.l1.a x.l1.n x.l1.c, .slice x.l2.a x.l2.n x.l2.c, .slice x.l3.a x.l3.n x.l3.c] 26)).heap[w.heap.size]? = some (.cells #[.int .u16 H.id, .bool H.rs, .int .i64 H.op, .bool H.aa, .bool H.tc, .bool H.rd, .bool H.ra, .bool H.ad, .bool H.cd, .int .i64 H.rc, .slice x.q.a x.q.n x.q.c, .slice x.l1.a x.l1.n x.l1.c, .slice x.l2.a x.l2.n x.l2.c, .slice x.l3.a x.l3.n x.l3.c] 26)) := heap_alloc_new _ _
  have HB0 := Lib.hid hb0
  have HM : Hid (MRd (w.alloc (.cells #[.int .u16 H.id, .bool H.rs, .int .i64 H.op, .bool H.aa, .bool H.tc, .bool H.rd, .bool H.ra, .bool H.ad, .bool H.cd, .int .i64 H.rc, .slice x.q.a x.q.n x.q.c, .slice x.l1.a x.l1.n x.l1.c, .slice x.l2.a x.l2.n x.l2.c, .slice x.l3.a x.l3.n x.l3.c] 26)) H x m) := hm.below hb0
  have HHm : Hid (m.h = H) := hm.h
  have HMb : Hid (Mb m) := hm.b
  clear hb0 hm
  go_enter Tryz.func5, Tryz.ntmps5
  go_wp2_with fail
  generalize w.alloc (.cells #[.int .u16 H.id, .bool H.rs, .int .i64 H.op, .bool H.aa, .bool H.tc, .bool H.rd, .bool H.ra, .bool H.ad, .bool H.cd, .int .i64 H.rc, .slice x.q.a x.q.n x.q.c, .slice x.l1.a x.l1.n x.l1.c, .slice x.l2.a x.l2.n x.l2.c, .slice x.l3.a x.l3.n x.l3.c] 26) = w0 at *
  obtain ⟨p, hbb⟩ : ∃ p, p = w.heap.size := ⟨_, rfl⟩
  rw [← hbb] at HX
  simp only [← hbb]
  clear hbb
  have KM : ∀ W, Below w0.heap.size w0 W → (W.cell? ⟨p, 0, none⟩ = some (.int .u16 H.id) ∧ W.cell? ⟨p, 1, none⟩ = some (.bool H.rs) ∧ W.cell? ⟨p, 2, none⟩ = some (.int .i64 H.op) ∧ W.cell? ⟨p, 3, none⟩ = some (.bool H.aa) ∧ W.cell? ⟨p, 4, none⟩ = some (.bool H.tc) ∧ W.cell? ⟨p, 5, none⟩ = some (.bool H.rd) ∧ W.cell? ⟨p, 6, none⟩ = some (.bool H.ra) ∧ W.cell? ⟨p, 7, none⟩ = some (.bool H.ad) ∧ W.cell? ⟨p, 8, none⟩ = some (.bool H.cd) ∧ W.cell? ⟨p, 9, none⟩ = some (.int .i64 H.rc) ∧ W.cell? ⟨p, 10, none⟩ = some (.slice x.q.a x.q.n x.q.c) ∧ W.cell? ⟨p, 11, none⟩ = some (.slice x.l1.a x.l1.n x.l1.c) ∧ W.cell? ⟨p, 12, none⟩ = some (.slice x.l2.a x.l2.n x.l2.c) ∧ W.cell? ⟨p, 13, none⟩ = some (.slice x.l3.a x.l3.n x.l3.c)) := fun W hb => by
    have mm := (hb.block p (box_lt HX.out)).trans HX.out
    exact ⟨box_cell mm 0 _ rfl, box_cell mm 1 _ rfl, box_cell mm 2 _ rfl, box_cell mm 3 _ rfl, box_cell mm 4 _ rfl, box_cell mm 5 _ rfl, box_cell mm 6 _ rfl, box_cell mm 7 _ rfl, box_cell mm 8 _ rfl, box_cell mm 9 _ rfl, box_cell mm 10 _ rfl, box_cell mm 11 _ rfl, box_cell mm 12 _ rfl, box_cell mm 13 _ rfl⟩
  have K14 := fun W => Lib.hid (awake14 W)
  go_wp2_with fail
  refine (K14 _).out.mono ?_
  rintro e w1 ⟨rfl, H1⟩
  obtain ⟨k0, k1, k2, k3, k4, k5, k6, k7, k8, k9, k10, k11, k12, k13⟩ := KM w1 H1.out
  have lb : p < w1.heap.size := Nat.lt_of_lt_of_le (box_lt HX.out) (Below.size H1.out)
  have K8 := Lib.hid (largeM H x m w1 (HM.out.below H1.out) ht)
  go_wp2_with fail
  refine K8.out.mono ?_
  rintro e w2 ⟨bl, rfl, H2⟩
  have HB2 : Hid (Below w0.heap.size w0 w2) := H1.out.trans (H2.out.2.mono H1.out.size)
  have HFW := Lib.hid H2.out.1
  clear k0 k1 k2 k3 k4 k5 k6 k7 k8 k9 k10 k11 k12 k13 lb
  clear K8 K14 H1 H2
  obtain ⟨k0, k1, k2, k3, k4, k5, k6, k7, k8, k9, k10, k11, k12, k13⟩ := KM w2 HB2.out
  have lb : p < w2.heap.size := Nat.lt_of_lt_of_le (box_lt HX.out) (Below.size HB2.out)
  have HLE : Hid (b ≤ a) := by show _ ≤ _; omega
  cases bl with
  | true =>
    go_wp2
    go_ret
    exact ⟨rfl, HB0.out.trans (HB2.out.mono HB0.out.size)⟩
  | false =>
    have HF : Hid (Fin m) := (HFW.out rfl).fin
    have K16 := fun z W (h : MRd W H x m) => Lib.hid (cut16 H x m z W h HF.out)
    have HM2 : Hid (MRd w2 H x m) := HM.out.below HB2.out
    go_wp2_with fail
    refine (K16 b _ HM2.out).out.mono ?_
    rintro e w3 ⟨G1, Y1, rfl, H3⟩
    clear k0 k1 k2 k3 k4 k5 k6 k7 k8 k9 k10 k11 k12 k13 lb
    have hN3 := newF_below w3 (.cells #[.int .u16 G1.id, .bool G1.rs, .int .i64 G1.op, .bool G1.aa, .bool G1.tc, .bool G1.rd, .bool G1.ra, .bool G1.ad, .bool G1.cd, .int .i64 G1.rc, .slice Y1.q.a Y1.q.n Y1.q.c, .slice Y1.l1.a Y1.l1.n Y1.l1.c, .slice Y1.l2.a Y1.l2.n Y1.l2.c, .slice Y1.l3.a Y1.l3.n Y1.l3.c] 26)
    have HX3 : Hid ((w3.alloc (.cells #[.int .u16 G1.id, .bool G1.rs, .int .i64 G1.op, .bool G1.aa, .bool G1.tc, .bool G1.rd, .bool G1.ra, .bool G1.ad, .bool G1.cd, .int .i64 G1.rc, .slice Y1.q.a Y1.q.n Y1.q.c, .slice Y1.l1.a Y1.l1.n Y1.l1.c, .slice Y1.l2.a Y1.l2.n Y1.l2.c, .slice Y1.l3.a Y1.l3.n Y1.l3.c] 26)).heap[w3.heap.size]? = some (.cells #[.int .u16 G1.id, .bool G1.rs, .int .i64 G1.op, .bool G1.aa, .bool G1.tc, .bool G1.rd, .bool G1.ra, .bool G1.ad, .bool G1.cd, .int .i64 G1.rc, .slice Y1.q.a Y1.q.n Y1.q.c, .slice Y1.l1.a Y1.l1.n Y1.l1.c, .slice Y1.l2.a Y1.l2.n Y1.l2.c, .slice Y1.l3.a Y1.l3.n Y1.l3.c] 26)) := heap_alloc_new _ _
    have HB3 : Hid (Below w0.heap.size w0 (w3.alloc (.cells #[.int .u16 G1.id, .bool G1.rs, .int .i64 G1.op, .bool G1.aa, .bool G1.tc, .bool G1.rd, .bool G1.ra, .bool G1.ad, .bool G1.cd, .int .i64 G1.rc, .slice Y1.q.a Y1.q.n Y1.q.c, .slice Y1.l1.a Y1.l1.n Y1.l1.c, .slice Y1.l2.a Y1.l2.n Y1.l2.c, .slice Y1.l3.a Y1.l3.n Y1.l3.c] 26))) := (HB2.out.trans (H3.out.2.mono HB2.out.size)).trans (hN3.mono (Nat.le_trans HB2.out.size H3.out.2.size))
    have HR1 : Hid (cutE m b = 0 → MRd (w3.alloc (.cells #[.int .u16 G1.id, .bool G1.rs, .int .i64 G1.op, .bool G1.aa, .bool G1.tc, .bool G1.rd, .bool G1.ra, .bool G1.ad, .bool G1.cd, .int .i64 G1.rc, .slice Y1.q.a Y1.q.n Y1.q.c, .slice Y1.l1.a Y1.l1.n Y1.l1.c, .slice Y1.l2.a Y1.l2.n Y1.l2.c, .slice Y1.l3.a Y1.l3.n Y1.l3.c] 26)) G1 Y1 (cutF m b)) := fun h => (H3.out.1 h).below hN3
    clear H3 hN3 HM2
    obtain ⟨E1, hE1⟩ : ∃ z, z = cutE m b := ⟨_, rfl⟩
    have HE1 := Lib.hid hE1
    rw [← hE1] at HR1 ⊢
    clear hE1
    obtain ⟨k0, k1, k2, k3, k4, k5, k6, k7, k8, k9, k10, k11, k12, k13⟩ := KM _ HB3.out
    have lb : p < (w3.alloc (.cells #[.int .u16 G1.id, .bool G1.rs, .int .i64 G1.op, .bool G1.aa, .bool G1.tc, .bool G1.rd, .bool G1.ra, .bool G1.ad, .bool G1.cd, .int .i64 G1.rc, .slice Y1.q.a Y1.q.n Y1.q.c, .slice Y1.l1.a Y1.l1.n Y1.l1.c, .slice Y1.l2.a Y1.l2.n Y1.l2.c, .slice Y1.l3.a Y1.l3.n Y1.l3.c] 26)).heap.size := Nat.lt_of_lt_of_le (box_lt HX.out) (Below.size HB3.out)
    have HM3 : Hid (MRd (w3.alloc (.cells #[.int .u16 G1.id, .bool G1.rs, .int .i64 G1.op, .bool G1.aa, .bool G1.tc, .bool G1.rd, .bool G1.ra, .bool G1.ad, .bool G1.cd, .int .i64 G1.rc, .slice Y1.q.a Y1.q.n Y1.q.c, .slice Y1.l1.a Y1.l1.n Y1.l1.c, .slice Y1.l2.a Y1.l2.n Y1.l2.c, .slice Y1.l3.a Y1.l3.n Y1.l3.c] 26)) H x m) := HM.out.below HB3.out
    go_wp2_with fail
    refine (K16 a _ HM3.out).out.mono ?_
    rintro e w4 ⟨G2, Y2, rfl, H4⟩
    clear k0 k1 k2 k3 k4 k5 k6 k7 k8 k9 k10 k11 k12 k13 lb
    generalize w3.alloc (.cells #[.int .u16 G1.id, .bool G1.rs, .int .i64 G1.op, .bool G1.aa, .bool G1.tc, .bool G1.rd, .bool G1.ra, .bool G1.ad, .bool G1.cd, .int .i64 G1.rc, .slice Y1.q.a Y1.q.n Y1.q.c, .slice Y1.l1.a Y1.l1.n Y1.l1.c, .slice Y1.l2.a Y1.l2.n Y1.l2.c, .slice Y1.l3.a Y1.l3.n Y1.l3.c] 26) = W3 at *
    obtain ⟨p1, hp1⟩ : ∃ z, z = w3.heap.size := ⟨_, rfl⟩
    rw [← hp1] at HX3 ⊢
    clear hp1
    have hN4 := newF_below w4 (.cells #[.int .u16 G2.id, .bool G2.rs, .int .i64 G2.op, .bool G2.aa, .bool G2.tc, .bool G2.rd, .bool G2.ra, .bool G2.ad, .bool G2.cd, .int .i64 G2.rc, .slice Y2.q.a Y2.q.n Y2.q.c, .slice Y2.l1.a Y2.l1.n Y2.l1.c, .slice Y2.l2.a Y2.l2.n Y2.l2.c, .slice Y2.l3.a Y2.l3.n Y2.l3.c] 26)
    have HX4 : Hid ((w4.alloc (.cells #[.int .u16 G2.id, .bool G2.rs, .int .i64 G2.op, .bool G2.aa, .bool G2.tc, .bool G2.rd, .bool G2.ra, .bool G2.ad, .bool G2.cd, .int .i64 G2.rc, .slice Y2.q.a Y2.q.n Y2.q.c, .slice Y2.l1.a Y2.l1.n Y2.l1.c, .slice Y2.l2.a Y2.l2.n Y2.l2.c, .slice Y2.l3.a Y2.l3.n Y2.l3.c] 26)).heap[w4.heap.size]? = some (.cells #[.int .u16 G2.id, .bool G2.rs, .int .i64 G2.op, .bool G2.aa, .bool G2.tc, .bool G2.rd, .bool G2.ra, .bool G2.ad, .bool G2.cd, .int .i64 G2.rc, .slice Y2.q.a Y2.q.n Y2.q.c, .slice Y2.l1.a Y2.l1.n Y2.l1.c, .slice Y2.l2.a Y2.l2.n Y2.l2.c, .slice Y2.l3.a Y2.l3.n Y2.l3.c] 26)) := heap_alloc_new _ _
    have HB34 : Hid (Below W3.heap.size W3 (w4.alloc (.cells #[.int .u16 G2.id, .bool G2.rs, .int .i64 G2.op, .bool G2.aa, .bool G2.tc, .bool G2.rd, .bool G2.ra, .bool G2.ad, .bool G2.cd, .int .i64 G2.rc, .slice Y2.q.a Y2.q.n Y2.q.c, .slice Y2.l1.a Y2.l1.n Y2.l1.c, .slice Y2.l2.a Y2.l2.n Y2.l2.c, .slice Y2.l3.a Y2.l3.n Y2.l3.c] 26))) := H4.out.2.trans (hN4.mono H4.out.2.size)
    have HB4 : Hid (Below w0.heap.size w0 (w4.alloc (.cells #[.int .u16 G2.id, .bool G2.rs, .int .i64 G2.op, .bool G2.aa, .bool G2.tc, .bool G2.rd, .bool G2.ra, .bool G2.ad, .bool G2.cd, .int .i64 G2.rc, .slice Y2.q.a Y2.q.n Y2.q.c, .slice Y2.l1.a Y2.l1.n Y2.l1.c, .slice Y2.l2.a Y2.l2.n Y2.l2.c, .slice Y2.l3.a Y2.l3.n Y2.l3.c] 26))) := HB3.out.trans (HB34.out.mono HB3.out.size)
    have HR2 : Hid (cutE m a = 0 → MRd (w4.alloc (.cells #[.int .u16 G2.id, .bool G2.rs, .int .i64 G2.op, .bool G2.aa, .bool G2.tc, .bool G2.rd, .bool G2.ra, .bool G2.ad, .bool G2.cd, .int .i64 G2.rc, .slice Y2.q.a Y2.q.n Y2.q.c, .slice Y2.l1.a Y2.l1.n Y2.l1.c, .slice Y2.l2.a Y2.l2.n Y2.l2.c, .slice Y2.l3.a Y2.l3.n Y2.l3.c] 26)) G2 Y2 (cutF m a)) := fun h => (H4.out.1 h).below hN4
    clear H4 hN4 HM3 K16
    obtain ⟨E2, hE2⟩ : ∃ z, z = cutE m a := ⟨_, rfl⟩
    have HE2 := Lib.hid hE2
    rw [← hE2] at HR2 ⊢
    clear hE2
    by_cases hc : E1 = 0
    · subst hc
      obtain ⟨c1, c2, c3⟩ := cut_grows m HLE.out HE1.out.symm
      have hc2 : E2 = 0 := HE2.out.trans c1
      subst hc2
      have HA1 : Hid (MRd W3 G1 Y1 (cutF m b)) := HR1.out rfl
      have HA2 : Hid (MRd (w4.alloc (.cells #[.int .u16 G2.id, .bool G2.rs, .int .i64 G2.op, .bool G2.aa, .bool G2.tc, .bool G2.rd, .bool G2.ra, .bool G2.ad, .bool G2.cd, .int .i64 G2.rc, .slice Y2.q.a Y2.q.n Y2.q.c, .slice Y2.l1.a Y2.l1.n Y2.l1.c, .slice Y2.l2.a Y2.l2.n Y2.l2.c, .slice Y2.l3.a Y2.l3.n Y2.l3.c] 26)) G2 Y2 (cutF m a)) := HR2.out rfl
      have HFs : Hid (Fin (cutF m b) ∧ Fin (cutF m a)) := ⟨(cutE_ok HE1.out.symm).2.1.fin, (cutE_ok HE2.out.symm).2.1.fin⟩
      have HTC : Hid (G2.tc = true → G1.tc = true ∨ H.tc = true) := by
        intro h
        rw [← HA1.out.h, ← HHm.out]
        exact c3 (by rw [HA2.out.h]; exact h)
      have hrl : ((recN (cutF m b) : Nat) : Int) ≤ ((recN (cutF m a) : Nat) : Int) := by omega
      go_upto_region 10 with (fail)
      generalize w4.alloc (.cells #[.int .u16 G2.id, .bool G2.rs, .int .i64 G2.op, .bool G2.aa, .bool G2.tc, .bool G2.rd, .bool G2.ra, .bool G2.ad, .bool G2.cd, .int .i64 G2.rc, .slice Y2.q.a Y2.q.n Y2.q.c, .slice Y2.l1.a Y2.l1.n Y2.l1.c, .slice Y2.l2.a Y2.l2.n Y2.l2.c, .slice Y2.l3.a Y2.l3.n Y2.l3.c] 26) = W4 at *
      obtain ⟨p2, hp2⟩ : ∃ z, z = w4.heap.size := ⟨_, rfl⟩
      rw [← hp2] at HX4 ⊢
      clear hp2
      have KA : ∀ W, Below W4.heap.size W4 W → Hid (Calls Tryz.prog 21 #[.agg #[.int .u16 G1.id, .bool G1.rs, .int .i64 G1.op, .bool G1.aa, .bool G1.tc, .bool G1.rd, .bool G1.ra, .bool G1.ad, .bool G1.cd, .int .i64 G1.rc, .slice Y1.q.a Y1.q.n Y1.q.c, .slice Y1.l1.a Y1.l1.n Y1.l1.c, .slice Y1.l2.a Y1.l2.n Y1.l2.c, .slice Y1.l3.a Y1.l3.n Y1.l3.c]] W fun e w' => e = .returned (.int .i64 ((recN (cutF m b) : Nat) : Int)) ∧ Hid (Below W.heap.size W w')) := fun W hW => records21 G1 Y1 _ W ((HA1.out.below HB34.out).below hW) HFs.out.1
      have KB : ∀ W, Below W4.heap.size W4 W → Hid (Calls Tryz.prog 21 #[.agg #[.int .u16 G2.id, .bool G2.rs, .int .i64 G2.op, .bool G2.aa, .bool G2.tc, .bool G2.rd, .bool G2.ra, .bool G2.ad, .bool G2.cd, .int .i64 G2.rc, .slice Y2.q.a Y2.q.n Y2.q.c, .slice Y2.l1.a Y2.l1.n Y2.l1.c, .slice Y2.l2.a Y2.l2.n Y2.l2.c, .slice Y2.l3.a Y2.l3.n Y2.l3.c]] W fun e w' => e = .returned (.int .i64 ((recN (cutF m a) : Nat) : Int)) ∧ Hid (Below W.heap.size W w')) := fun W hW => records21 G2 Y2 _ W (HA2.out.below hW) HFs.out.2
      generalize recN (cutF m b) = R1 at *
      generalize recN (cutF m a) = R2 at *
      have KS : ∀ W, Below W4.heap.size W4 W → ((W.cell? ⟨p, 0, none⟩ = some (.int .u16 H.id) ∧ W.cell? ⟨p, 1, none⟩ = some (.bool H.rs) ∧ W.cell? ⟨p, 2, none⟩ = some (.int .i64 H.op) ∧ W.cell? ⟨p, 3, none⟩ = some (.bool H.aa) ∧ W.cell? ⟨p, 4, none⟩ = some (.bool H.tc) ∧ W.cell? ⟨p, 5, none⟩ = some (.bool H.rd) ∧ W.cell? ⟨p, 6, none⟩ = some (.bool H.ra) ∧ W.cell? ⟨p, 7, none⟩ = some (.bool H.ad) ∧ W.cell? ⟨p, 8, none⟩ = some (.bool H.cd) ∧ W.cell? ⟨p, 9, none⟩ = some (.int .i64 H.rc) ∧ W.cell? ⟨p, 10, none⟩ = some (.slice x.q.a x.q.n x.q.c) ∧ W.cell? ⟨p, 11, none⟩ = some (.slice x.l1.a x.l1.n x.l1.c) ∧ W.cell? ⟨p, 12, none⟩ = some (.slice x.l2.a x.l2.n x.l2.c) ∧ W.cell? ⟨p, 13, none⟩ = some (.slice x.l3.a x.l3.n x.l3.c)) ∧ (W.cell? ⟨p1, 0, none⟩ = some (.int .u16 G1.id) ∧ W.cell? ⟨p1, 1, none⟩ = some (.bool G1.rs) ∧ W.cell? ⟨p1, 2, none⟩ = some (.int .i64 G1.op) ∧ W.cell? ⟨p1, 3, none⟩ = some (.bool G1.aa) ∧ W.cell? ⟨p1, 4, none⟩ = some (.bool G1.tc) ∧ W.cell? ⟨p1, 5, none⟩ = some (.bool G1.rd) ∧ W.cell? ⟨p1, 6, none⟩ = some (.bool G1.ra) ∧ W.cell? ⟨p1, 7, none⟩ = some (.bool G1.ad) ∧ W.cell? ⟨p1, 8, none⟩ = some (.bool G1.cd) ∧ W.cell? ⟨p1, 9, none⟩ = some (.int .i64 G1.rc) ∧ W.cell? ⟨p1, 10, none⟩ = some (.slice Y1.q.a Y1.q.n Y1.q.c) ∧ W.cell? ⟨p1, 11, none⟩ = some (.slice Y1.l1.a Y1.l1.n Y1.l1.c) ∧ W.cell? ⟨p1, 12, none⟩ = some (.slice Y1.l2.a Y1.l2.n Y1.l2.c) ∧ W.cell? ⟨p1, 13, none⟩ = some (.slice Y1.l3.a Y1.l3.n Y1.l3.c)) ∧ (W.cell? ⟨p2, 0, none⟩ = some (.int .u16 G2.id) ∧ W.cell? ⟨p2, 1, none⟩ = some (.bool G2.rs) ∧ W.cell? ⟨p2, 2, none⟩ = some (.int .i64 G2.op) ∧ W.cell? ⟨p2, 3, none⟩ = some (.bool G2.aa) ∧ W.cell? ⟨p2, 4, none⟩ = some (.bool G2.tc) ∧ W.cell? ⟨p2, 5, none⟩ = some (.bool G2.rd) ∧ W.cell? ⟨p2, 6, none⟩ = some (.bool G2.ra) ∧ W.cell? ⟨p2, 7, none⟩ = some (.bool G2.ad) ∧ W.cell? ⟨p2, 8, none⟩ = some (.bool G2.cd) ∧ W.cell? ⟨p2, 9, none⟩ = some (.int .i64 G2.rc) ∧ W.cell? ⟨p2, 10, none⟩ = some (.slice Y2.q.a Y2.q.n Y2.q.c) ∧ W.cell? ⟨p2, 11, none⟩ = some (.slice Y2.l1.a Y2.l1.n Y2.l1.c) ∧ W.cell? ⟨p2, 12, none⟩ = some (.slice Y2.l2.a Y2.l2.n Y2.l2.c) ∧ W.cell? ⟨p2, 13, none⟩ = some (.slice Y2.l3.a Y2.l3.n Y2.l3.c))) := fun W hW => by
        have mm := (hW.block p2 (box_lt HX4.out)).trans HX4.out
        have hX3 := (HB34.out.block p1 (box_lt HX3.out)).trans HX3.out
        refine ⟨KM W (HB4.out.trans (hW.mono HB4.out.size)), ?_, ⟨box_cell mm 0 _ rfl, box_cell mm 1 _ rfl, box_cell mm 2 _ rfl, box_cell mm 3 _ rfl, box_cell mm 4 _ rfl, box_cell mm 5 _ rfl, box_cell mm 6 _ rfl, box_cell mm 7 _ rfl, box_cell mm 8 _ rfl, box_cell mm 9 _ rfl, box_cell mm 10 _ rfl, box_cell mm 11 _ rfl, box_cell mm 12 _ rfl, box_cell mm 13 _ rfl⟩⟩
        have mm := (hW.block p1 (box_lt hX3)).trans hX3
        exact ⟨box_cell mm 0 _ rfl, box_cell mm 1 _ rfl, box_cell mm 2 _ rfl, box_cell mm 3 _ rfl, box_cell mm 4 _ rfl, box_cell mm 5 _ rfl, box_cell mm 6 _ rfl, box_cell mm 7 _ rfl, box_cell mm 8 _ rfl, box_cell mm 9 _ rfl, box_cell mm 10 _ rfl, box_cell mm 11 _ rfl, box_cell mm 12 _ rfl, box_cell mm 13 _ rfl⟩
      have HEnd : ∀ W, Below W4.heap.size W4 W → Hid (Below w.heap.size w W) := fun W hW => HB0.out.trans ((HB4.out.trans (hW.mono HB4.out.size)).mono HB0.out.size)
      have lp : p < W4.heap.size := Nat.lt_of_lt_of_le (box_lt HX.out) HB4.out.size
      have lp1 : p1 < W4.heap.size := Nat.lt_of_lt_of_le (box_lt HX3.out) HB34.out.size
      have lp2 := box_lt HX4.out
      clear HR1 HR2 HA1 HA2 HFs HE1 HE2 c1 c2 c3 HM HX HX3 HX4 KM HFW HF HLE HB34 HB2 HB3
      have HTC2 := HTC.out
      clear HTC
      cases hg2 : G2.tc with
      | false =>
        rw [hg2] at KS KB
        obtain ⟨⟨ia0, ia1, ia2, ia3, ia4, ia5, ia6, ia7, ia8, ia9, ia10, ia11, ia12, ia13⟩, ⟨ib0, ib1, ib2, ib3, ib4, ib5, ib6, ib7, ib8, ib9, ib10, ib11, ib12, ib13⟩, ic0, ic1, ic2, ic3, ic4, ic5, ic6, ic7, ic8, ic9, ic10, ic11, ic12, ic13⟩ := KS W4 (Below.refl _ _)
        first | (go_region_law (first
          | (go_simp; go_at_call 21; have hb := HB6.out; refine Calls.mono (KB _ hb).out ?_; rintro e w7 ⟨rfl, H7⟩; have HB7 : Hid (Below W4.heap.size W4 w7) := hb.trans (H7.out.mono hb.size); obtain ⟨⟨qa0, qa1, qa2, qa3, qa4, qa5, qa6, qa7, qa8, qa9, qa10, qa11, qa12, qa13⟩, ⟨qb0, qb1, qb2, qb3, qb4, qb5, qb6, qb7, qb8, qb9, qb10, qb11, qb12, qb13⟩, qc0, qc1, qc2, qc3, qc4, qc5, qc6, qc7, qc8, qc9, qc10, qc11, qc12, qc13⟩ := KS w7 HB7.out; have lq0 : p < w7.heap.size := Nat.lt_of_lt_of_le lp HB7.out.size; have lq1 : p1 < w7.heap.size := Nat.lt_of_lt_of_le lp1 HB7.out.size; have lq2 : p2 < w7.heap.size := Nat.lt_of_lt_of_le lp2 HB7.out.size)
          | (go_simp; go_at_call 21; refine Calls.mono (KA _ (Below.refl W4.heap.size W4).drew).out ?_; rintro e w6 ⟨rfl, H6⟩; have HB6 : Hid (Below W4.heap.size W4 w6) := (Below.refl W4.heap.size W4).drew.trans H6.out; obtain ⟨⟨ja0, ja1, ja2, ja3, ja4, ja5, ja6, ja7, ja8, ja9, ja10, ja11, ja12, ja13⟩, ⟨jb0, jb1, jb2, jb3, jb4, jb5, jb6, jb7, jb8, jb9, jb10, jb11, jb12, jb13⟩, jc0, jc1, jc2, jc3, jc4, jc5, jc6, jc7, jc8, jc9, jc10, jc11, jc12, jc13⟩ := KS w6 HB6.out; have lj0 : p < w6.heap.size := Nat.lt_of_lt_of_le lp HB6.out.size; have lj1 : p1 < w6.heap.size := Nat.lt_of_lt_of_le lp1 HB6.out.size; have lj2 : p2 < w6.heap.size := Nat.lt_of_lt_of_le lp2 HB6.out.size)
          | fail)) | fail
        all_goals go_wp2
        all_goals go_ret
        all_goals exact ⟨rfl, (HEnd _ HB7.out).out⟩
      | true =>
        rw [hg2] at KS KB
        cases hg1 : G1.tc with
        | true =>
          rw [hg1] at KS KA
          obtain ⟨⟨ia0, ia1, ia2, ia3, ia4, ia5, ia6, ia7, ia8, ia9, ia10, ia11, ia12, ia13⟩, ⟨ib0, ib1, ib2, ib3, ib4, ib5, ib6, ib7, ib8, ib9, ib10, ib11, ib12, ib13⟩, ic0, ic1, ic2, ic3, ic4, ic5, ic6, ic7, ic8, ic9, ic10, ic11, ic12, ic13⟩ := KS W4 (Below.refl _ _)
          first | (go_region_law (first
            | (go_simp; go_at_call 21; have hb := HB6.out; refine Calls.mono (KB _ hb).out ?_; rintro e w7 ⟨rfl, H7⟩; have HB7 : Hid (Below W4.heap.size W4 w7) := hb.trans (H7.out.mono hb.size); obtain ⟨⟨qa0, qa1, qa2, qa3, qa4, qa5, qa6, qa7, qa8, qa9, qa10, qa11, qa12, qa13⟩, ⟨qb0, qb1, qb2, qb3, qb4, qb5, qb6, qb7, qb8, qb9, qb10, qb11, qb12, qb13⟩, qc0, qc1, qc2, qc3, qc4, qc5, qc6, qc7, qc8, qc9, qc10, qc11, qc12, qc13⟩ := KS w7 HB7.out; have lq0 : p < w7.heap.size := Nat.lt_of_lt_of_le lp HB7.out.size; have lq1 : p1 < w7.heap.size := Nat.lt_of_lt_of_le lp1 HB7.out.size; have lq2 : p2 < w7.heap.size := Nat.lt_of_lt_of_le lp2 HB7.out.size)
            | (go_simp; go_at_call 21; refine Calls.mono (KA _ (Below.refl W4.heap.size W4).drew).out ?_; rintro e w6 ⟨rfl, H6⟩; have HB6 : Hid (Below W4.heap.size W4 w6) := (Below.refl W4.heap.size W4).drew.trans H6.out; obtain ⟨⟨ja0, ja1, ja2, ja3, ja4, ja5, ja6, ja7, ja8, ja9, ja10, ja11, ja12, ja13⟩, ⟨jb0, jb1, jb2, jb3, jb4, jb5, jb6, jb7, jb8, jb9, jb10, jb11, jb12, jb13⟩, jc0, jc1, jc2, jc3, jc4, jc5, jc6, jc7, jc8, jc9, jc10, jc11, jc12, jc13⟩ := KS w6 HB6.out; have lj0 : p < w6.heap.size := Nat.lt_of_lt_of_le lp HB6.out.size; have lj1 : p1 < w6.heap.size := Nat.lt_of_lt_of_le lp1 HB6.out.size; have lj2 : p2 < w6.heap.size := Nat.lt_of_lt_of_le lp2 HB6.out.size)
            | fail)) | fail
          all_goals go_wp2
          all_goals go_ret
          all_goals exact ⟨rfl, (HEnd _ HB7.out).out⟩
        | false =>
          have hH : H.tc = true := by
            rcases HTC2 hg2 with h | h
            · rw [hg1] at h; cases h
            · exact h
          rw [hg1] at KS KA
          rw [hH] at KS
          clear HTC2
          obtain ⟨⟨ia0, ia1, ia2, ia3, ia4, ia5, ia6, ia7, ia8, ia9, ia10, ia11, ia12, ia13⟩, ⟨ib0, ib1, ib2, ib3, ib4, ib5, ib6, ib7, ib8, ib9, ib10, ib11, ib12, ib13⟩, ic0, ic1, ic2, ic3, ic4, ic5, ic6, ic7, ic8, ic9, ic10, ic11, ic12, ic13⟩ := KS W4 (Below.refl _ _)
          first | (go_region_law (first
            | (go_simp; go_at_call 21; have hb := HB6.out; refine Calls.mono (KB _ hb).out ?_; rintro e w7 ⟨rfl, H7⟩; have HB7 : Hid (Below W4.heap.size W4 w7) := hb.trans (H7.out.mono hb.size); obtain ⟨⟨qa0, qa1, qa2, qa3, qa4, qa5, qa6, qa7, qa8, qa9, qa10, qa11, qa12, qa13⟩, ⟨qb0, qb1, qb2, qb3, qb4, qb5, qb6, qb7, qb8, qb9, qb10, qb11, qb12, qb13⟩, qc0, qc1, qc2, qc3, qc4, qc5, qc6, qc7, qc8, qc9, qc10, qc11, qc12, qc13⟩ := KS w7 HB7.out; have lq0 : p < w7.heap.size := Nat.lt_of_lt_of_le lp HB7.out.size; have lq1 : p1 < w7.heap.size := Nat.lt_of_lt_of_le lp1 HB7.out.size; have lq2 : p2 < w7.heap.size := Nat.lt_of_lt_of_le lp2 HB7.out.size)
            | (go_simp; go_at_call 21; refine Calls.mono (KA _ (Below.refl W4.heap.size W4).drew).out ?_; rintro e w6 ⟨rfl, H6⟩; have HB6 : Hid (Below W4.heap.size W4 w6) := (Below.refl W4.heap.size W4).drew.trans H6.out; obtain ⟨⟨ja0, ja1, ja2, ja3, ja4, ja5, ja6, ja7, ja8, ja9, ja10, ja11, ja12, ja13⟩, ⟨jb0, jb1, jb2, jb3, jb4, jb5, jb6, jb7, jb8, jb9, jb10, jb11, jb12, jb13⟩, jc0, jc1, jc2, jc3, jc4, jc5, jc6, jc7, jc8, jc9, jc10, jc11, jc12, jc13⟩ := KS w6 HB6.out; have lj0 : p < w6.heap.size := Nat.lt_of_lt_of_le lp HB6.out.size; have lj1 : p1 < w6.heap.size := Nat.lt_of_lt_of_le lp1 HB6.out.size; have lj2 : p2 < w6.heap.size := Nat.lt_of_lt_of_le lp2 HB6.out.size)
            | fail)) | fail
          all_goals go_wp2
          all_goals go_ret
          all_goals exact ⟨rfl, (HEnd _ HB7.out).out⟩
    · have hcb : (E1 == 0) = false := by simpa using hc
      have HEnd : Hid (Below w.heap.size w (w4.alloc (.cells #[.int .u16 G2.id, .bool G2.rs, .int .i64 G2.op, .bool G2.aa, .bool G2.tc, .bool G2.rd, .bool G2.ra, .bool G2.ad, .bool G2.cd, .int .i64 G2.rc, .slice Y2.q.a Y2.q.n Y2.q.c, .slice Y2.l1.a Y2.l1.n Y2.l1.c, .slice Y2.l2.a Y2.l2.n Y2.l2.c, .slice Y2.l3.a Y2.l3.n Y2.l3.c] 26))) := HB0.out.trans (HB4.out.mono HB0.out.size)
      go_wp2
      go_ret
      exact ⟨rfl, HEnd.out⟩
end Go.Proofs.YtkjnbgekaifdfaaGreat
namespace Go.Proofs.YtkjnbgekaifdfaaGreat
open Go.ChangeShapes Go.WideShapes Go.ChangeAt Go.RowKit Go.Maps
theorem growsPlain (H : Hd) (x : MA) (m : Mg) (a b : Int) (w : World) (hm : MRd w H x m) (ht : x.l1.n + x.l2.n + x.l3.n ≤ 2000000) : Calls Tryz.prog 5 #[.agg #[.int .u16 H.id, .bool H.rs, .int .i64 H.op, .bool H.aa, .bool H.tc, .bool H.rd, .bool H.ra, .bool H.ad, .bool H.cd, .int .i64 H.rc, .slice x.q.a x.q.n x.q.c, .slice x.l1.a x.l1.n x.l1.c, .slice x.l2.a x.l2.n x.l2.c, .slice x.l3.a x.l3.n x.l3.c], .int .i64 a, .int .i64 b] w fun e w' => e = .returned (.bool true) ∧ Below w.heap.size w w' := by
  by_cases hab : b < a
  · refine (growsG H x m a b w hm ht hab).mono ?_
    rintro e w' ⟨h1, h2⟩
    exact ⟨h1, h2.out⟩
  · refine (growsL H x m a b w hm ht hab).mono ?_
    rintro e w' ⟨h1, h2⟩
    exact ⟨h1, h2.out⟩
end Go.Proofs.YtkjnbgekaifdfaaGreat
namespace Go.Proofs.YtkjnbgekaifdfaaGreat
open Go.ChangeShapes Go.WideShapes Go.ChangeAt Go.RowKit Go.Deep Go.Maps
set_option linter.unusedVariables false
set_option linter.unusedSimpArgs false
set_option maxRecDepth 100000
variable {H : Type} {enc : TypeId × Value → H} {W : World}
variable {H : Type} {enc : TypeId × Value → H} {W : World}
theorem bulk_pos (d : DataW H) : 1 ≤ Rows.uptoBulk d := by
  cases d with
  | lit l => cases l <;> simp [Rows.uptoBulk]
  | _ => simp [Rows.uptoBulk]
theorem bulk_len : ∀ l : List (DataW H), l.length ≤ Rows.uptoBulkAll l
  | [] => by simp [Rows.uptoBulkAll]
  | d :: l => by
    have h1 := bulk_len l
    have h2 := bulk_pos d
    simp only [Rows.uptoBulkAll, List.length_cons]
    omega
theorem bulk_slice {t e : TypeId} {a : Option Addr} {len cap fuel : Nat} {x : DataW H × List MemPlace} (ht : Tryz.prog.underlying t = some (.slice e)) (hf : DataW.trod enc Tryz.prog W 0 (fun _ => true) true fuel t [Value.slice a len cap] = some x) : len ≤ Rows.uptoBulk x.1 := by
  rcases DataW.trod_slice ht hf with ⟨hcs, _⟩ | ⟨x', l, c, elems, rest, n, _, hcs, hx, _, hl, hm, hel, hcell, _⟩
  · simp at hcs
    omega
  · simp at hcs
    obtain ⟨_, rfl, _⟩ := hcs
    rw [hx]
    have := bulk_len (elems.map (·.1))
    simp only [Rows.uptoBulk, List.length_map] at this ⊢
    omega
theorem list14 {α : Type} {l : List α} (h : l.length = 14) : ∃ v0 v1 v2 v3 v4 v5 v6 v7 v8 v9 v10 v11 v12 v13, l = [v0, v1, v2, v3, v4, v5, v6, v7, v8, v9, v10, v11, v12, v13] := by
  match l, h with
  | [v0, v1, v2, v3, v4, v5, v6, v7, v8, v9, v10, v11, v12, v13], _ => exact ⟨v0, v1, v2, v3, v4, v5, v6, v7, v8, v9, v10, v11, v12, v13, rfl⟩
theorem cells24 : Tryz.prog.cellsOf 24 = 1 := by kernel_rfl
theorem bulk_message {fuel : Nat} {d : DataW H} {p : List MemPlace} {v0 v1 v2 v3 v4 v5 v6 v7 v8 v9 v10 : Value} {a1 a2 a3 : Option Addr} {n1 n2 n3 c1 c2 c3 : Nat} (h : DataW.trod enc Tryz.prog W 0 (fun _ => true) true fuel 26 [v0, v1, v2, v3, v4, v5, v6, v7, v8, v9, v10, .slice a1 n1 c1, .slice a2 n2 c2, .slice a3 n3 c3] = some (d, p)) : n1 + n2 + n3 ≤ Rows.uptoBulk d := by
  obtain ⟨xs, n, _, hx, _, hlen, hall⟩ := DataW.trod_struct Tryz.underlying26 h
  have e1 := hall 11 _ rfl
  have e2 := hall 12 _ rfl
  have e3 := hall 13 _ rfl
  obtain ⟨y0, y1, y2, y3, y4, y5, y6, y7, y8, y9, y10, y11, y12, y13, rfl⟩ := list14 (hlen.trans rfl)
  replace e1 : DataW.trod enc Tryz.prog W 0 (fun _ => true) true n 24 (List.take (Tryz.prog.cellsOf 24) [.slice a1 n1 c1, .slice a2 n2 c2, .slice a3 n3 c3]) = some y11 := e1
  replace e2 : DataW.trod enc Tryz.prog W 0 (fun _ => true) true n 24 (List.take (Tryz.prog.cellsOf 24) [.slice a2 n2 c2, .slice a3 n3 c3]) = some y12 := e2
  replace e3 : DataW.trod enc Tryz.prog W 0 (fun _ => true) true n 24 (List.take (Tryz.prog.cellsOf 24) [.slice a3 n3 c3]) = some y13 := e3
  rw [cells24] at e1 e2 e3
  have b1 := bulk_slice Tryz.underlying24 (show DataW.trod enc Tryz.prog W 0 (fun _ => true) true n 24 [.slice a1 n1 c1] = some y11 from e1)
  have b2 := bulk_slice Tryz.underlying24 (show DataW.trod enc Tryz.prog W 0 (fun _ => true) true n 24 [.slice a2 n2 c2] = some y12 from e2)
  have b3 := bulk_slice Tryz.underlying24 (show DataW.trod enc Tryz.prog W 0 (fun _ => true) true n 24 [.slice a3 n3 c3] = some y13 from e3)
  have hd : d = .agg [y0.1, y1.1, y2.1, y3.1, y4.1, y5.1, y6.1, y7.1, y8.1, y9.1, y10.1, y11.1, y12.1, y13.1] := congrArg (·.1) hx
  rw [hd]
  simp only [Rows.uptoBulk, Rows.uptoBulkAll]
  omega
theorem open_messageB {base : Nat} {v : Value} {d : DataW H} {p : List MemPlace} (hv : Value.okWide Tryz.prog W .any base 26 v) (h : DataW.Trod enc Tryz.prog W 0 (fun _ => true) true 26 v d p) : ∃ (HH : Hd) (x : MA) (m : Mg), v = .agg #[.int .u16 HH.id, .bool HH.rs, .int .i64 HH.op, .bool HH.aa, .bool HH.tc, .bool HH.rd, .bool HH.ra, .bool HH.ad, .bool HH.cd, .int .i64 HH.rc, .slice x.q.a x.q.n x.q.c, .slice x.l1.a x.l1.n x.l1.c, .slice x.l2.a x.l2.n x.l2.c, .slice x.l3.a x.l3.n x.l3.c] ∧ MRd W HH x m ∧ x.l1.n + x.l2.n + x.l3.n ≤ Rows.uptoBulk d := by
  obtain ⟨HH, x, m, rfl, hm⟩ := open_message hv h
  obtain ⟨fuel, hf⟩ := h
  exact ⟨HH, x, m, rfl, hm, bulk_message hf⟩
end Go.Proofs.YtkjnbgekaifdfaaGreat
